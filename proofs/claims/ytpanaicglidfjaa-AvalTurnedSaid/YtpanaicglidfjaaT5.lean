/-
  What the functions do: contracts, and their questions answered. No condition but what its theorems ask.
-/
import Derived.Test.YtpanaicglidfjaaT4
namespace Go.Proofs.Ytpanaicglidfjaa.Wd
open Go.Proofs.Ytpanaicglidfjaa.Eng Go.Proofs.Ytpanaicglidfjaa.Sen Go.RowKit
set_option linter.defProp false
set_option linter.unusedVariables false
set_option linter.unusedSimpArgs false
set_option maxRecDepth 1000000
noncomputable section
noncomputable section
variable (x0:GJ×ByteArray) (x1:List AT) (x2:Int) (x3:Int) (x4:GJ) (x5:ByteArray) (x6:Int) (x7:Nat) (x8:FlS) (x9:List AT×Int×GJ×ByteArray×Bool) (x10:Int) (x11:Int) (x12:ByteArray) (x13:Option Addr) (x14:Nat) (x15:Option Addr) (x16:Nat) (x17:Nat) (x18:Nat) (x19:Int) (x20:Nat×Int) (x21:GJ×ByteArray) (x22:List AT×Int×GJ×ByteArray) (x23:Option Addr) (x24:Nat) (x25:TmB) (x26:Prop) (x27:Nat->Option Obj) (x28:FdB) (x29:Bool) (x30:Nat×Int)
 abbrev qd9:=(if x28.2.1=0 then qhs x1 x2 x28.2.2.1 x28.2.2.2 else x1)++x28.1
 abbrev zbr16:=x2=0/\(∀(i0:AT),i0∈x28.1->q4k (List.length (x1++x28.1)) i0)/\(∀(i1:AF),i1∈x28.2.2.2->(0<=AF.ty i1/\AF.ty i1<(↑(List.length (x1++x28.1)):Int))/\GJ.wf (AF.df i1))/\List.length x28.2.2.2<=30
 abbrev qvu:=(List.length (x1++x28.1)<=60/\(x28.2.1=0->zbr16 x1 x2 x28))
 abbrev qsv:=(∀(i0:AT),i0∈x28.1->AT.ok i0 x27)/\slP AF.cells x28.2.2.1 x28.2.2.2 x27/\∀(i1:AF),i1∈x28.2.2.2->AF.ok i1 x27
 abbrev zbr21:=∃(i0:List AT),x6=x6/\List.length i0=List.length x1/\x2=x2/\q00 AT.cells i0=q00 AT.cells x1/\True/\∃(i1:FdB),List.length (qd9 x1 x3 i1)=List.length i0/\i1.2.1=faE x2 x6/\q00 AT.cells (qd9 x1 x3 i1)=q00 AT.cells i0/\qvu x1 x2 i1/\(∀(i2:Pub),True/\GJ.ok x4 i2->qsv i2 i1)/\True
 abbrev q18:=Option.getD (q0z x0.2 x0.1) zJ
 abbrev qlv:=(↑(GJ.y (q18 x0)).2.1:Int)
 abbrev zbr26:=GJ.k x4=GJ.k x4/\GJ.n x4=GJ.n x4/\GJ.s x4=GJ.s x4/\(GJ.y x4).1=(GJ.y x4).1/\(GJ.y x4).2.1=(GJ.y x4).2.1/\(GJ.y x4).2.2=(GJ.y x4).2.2/\(GJ.x x4).1=(GJ.x x4).1/\(GJ.x x4).2.1=(GJ.x x4).2.1/\(GJ.x x4).2.2=(GJ.x x4).2.2/\x26
 abbrev q4h:=GJ.k (q18 x0)=GJ.k (q18 x0)/\GJ.n (q18 x0)=GJ.n (q18 x0)/\GJ.s (q18 x0)=GJ.s (q18 x0)/\(GJ.y (q18 x0)).1=(GJ.y (q18 x0)).1/\(GJ.y (q18 x0)).2.1=(GJ.y (q18 x0)).2.1/\(GJ.y (q18 x0)).2.2=(GJ.y (q18 x0)).2.2/\(GJ.x (q18 x0)).1=(GJ.x (q18 x0)).1/\(GJ.x (q18 x0)).2.1=(GJ.x (q18 x0)).2.1/\(GJ.x (q18 x0)).2.2=(GJ.x (q18 x0)).2.2/\x26
 abbrev zbr34:=(∀(i0:AT),i0∈x8.2.2.1->AT.ok i0 x27)/\∀(i1:AF),i1∈x8.2.2.2->AF.ok i1 x27
 abbrev q8a:=(True/\GJ.ok x4 x27)/\zbr34 x8 x27
 abbrev q3z:=woR x9.2.2.1 x9.2.2.2.1 x9.2.2.2.2 x9.2.1
 abbrev qnc:=(q3z x9).2=0
 abbrev qqy:=List.length x8.2.2.2=List.length x8.2.2.2
 abbrev qbh:=(↑x8.1:Int)=(↑x8.1:Int)/\x2=x2/\x3=x3/\qqy x8/\x26
 abbrev qso:=List.length x9.1=List.length x9.1
 abbrev qty:=q00 AT.cells x9.1=q00 AT.cells x9.1
 abbrev zbr37:=qso x9/\(q3z x9).2=(q3z x9).2/\qty x9/\x26
 abbrev q7i:=x2=x2/\x3=x3/\x5=x5/\x13=x13/\x7=x7/\x14=x14/\x15=x15/\x16=x16/\x17=x17/\q00 AF.cells x8.2.2.2=q00 AF.cells x8.2.2.2/\zbr26 x4 ((q3z x9).1=(q3z x9).1/\x26)
 abbrev qb1:=(∀(i0:Pub),(q8a x4 x8 i0)->q8a x4 x8 i0)
 abbrev zbr42:=(q3z x9).1=(q3z x9).1/\ByteArray.size (q3z x9).1<1000000/\∃(i0:Bool),x5=x5/\qbh x2 x3 x8 (i0= !q5g (q3z x9).1/\zbr37 x9 (q7i x6 x10 x4 x12 x7 x8 x9 x13 x14 x15 x16 x17 (q4h x0 (qb1 x4 x8/\True/\True))))
 abbrev zbr20:=(x29=true->∃(i0:List AT),(6:Int)=6/\List.length i0=List.length x9.1/\(q3z x9).2=(q3z x9).2/\q00 AT.cells i0=q00 AT.cells x9.1/\True/\x5=x5/\qbh x2 x3 x8 (List.length x9.1=List.length i0/\faE (q3z x9).2 (6:Int)=faE (q3z x9).2 6/\q00 AT.cells x9.1=q00 AT.cells i0/\q7i x6 x10 x4 x12 x7 x8 x9 x13 x14 x15 x16 x17 (q4h x0 (qb1 x4 x8/\(faE (q3z x9).2 (6:Int)=0->qnc x9)/\True))))/\(x29=false->x5=x5/\qbh x2 x3 x8 (zbr37 x9 (q7i x6 x10 x4 x12 x7 x8 x9 x13 x14 x15 x16 x17 (q4h x0 (qb1 x4 x8/\((q3z x9).2=0->qnc x9)/\True)))))
 abbrev qpz:=x20.2=0->x2=0
 abbrev zbr46:=x2=x2/\List.length x1=List.length x9.1/\x20.2=x20.2/\q00 AT.cells x1=q00 AT.cells x9.1/\True/\x26
 abbrev qqs:=((-9223372036854775808:Int)<=(↑x20.1:Int)+1/\(↑x20.1:Int)+1<=9223372036854775807)
 abbrev qu2:=(↑x20.1:Int)=(↑x30.1:Int)+1
 abbrev zbr31:=qqs x20/\∃(i0:Nat×Int),x5=x5/\(↑x8.1:Int)=(↑x8.1:Int)/\x2=x2/\x3=x3/\qu2 i0 x20/\qqy x8/\qso x9/\i0.2=x20.2/\qty x9/\q7i x6 x10 x4 x12 x7 x8 x9 x13 x14 x15 x16 x17 (q4h x0 (qb1 x4 x8/\(qpz x11 i0)/\(100:Nat)- i0.1<100- x20.1/\True))
 abbrev zbr19:=(0<=(↑x20.1:Int)/\(↑x20.1:Int)<(↑(List.length x8.2.2.2):Int))/\∃(i0:ByteArray),(∀(i1:Nat) (i2:Value),[Value.string i0][i1]? =some i2->(q00 AF.cells x8.2.2.2)[nat_lit 0+Int.toNat (↑x20.1:Int)*nat_lit 9+0+i1]? =some i2)/\(decide (i0=(q3z x9).1)=true->∃(i3:List AT),zbr46 i3 5 x9 x20 (qqs x20/\∃(i4:Nat×Int),x5=x5/\(↑x8.1:Int)=(↑x8.1:Int)/\x2=x2/\x3=x3/\qu2 i4 x20/\qqy x8/\List.length x9.1=List.length i3/\i4.2=faE x20.2 5/\q00 AT.cells x9.1=q00 AT.cells i3/\q7i x6 x10 x4 x12 x7 x8 x9 x13 x14 x15 x16 x17 (q4h x0 (qb1 x4 x8/\(qpz x11 i4)/\(100:Nat)- i4.1<100- x20.1/\True))))/\(decide (i0=(q3z x9).1)=false->zbr31 x0 x2 x3 x4 x5 x6 x7 x8 x9 x10 x11 x12 x13 x14 x15 x16 x17 x20)
 abbrev zbr39:=GJ.k x0.1=x2/\GJ.n x0.1=x3/\GJ.s x0.1=x5/\(GJ.y x0.1).1=x13/\(GJ.y x0.1).2.1=x7/\(GJ.y x0.1).2.2=x14/\(GJ.x x0.1).1=x15/\(GJ.x x0.1).2.1=x16/\(GJ.x x0.1).2.2=x17/\x26
 abbrev qw8:=(q8a x4 x8 x27)/\∀(i0:AT),i0∈x25.1->AT.ok i0 x27
 abbrev qcs:=(qw8 x4 x8 x25 x27)/\slP txV (x13,x7,x14) (q4f x22.2.2.1 x22.2.2.2 x22.2.1).1 x27
 abbrev zbr40:=x20.2=0->(q4f x22.2.2.1 x22.2.2.2 x22.2.1).2.2=0
 abbrev zbr35:=x13=x13/\x7=x7/\x14=x14/\x25.2.2=x25.2.2/\Option.isSome (q0z x0.2 x0.1)=Option.isSome (q0z x0.2 x0.1)/\q4h x0 (q4h x21 ((∀(i0:Pub),qcs x4 x7 x8 x13 x14 x22 x25 i0->qcs x4 x7 x8 x13 x14 x22 x25 i0)/\(zbr40 x20 x22)/\(2000:Nat)- x20.1<2000- x30.1/\True))
 abbrev zbr29:=qqs x20/\∃(i0:Nat×Int),x5=x5/\qu2 i0 x20/\qbh x2 x3 x8 (List.length x22.1=List.length x22.1/\i0.2=x20.2/\q00 AT.cells x22.1=q00 AT.cells x22.1/\q7i x6 x10 x4 x12 x7 x8 x9 x13 x14 x15 x16 x17 (zbr35 x0 x4 x18 x8 x23 x24 i0 x21 x22 x25 x20))
 abbrev zbr18:=(0<=(↑x20.1:Int)/\(↑x20.1:Int)<(↑x7:Int))/\x13≠noA/\∃(i0:ByteArray),(∀(i1:Pub),qcs x4 x7 x8 x13 x14 x22 x25 i1->q02 i1 (adr x13 (Int.toNat (↑x20.1:Int)*1)) [Value.string i0])/\i0=i0/\ByteArray.size i0<1000000/\((!q5g i0)=true->∃(i3:List AT),(6:Int)=6/\List.length i3=List.length x22.1/\x20.2=x20.2/\q00 AT.cells i3=q00 AT.cells x22.1/\True/\qqs x20/\∃(i4:Nat×Int),x5=x5/\qu2 i4 x20/\qbh x2 x3 x8 (List.length x22.1=List.length i3/\i4.2=faE x20.2 6/\q00 AT.cells x22.1=q00 AT.cells i3/\q7i x6 x10 x4 x12 x16 x8 x9 x15 x17 x23 x18 x24 (zbr35 x0 x4 x7 x8 x13 x14 i4 x21 x22 x25 x20)))/\((!q5g i0)=false->zbr29 x0 x2 x3 x4 x5 x6 x16 x8 x9 x10 x12 x15 x17 x23 x18 x24 x7 x20 x21 x22 x13 x14 x25)
 abbrev zbr13:=List.length (q00 AF.cells x8.2.2.2)=List.length x8.2.2.2*9/\(List.length x8.2.2.2+nat_lit 1)*136<=140737488355328/\((-9223372036854775808:Int)<=(↑x8.1:Int)+1/\(↑x8.1:Int)+1<=9223372036854775807)/\∃(i0:FlS),x5=x5/\(↑i0.1:Int)=(↑x8.1:Int)+1/\x2=x2/\x3=x3/\List.length i0.2.2.2=List.length x8.2.2.2+nat_lit 1/\List.length (x1++i0.2.2.1)=List.length x22.1/\i0.2.1=x20.2/\q00 AT.cells (x1++i0.2.2.1)=q00 AT.cells x22.1/\q00 AF.cells i0.2.2.2=q00 AF.cells x8.2.2.2++[Value.string (q3z x9).1,Value.slice x13 x7 x14,Value.int IntKind.i64 x25.2.2,Value.bool (Option.isSome (q0z x0.2 x0.1)),Value.int IntKind.i64 (GJ.k (q18 x0)),Value.int IntKind.i64 (GJ.n (q18 x0)),Value.string (GJ.s (q18 x0)),Value.slice (GJ.y (q18 x0)).1 (GJ.y (q18 x0)).2.1 (GJ.y (q18 x0)).2.2,Value.slice (GJ.x (q18 x0)).1 (GJ.x (q18 x0)).2.1 (GJ.x (q18 x0)).2.2]/\zbr26 x4 (q4h x21 ((∀(i1:Pub),qcs x4 x7 x8 x13 x14 x22 x25 i1->True/\GJ.ok x4 i1)/\(∀(i5:Pub),qcs x4 x7 x8 x13 x14 x22 x25 i5->zbr34 i0 i5)/\qwl x1 x6 x4 i0/\List.length (GJ.l (fdJ x4))- i0.1<List.length (GJ.l (fdJ x4))- x8.1/\True))
 abbrev zbr17:=(decide (x20.2=0)=true->zbr18 x0 x2 x3 x4 x5 x6 x7 x8 x9 x10 x12 x13 x14 x15 x16 x17 x18 x20 x21 x22 x23 x24 x25)/\(decide (x20.2=0)=false->zbr13 x0 x1 x2 x3 x4 x5 x11 x7 x8 x9 x13 x14 x20 x21 x22 x25)
 abbrev zbr11:=(decide ((↑x20.1:Int)<(↑x7:Int))=true->zbr17 x0 x1 x2 x3 x4 x5 x6 x7 x8 x9 x10 x11 x12 x13 x14 x15 x16 x17 x18 x20 x21 x22 x23 x24 x25)/\(decide ((↑x20.1:Int)<(↑x7:Int))=false->zbr13 x0 x1 x2 x3 x4 x5 x11 x7 x8 x9 x13 x14 x20 x21 x22 x25)
 abbrev zbr9:=(∃(i0:Nat×Int),x5=x5/\(↑i0.1:Int)=0/\qbh x2 x3 x8 (List.length x22.1=List.length x22.1/\i0.2=(q4f x22.2.2.1 x22.2.2.2 x22.2.1).2.2/\q00 AT.cells x22.1=q00 AT.cells x22.1/\q7i x6 x10 x4 x12 x7 x8 x9 x13 x14 x15 x16 x17 (x23=x23/\x18=x18/\x24=x24/\x25.2.2=x25.2.2/\Option.isSome (q0z x0.2 x0.1)=Option.isSome (q0z x0.2 x0.1)/\q4h x0 (q4h x21 ((∀(i1:Pub),qcs x4 x18 x8 x23 x24 x22 x25 i1->qcs x4 x18 x8 x23 x24 x22 x25 i1)/\(zbr40 i0 x22)/\True)))))/\∀(i8:Nat×Int),(zbr40 i8 x22)->zbr11 x0 x1 x2 x3 x4 x5 x6 x18 x8 x9 x10 x11 x12 x23 x24 x13 x7 x14 x16 i8 x21 x22 x15 x17 x25
 abbrev zbr8:=((-9223372036854775808:Int)<=x2+1/\x2+1<=9223372036854775807)/\∃(i0:TmS),GJ.k i0.2.2.1=GJ.k (q18 x0)/\GJ.n i0.2.2.1=GJ.n (q18 x0)/\GJ.s i0.2.2.1=GJ.s (q18 x0)/\(GJ.y i0.2.2.1).1=(GJ.y (q18 x0)).1/\(GJ.y i0.2.2.1).2.1=(GJ.y (q18 x0)).2.1/\(GJ.y i0.2.2.1).2.2=(GJ.y (q18 x0)).2.2/\(GJ.x i0.2.2.1).1=(GJ.x (q18 x0)).1/\(GJ.x i0.2.2.1).2.1=(GJ.x (q18 x0)).2.1/\(GJ.x i0.2.2.1).2.2=(GJ.x (q18 x0)).2.2/\i0.2.2.2.1=x5/\i0.2.2.2.2=x2+1/\List.length i0.1=List.length x9.1/\i0.2.1=x3/\q00 AT.cells i0.1=q00 AT.cells x9.1/\(qca i0<x7/\q73 i0)/\(∀(i1:Pub),(q8a x4 x8 i1)->GJ.ok i0.2.2.1 i1)/\∀(i4:TmB),q12 i0 i4->(∃(i5:Pub),qw8 x4 x8 i4 i5)->∃(i9:GJ×ByteArray),zbr39 i9 x6 x10 x12 x14 x13 x16 x15 x17 x18 (i9.2=mkS [100,101,102,97,117,108,116]/\GJ.wf i9.1/\(∀(i10:Pub),(qw8 x4 x8 i4 i10)->GJ.ok i9.1 i10)/\∃(i14:List AT×Int×GJ×ByteArray),GJ.k i14.2.2.1=x6/\GJ.n i14.2.2.1=x10/\GJ.s i14.2.2.1=x12/\(GJ.y i14.2.2.1).1=x13/\(GJ.y i14.2.2.1).2.1=x14/\(GJ.y i14.2.2.1).2.2=x16/\(GJ.x i14.2.2.1).1=x15/\(GJ.x i14.2.2.1).2.1=x17/\(GJ.x i14.2.2.1).2.2=x18/\i14.2.2.2=mkS [97,108,105,97,115,101,115]/\List.length i14.1=List.length (i0.1++i4.1)/\i14.2.1=i4.2.1/\q00 AT.cells i14.1=q00 AT.cells (i0.1++i4.1)/\GJ.wf i14.2.2.1/\(∀(i15:Pub),(qw8 x4 x8 i4 i15)->GJ.ok i14.2.2.1 i15)/\∀(i19:Unit),True->∀(i20:Option Addr) (i21 i22:Nat),(∃(i23:Pub),qcs x4 i21 x8 i20 i22 i14 i4 i23)->zbr9 i9 x1 x11 x2 x4 x5 x6 x14 x8 x9 x10 x19 x12 x13 x16 x15 x17 x18 i21 x21 i14 i20 i22 i4)
 abbrev zbr7:=(decide ((↑x20.1:Int)<(↑(List.length x8.2.2.2):Int))=true->zbr19 x0 x2 x3 x4 x5 x6 x7 x8 x9 x10 x11 x12 x13 x14 x15 x16 x17 x20)/\(decide ((↑x20.1:Int)<(↑(List.length x8.2.2.2):Int))=false->∃(i16:GJ×ByteArray),zbr39 i16 x6 x10 x12 x7 x13 x14 x15 x16 x17 (i16.2=mkS [116,121,112,101]/\GJ.wf i16.1/\(∀(i17:Pub),(q8a x4 x8 i17)->GJ.ok i16.1 i17)/\(((!Option.isSome (q0z i16.2 i16.1))=true->∃(i20:List AT),zbr46 i20 2 x9 x20 (x5=x5/\qbh x2 x3 x8 (List.length x9.1=List.length i20/\faE x20.2 (2:Int)=faE x20.2 2/\q00 AT.cells x9.1=q00 AT.cells i20/\q7i x6 x10 x4 x12 x7 x8 x9 x13 x14 x15 x16 x17 (q4h x0 (q4h i16 (qb1 x4 x8/\(faE x20.2 (2:Int)=0->x20.2=0)/\True))))))/\((!Option.isSome (q0z i16.2 i16.1))=false->x5=x5/\qbh x2 x3 x8 (qso x9/\x20.2=x20.2/\qty x9/\q7i x6 x10 x4 x12 x7 x8 x9 x13 x14 x15 x16 x17 (q4h x0 (q4h i16 (qb1 x4 x8/\(x20.2=0->x20.2=0)/\True))))))/\∀(i31:Int),(i31=0->x20.2=0)->zbr8 i16 x1 x3 i31 x4 x5 x6 x18 x8 x9 x10 x2 x12 x13 x7 x15 x14 x16 x17 x19 x0))
 abbrev zbr6:=(∃(i0:Nat×Int),x5=x5/\(↑x8.1:Int)=(↑x8.1:Int)/\x2=x2/\x3=x3/\(↑i0.1:Int)=0/\qqy x8/\qso x9/\i0.2=x6/\qty x9/\q7i x10 x11 x4 x12 x7 x8 x9 x13 x14 x15 x16 x17 (q4h x0 (qb1 x4 x8/\(qpz x6 i0)/\True)))/\∀(i6:Nat×Int),(qpz x6 i6)->zbr7 x0 x1 x2 x3 x4 x5 x10 x7 x8 x9 x11 x6 x12 x13 x14 x15 x16 x17 x18 x19 i6
 abbrev zbr5:=(0<=(↑x8.1:Int)/\(↑x8.1:Int)<(qlv x0))/\(GJ.y (q18 x0)).1≠noA/\∃(i0:Int),∃(i1:Int),∃(i2:ByteArray),∃(i3:Option Addr),∃(i4:Nat),∃(i5:Nat),∃(i6:Option Addr),∃(i7:Nat),∃(i8:Nat),(∀(i9:Pub),(q8a x4 x8 i9)->q02 i9 (adr (GJ.y (q18 x0)).1 (Int.toNat (↑x8.1:Int)*5)) [Value.int IntKind.i64 i0,Value.int IntKind.i64 i1,Value.string i2,Value.slice i3 i4 i5,Value.slice i6 i7 i8])/\((!decide (i0=6))=true->∃(i12:List AT),(2:Int)=2/\List.length i12=List.length (x1++x8.2.2.1)/\x8.2.1=x8.2.1/\q00 AT.cells i12=q00 AT.cells (x1++x8.2.2.1)/\True/\∃(i13:FdB),List.length (qd9 x1 x2 i13)=List.length i12/\i13.2.1=faE x8.2.1 2/\q00 AT.cells (qd9 x1 x2 i13)=q00 AT.cells i12/\qvu x1 x3 i13/\(∀(i16:Pub),(q8a x4 x8 i16)->qsv i16 i13)/\True)/\((!decide (i0=6))=false->∃(i21:List AT×Int×GJ×ByteArray×Bool),GJ.k i21.2.2.1=i0/\GJ.n i21.2.2.1=i1/\GJ.s i21.2.2.1=i2/\(GJ.y i21.2.2.1).1=i3/\(GJ.y i21.2.2.1).2.1=i4/\(GJ.y i21.2.2.1).2.2=i5/\(GJ.x i21.2.2.1).1=i6/\(GJ.x i21.2.2.1).2.1=i7/\(GJ.x i21.2.2.1).2.2=i8/\i21.2.2.2.1=mkS [110,97,109,101]/\i21.2.2.2.2=true/\List.length i21.1=List.length (x1++x8.2.2.1)/\i21.2.1=x8.2.1/\q00 AT.cells i21.1=q00 AT.cells (x1++x8.2.2.1)/\GJ.wf i21.2.2.1/\(∀(i22:Pub),(q8a x4 x8 i22)->GJ.ok i21.2.2.1 i22)/\(((decide (qnc i21)=true->zbr42 x0 x2 x6 x4 x5 i0 i4 x8 i21 i1 i2 i3 i5 i6 i7 i8)/\(decide (qnc i21)=false->∃(i31:Bool),x5=x5/\qbh x2 x6 x8 (i31=false/\zbr37 i21 (q7i i0 i1 x4 i2 i4 x8 i21 i3 i5 i6 i7 i8 (q4h x0 (qb1 x4 x8/\True/\True))))))/\∀(i37:Bool),True->zbr20 x0 x2 x6 x4 x5 i0 i4 x8 i21 i1 i2 i3 i5 i6 i7 i8 i37)/\∀(i49:Int),(i49=0->qnc i21)->zbr6 x0 x1 x2 x6 x4 x5 i49 i4 x8 i21 i0 i1 i2 i3 i5 i6 i7 i8 x7 x3)
 abbrev zbr47:=(q8a x4 x8 x27)/\List.length x8.2.2.2<=x7/\q1l x27 x13 (List.take (List.length x8.2.2.2*nat_lit 9) (q00 AF.cells x8.2.2.2))
 abbrev zbr24:=nat_lit 0+Int.toNat x2*nat_lit 10+8+List.length [Value.slice x13 (List.length x8.2.2.2) x7]<=List.length (q00 AT.cells (x1++x8.2.2.1))/\∃(i0:FdB),List.length (qd9 x1 x2 i0)=List.length (x1++x8.2.2.1)/\i0.2.1=x8.2.1/\q00 AT.cells (qd9 x1 x2 i0)=spl (q00 AT.cells (x1++x8.2.2.1)) (nat_lit 0+Int.toNat x2*nat_lit 10+8) [Value.slice x13 (List.length x8.2.2.2) x7]/\qvu x1 x3 i0/\(∀(i1:Pub),zbr47 x4 x7 x8 x13 i1->qsv i1 i0)/\True
 abbrev zbr22:=(0<=x2/\x2<(↑(List.length (x1++x8.2.2.1)):Int))/\∀(i0 i1 i2:Nat) (i3:Option Addr) (i4 i5:Nat),(∃(i6:Pub),zbr47 x4 i5 x8 i3 i6)->zbr24 x1 x2 x3 x4 i5 x8 i3
 abbrev zbr12:=(decide (x8.2.1=0)=true->zbr22 x1 x2 x3 x4 x8)/\(decide (x8.2.1=0)=false->∃(i17:FdB),List.length (qd9 x1 x2 i17)=List.length (x1++x8.2.2.1)/\i17.2.1=x8.2.1/\q00 AT.cells (qd9 x1 x2 i17)=q00 AT.cells (x1++x8.2.2.1)/\qvu x1 x3 i17/\(∀(i20:Pub),(q8a x4 x8 i20)->qsv i20 i17)/\True)
 abbrev zbr4:=(decide (x8.2.1=0)=true->zbr5 x0 x1 x2 x3 x4 x5 x6 x7 x8)/\(decide (x8.2.1=0)=false->zbr12 x1 x2 x3 x4 x8)
 abbrev zbr3:=(decide ((↑x8.1:Int)<(qlv x0))=true->zbr4 x0 x1 x2 x3 x4 x5 x6 x7 x8)/\(decide ((↑x8.1:Int)<(qlv x0))=false->zbr12 x1 x2 x3 x4 x8)
 abbrev zbr2:=(∃(i0:FlS),x5=x5/\(↑i0.1:Int)=0/\x2=x2/\x3=x3/\List.length i0.2.2.2=0/\List.length (x1++i0.2.2.1)=List.length x1/\i0.2.1=x6/\q00 AT.cells (x1++i0.2.2.1)=q00 AT.cells x1/\zbr26 x4 (q4h x0 ((∀(i1:Pub),True/\GJ.ok x4 i1->True/\GJ.ok x4 i1)/\(∀(i2:Pub),True/\GJ.ok x4 i2->zbr34 i0 i2)/\qwl x1 x6 x4 i0/\True)))/\∀(i5:FlS),qwl x1 x6 x4 i5->(∃(i6:Pub),q8a x4 i5 i6)->zbr3 x0 x1 x2 x6 x4 x5 x3 x7 i5
 abbrev zbr1:=(decide (30<(qlv x0))=true->zbr21 x1 x2 x3 x4 3)/\(decide (30<(qlv x0))=false->zbr2 x0 x1 x3 x6 x4 x5 x2 x7)
 abbrev zbr0:=((!decide (GJ.k (q18 x0)=5))=true->zbr21 x1 x2 x3 x4 2)/\((!decide (GJ.k (q18 x0)=5))=false->zbr1 x0 x1 x2 x3 x4 x5 x6 x7)
end
theorem qh9(n:Nat) (S:List AT) (e:Int) (g:GJ) (i:Int) (sp:ByteArray) (d:Int):q68 P (q0r [(75,qb6),(109,qfd),(141,qmv),(112,qc4),(72,q4d)]) (q1s [(46,q4c.below qca n)]) Try.f113 (q8q.below muFd (n+1)) (qlb) ⟨S,e,g,i,sp,d⟩=(muFd (S,e,g,i,sp,d)<n+1/\List.length S<=60/\GJ.wf g/\0<=i/\(e=0->i<(↑(List.length S):Int))/\1<=d/\d<=20/\(↑(ByteArray.size sp):Int)<=1100*(d+1)->(∃(p:Pub),True/\GJ.ok g p)->∃(s:GJ×ByteArray),GJ.k s.1=GJ.k g/\GJ.n s.1=GJ.n g/\GJ.s s.1=GJ.s g/\(GJ.y s.1).1=(GJ.y g).1/\(GJ.y s.1).2.1=(GJ.y g).2.1/\(GJ.y s.1).2.2=(GJ.y g).2.2/\(GJ.x s.1).1=(GJ.x g).1/\(GJ.x s.1).2.1=(GJ.x g).2.1/\(GJ.x s.1).2.2=(GJ.x g).2.2/\s.2=mkS [102,105,101,108,100,115]/\GJ.wf s.1/\(∀(p:Pub),True/\GJ.ok g p->GJ.ok s.1 p)/\((!Option.isSome (q0z s.2 s.1))=true->zbr21 S e i g 2)/\((!Option.isSome (q0z s.2 s.1))=false->zbr0 s S e i g sp d n)):=by kernel_rfl
def qo2(n:Nat) (S:List AT) (e:Int) (g:GJ) (i:Int) (sp:ByteArray) (d:Int):=Eq.trans (qh9 n S e g i sp d) (by delta qd9 zbr16 qvu qsv zbr21 q18 qlv zbr26 q4h zbr34 q8a q3z qnc qqy qbh qso qty zbr37 q7i qb1 zbr42 zbr20 qpz zbr46 qqs qu2 zbr31 zbr19 zbr39 qw8 qcs zbr40 zbr35 zbr29 zbr18 zbr13 zbr17 zbr11 zbr9 zbr8 zbr7 zbr6 zbr5 zbr47 zbr24 zbr22 zbr12 zbr4 zbr3 zbr2 zbr1 zbr0;exact rfl)
theorem qx8(S:List AT) (k:Nat) (hk:k<S.length) (x:SV) (l:List AF) (B:List AT):q00 AT.cells (S.set k {S[k]with f:=x,fs:=l}++B)=spl (q00 AT.cells (S++B)) (0+k*10+8) [svV x]:=by
 rw[q0e,q0e,qdi S k hk]
 conv=>rhs;rw[qen S k hk]
 rw[Nat.zero_add,←qfo S k hk]
 generalize q00 AT.cells (S.take k)=A
 generalize q00 AT.cells (S.drop (k+1))=C
 generalize q00 AT.cells B=D
 show _=((A++((S[k]).cells++C))++D).set (A.length+8) (svV x)
 rw[List.append_assoc A (S[k].cells++C) D,q7f,List.append_assoc A]
 rfl
theorem af_sub{l:List AF} {i:Nat} (h:i<l.length):∀(j:Nat) (v:Value),[Value.string l[i].nm][j]? =some v->(q00 AF.cells l)[0+i*9+0+j]? =some v:=λj v hj=>by
 cases j with
 |zero=>have:=q60 qjj l i h 0 (by decide);rw[Nat.add_zero]at this;rw[Nat.zero_add,Nat.add_zero,this];exact hj
 |succ j=>simp at hj
theorem woR_sz{g:GJ} (hg:g.wf) (s:ByteArray) (b:Bool) (e:Int):(woR g s b e).1.size<1000:=by
  have h:=(q2j s hg).1
  unfold woR
  cases hk:q0z s g with
  | none=>
    simp only
    split<;>exact Nat.zero_lt_succ _
  | some t=>
    rw[hk]at h
    simp only
    split
    · have h:t.wf:=h
      rw[GJ.wf_eq]at h;exact h.1
    · exact Nat.zero_lt_succ _
theorem qmz(n:Nat) (ht:q0d P 46 (q4c.below qca n)):q0d P 113 (q8q.below muFd (n+1)):=by
 refine q0v mixed (q05 (q01 q65 (q01 qcl (q01 qgv (q01 qdm (q01 q2b q06)))))) (q0g (q04 ht q0q)) (W:=qlb) Try.func113 (by kernel_rfl) (show 1<=4 by decide) (show 4<=6 by decide) (λs=>by kernel_rfl) λ⟨S,(e:Int),g,(i:Int),sp,(d:Int)⟩=>(qo2 n S e g i sp d).mpr ?_
 rintro⟨hmu,hS,hg,hi0,hi1,hd1,hd2,hsp⟩ ⟨p,_,hp⟩
 have hmu:(25- d).toNat<n+1:=hmu
 simp only[decide_eq_true_eq,decide_eq_false_iff_not,Bool.not_eq_true',Bool.not_eq_false',true_and,and_true,eq_self,imp_self,implies_true,exists_const,forall_const,Int.toNat_natCast]
 have bad:∀(T:List AT) (e1 k:Int),k≠0->(S++T).length<=60->(∀q,g.ok q->∀a∈T,a.ok q)->True:=λ_ _ _ _ _ _=>trivial
 have z:∀(T:List AT) (k:Int) (x:SV) (fs:List AF),k≠0->((if k=0 then qhs S i x fs else S)++T)=S++T:=λT k x fs hk=>by rw[if_neg hk]
 obtain⟨lw,lok⟩:=q2j (mkS [102,105,101,108,100,115]) hg
 refine⟨⟨g,mkS [102,105,101,108,100,115]⟩,rfl,rfl,rfl,rfl,rfl,rfl,rfl,rfl,rfl,rfl,hg,λq hq=>hq,λhno=>⟨S,rfl,rfl,⟨[],faE e 2,(none,0,0),[]⟩,by show(_++[]).length=_;rw[z _ _ _ _ (q1b (by decide)),List.append_nil],rfl,by show q00 AT.cells (_++[])=_;rw[z _ _ _ _ (q1b (by decide)),List.append_nil],⟨by show(S++[]).length<=60;rw[List.append_nil];exact hS,λh=>absurd h (q1b (by decide))⟩,λq hq=>⟨λa ha=>(by cases ha),q0c,λf hf=>(by cases hf)⟩⟩,λhyes=>⟨λhk=>⟨S,rfl,rfl,⟨[],faE e 2,(none,0,0),[]⟩,by show(_++[]).length=_;rw[z _ _ _ _ (q1b (by decide)),List.append_nil],rfl,by show q00 AT.cells (_++[])=_;rw[z _ _ _ _ (q1b (by decide)),List.append_nil],⟨by show(S++[]).length<=60;rw[List.append_nil];exact hS,λh=>absurd h (q1b (by decide))⟩,λq hq=>⟨λa ha=>(by cases ha),q0c,λf hf=>(by cases hf)⟩⟩,λhk=>⟨λh30=>⟨S,rfl,rfl,⟨[],faE e 3,(none,0,0),[]⟩,by show(_++[]).length=_;rw[z _ _ _ _ (q1b (by decide)),List.append_nil],rfl,by show q00 AT.cells (_++[])=_;rw[z _ _ _ _ (q1b (by decide)),List.append_nil],⟨by show(S++[]).length<=60;rw[List.append_nil];exact hS,λh=>absurd h (q1b (by decide))⟩,λq hq=>⟨λa ha=>(by cases ha),q0c,λf hf=>(by cases hf)⟩⟩,λh30=> ?_⟩⟩⟩
 have hfd:fdJ g=(q0z (mkS [102,105,101,108,100,115]) g).getD zJ:=rfl
 simp only at*
 generalize (q0z (mkS [102,105,101,108,100,115]) g).getD zJ=t at*
 have hy:=λq (hq:g.ok q)=>(show slP GJ.cells t.y t.l q by have:=lok q hq;rw[GJ.ok_eq]at this;exact this.1)
 have tl:t.y.2.1=t.l.length:=(hy p hp).1
 have lww:=lw
 rw[GJ.wf_eq]at lww
 refine⟨⟨⟨0,e,[],[]⟩,rfl,rfl,by show(S++[]).length=_;rw[List.append_nil],rfl,by show q00 AT.cells (S++[])=_;rw[List.append_nil],λq hq=>⟨λa ha=>(by cases ha),λf hf=>(by cases hf)⟩,⟨Nat.zero_le _,Nat.zero_le _,by show(S++[]).length<=60;rw[List.append_nil];exact hS,λh=>⟨h,λa ha=>(by cases ha),λf hf=>(by cases hf)⟩⟩⟩,?_⟩
 rintro⟨j,e1,T,fs⟩ ⟨hj,hfl,hST,hinv⟩ ⟨p1,hp1,hT1,hf1⟩
 simp only[hfd]at hj⊢
 have fin0:e1≠0->∃b:FdB,((if b.snd.fst=0 then qhs S i b.snd.snd.fst b.snd.snd.snd else S)++b.fst).length=(S++T).length/\b.snd.fst=e1/\q00 AT.cells ((if b.snd.fst=0 then qhs S i b.snd.snd.fst b.snd.snd.snd else S)++b.fst)=q00 AT.cells (S++T)/\((S++b.fst).length<=60/\(b.snd.fst=0->e=0/\(∀(a:AT),a∈b.fst->q4k (S++b.fst).length a)/\(∀(f:AF),f∈b.snd.snd.snd->(0<=f.ty/\f.ty<↑(S++b.fst).length)/\f.df.wf)/\b.snd.snd.snd.length<=30))/\∀(p:Nat->Option Obj),(g.ok p/\(∀(a:AT),a∈T->a.ok p)/\∀(f:AF),f∈fs->f.ok p)->(∀(a:AT),a∈b.fst->a.ok p)/\slP AF.cells b.snd.snd.fst b.snd.snd.snd p/\∀(f:AF),f∈b.snd.snd.snd->f.ok p:=λhe=>⟨⟨T,e1,(none,0,0),[]⟩,by show(_++T).length=_;rw[z _ _ _ _ he],rfl,by show q00 AT.cells (_++T)=_;rw[z _ _ _ _ he],⟨hST,λh=>absurd h he⟩,λq hq=>⟨hq.2.1,q0c,λf hf=>(by cases hf)⟩⟩
 have fin1:e1=0->(0<=i/\i<((S++T).length:Int))/\∀(a:Option Addr) (c:Nat),(∃p,(g.ok p/\(∀(a:AT),a∈T->a.ok p)/\∀(f:AF),f∈fs->f.ok p)/\fs.length<=c/\q1l p a (List.take (fs.length*9) (q00 AF.cells fs)))->0+i.toNat*10+8+[Value.slice a fs.length c].length<=(q00 AT.cells (S++T)).length/\∃b:FdB,((if b.snd.fst=0 then qhs S i b.snd.snd.fst b.snd.snd.snd else S)++b.fst).length=(S++T).length/\b.snd.fst=e1/\q00 AT.cells ((if b.snd.fst=0 then qhs S i b.snd.snd.fst b.snd.snd.snd else S)++b.fst)=spl (q00 AT.cells (S++T)) (0+i.toNat*10+8) [Value.slice a fs.length c]/\((S++b.fst).length<=60/\(b.snd.fst=0->e=0/\(∀(a:AT),a∈b.fst->q4k (S++b.fst).length a)/\(∀(f:AF),f∈b.snd.snd.snd->(0<=f.ty/\f.ty<↑(S++b.fst).length)/\f.df.wf)/\b.snd.snd.snd.length<=30))/\∀(p:Nat->Option Obj),(g.ok p/\(∀(a:AT),a∈T->a.ok p)/\∀(f:AF),f∈fs->f.ok p)/\fs.length<=c/\q1l p a (List.take (fs.length*9) (q00 AF.cells fs))->(∀(a:AT),a∈b.fst->a.ok p)/\slP AF.cells b.snd.snd.fst b.snd.snd.snd p/\∀(f:AF),f∈b.snd.snd.snd->f.ok p:=λhe=>by
  obtain⟨i0,iT,iF⟩:=hinv he
  have hi:=hi1 i0
  obtain⟨m,rfl⟩:=Int.eq_ofNat_of_zero_le hi0
  have hm:m<S.length:=by omega
  have es:∀x,qhs S (m:Int) x fs=S.set m {S[m]with f:=x,fs:=fs}:=λx=>by
   unfold qhs;rw[Int.toNat_natCast,List.getElem?_eq_getElem hm]
  have hl:(S++T).length=S.length+T.length:=List.length_append
  refine⟨⟨hi0,by omega⟩,λa c _=>⟨by rw[q03 q3g,hl,Int.toNat_natCast];show 0+m*10+8+1<=_;omega,⟨T,e1,(a,fs.length,c),fs⟩,?_,rfl,?_,⟨hST,λ_=>⟨i0,iT,iF,by show fs.length<=30;omega⟩⟩,λq hq=>⟨hq.1.2.1,?_,hq.1.2.2⟩⟩⟩
  ·show((if e1=0 then qhs S (m:Int) (a,fs.length,c) fs else S)++T).length=_
   rw[if_pos he,es,List.length_append,List.length_set,hl]
  ·show q00 AT.cells ((if e1=0 then qhs S (m:Int) (a,fs.length,c) fs else S)++T)=_
   rw[if_pos he,es]
   exact qx8 S m hm _ _ T
  ·refine⟨rfl,hq.2.1,?_⟩
   have:=hq.2.2
   rw[List.take_of_length_le (by rw[q03 qjj];exact Nat.le_refl _)]at this
   exact this
 refine⟨λhlt=>⟨λhe0=> ?_,λhe0=>⟨λh=>fin1 h,λh=>fin0 h⟩⟩,λhge=>⟨λh=>fin1 h,λh=>fin0 h⟩⟩
 have hjl:j<t.l.length:=by omega
 have hat:=λq (hq:g.ok q)=>q1m q80 (by decide) (hy q hq) hjl
 have cw:t.l[j].wf:=GJ.wfs_at lww.2.2.2.2.2.2 hjl
 have cok:∀q,g.ok q->t.l[j].ok q:=λq hq=>by have:=lok q hq;rw[GJ.ok_eq]at this;exact GJ.oks_at this.2.2 hjl
 refine⟨⟨by omega,by omega⟩,(hat p1 hp1).1,t.l[j].k,t.l[j].n,t.l[j].s,t.l[j].y.1,t.l[j].y.2.1,t.l[j].y.2.2,t.l[j].x.1,t.l[j].x.2.1,t.l[j].x.2.2,λq hq=>(hat q hq.1).2,λh6=>⟨S++T,rfl,rfl,⟨T,faE e1 2,(none,0,0),[]⟩,by show(_++T).length=_;rw[z _ _ _ _ (q1b (by decide))],rfl,by show q00 AT.cells (_++T)=_;rw[z _ _ _ _ (q1b (by decide))],⟨hST,λh=>absurd h (q1b (by decide))⟩,λq hq=>⟨hq.2.1,q0c,λf hf=>(by cases hf)⟩⟩,λh6=> ?_⟩
 obtain⟨e00,hTg,hfg⟩:=hinv he0
 clear fin0 fin1 z bad
 refine⟨⟨S++T,e1,t.l[j],mkS [110,97,109,101],true⟩,rfl,rfl,rfl,rfl,rfl,rfl,rfl,rfl,rfl,rfl,rfl,rfl,rfl,rfl,cw,λq hq=>cok q hq.1,?_⟩
 simp only
 have hnm:=woR_sz cw (mkS [110,97,109,101]) true e1
 have hwe:(woR t.l[j] (mkS [110,97,109,101]) true e1).2=0->e1=0:=woR_e
 generalize woR t.l[j] (mkS [110,97,109,101]) true e1=W at*
 refine⟨⟨⟨λ_=>⟨by omega,_,rfl⟩,λ_=>⟨false,rfl⟩⟩,λ_ _=>⟨S++T,rfl,rfl,rfl,rfl,λh=>(q7e (by decide) h).elim⟩⟩,?_⟩
 intro e4 h4
 refine⟨⟨⟨0,e4⟩,rfl,rfl,λh=>h⟩,?_⟩
 rintro⟨k,e5⟩ h5
 simp only at h5⊢
 have hST':=hST
 refine⟨λhkl=>⟨⟨by omega,by omega⟩,fs[k]'(by omega)|>.nm,af_sub (by omega),λ_=>⟨S++T,rfl,rfl,⟨by omega,by omega⟩,⟨k+1,faE e5 5⟩,by show((k+1:Nat):Int)=_;omega,rfl,rfl,rfl,λh=>(q7e (by decide) h).elim,by show 100- (k+1)<100- k;omega⟩,λ_=>⟨⟨by omega,by omega⟩,⟨k+1,e5⟩,by show((k+1:Nat):Int)=_;omega,rfl,h5,by show 100- (k+1)<100- k;omega⟩⟩,λhkl=> ?_⟩
 obtain⟨tw,tok⟩:=q2j (mkS [116,121,112,101]) cw
 refine⟨⟨t.l[j],mkS [116,121,112,101]⟩,rfl,rfl,rfl,rfl,rfl,rfl,rfl,rfl,rfl,rfl,cw,λq hq=>cok q hq.1,?_⟩
 simp only
 generalize (q0z (mkS [116,121,112,101]) t.l[j]).getD zJ=ty at*
 refine⟨λ_=>⟨S++T,rfl,rfl,rfl,rfl,λh=>(q7e (by decide) h).elim⟩,?_⟩
 intro e7 h7
 refine⟨⟨by omega,by omega⟩,⟨S++T,e7,ty,sp,d+1⟩,rfl,rfl,rfl,rfl,rfl,rfl,rfl,rfl,rfl,rfl,rfl,rfl,rfl,rfl,⟨by show(25- (d+1)).toNat<n;omega,hST,tw,by omega,by omega,hsp⟩,λq hq=>tok q (cok q hq.1),?_⟩
 rintro⟨U,e8,r⟩ ⟨⟨hU,hU2⟩,hr⟩ ⟨p2,hp2,hU3⟩
 simp only at hU hU2 hr hU3⊢
 obtain⟨dw,dok⟩:=q2j (mkS [100,101,102,97,117,108,116]) cw
 refine⟨⟨t.l[j],mkS [100,101,102,97,117,108,116]⟩,rfl,rfl,rfl,rfl,rfl,rfl,rfl,rfl,rfl,rfl,cw,λq hq=>cok q hq.1.1,⟨S++T++U,e8,t.l[j],mkS [97,108,105,97,115,101,115]⟩,rfl,rfl,rfl,rfl,rfl,rfl,rfl,rfl,rfl,rfl,rfl,rfl,rfl,cw,λq hq=>cok q hq.1.1,?_⟩
 have hsz:∀x∈(q4f t.l[j] (mkS [97,108,105,97,115,101,115]) e8).1,x.size<1000:=qd6 cw
 have hLl:(q4f t.l[j] (mkS [97,108,105,97,115,101,115]) e8).1.length<1000:=qea cw
 have hE:(q4f t.l[j] (mkS [97,108,105,97,115,101,115]) e8).2.2=0->e8=0:=qth
 simp only
 generalize q4f t.l[j] (mkS [97,108,105,97,115,101,115]) e8=F at*
 generalize hdj:(q0z (mkS [100,101,102,97,117,108,116]) t.l[j]).getD zJ=df at*
 rintro a m c ⟨p3,hp3,hl3⟩
 have hm:m=F.1.length:=hl3.1
 subst hm
 have hat2:=λ(k:Nat) (hk:k<F.1.length) (q:Pub) (hq:slP txV (a,F.1.length,c) F.1 q)=>(show a≠noA/\q02 q (adr a (k*1)) [.string F.1[k]]from q1m q13 (by decide) hq hk)
 refine⟨⟨⟨0,F.2.2⟩,rfl,rfl,λh=>h⟩,?_⟩
 rintro⟨x,e9⟩ h9
 simp only at h9⊢
 have hlen:(S++(T++U)).length=(S++T).length+U.length:=by rw[←List.append_assoc];exact List.length_append
 refine⟨λhx=>⟨λh0=>⟨⟨by omega,by omega⟩,(hat2 x (by omega) p3 hl3).1,F.1[x]'(by omega),λq hq=>(hat2 x (by omega) q hq.2).2,by have:=hsz _ (List.getElem_mem (show x<F.1.length by omega));omega,λ_=>⟨S++T++U,rfl,rfl,⟨by omega,by omega⟩,⟨x+1,faE e9 6⟩,by show((x+1:Nat):Int)=_;omega,rfl,rfl,rfl,λh=>(q7e (by decide) h).elim,by show 2000- (x+1)<2000- x;omega⟩,λ_=>⟨⟨by omega,by omega⟩,⟨x+1,e9⟩,by show((x+1:Nat):Int)=_;omega,rfl,h9,by show 2000- (x+1)<2000- x;omega⟩⟩,λh0=> ?xa⟩,λhx=> ?xb⟩
 case xa|xb=>
  refine⟨q03 qjj fs,by omega,⟨by omega,by omega⟩,⟨j+1,e9,T++U,fs++[⟨W.1,(a,F.1.length,c),F.1,r,(q0z (mkS [100,101,102,97,117,108,116]) t.l[j]).isSome,df⟩]⟩,by show((j+1:Nat):Int)=_;omega,by simp,by rw[List.append_assoc],rfl,by rw[List.append_assoc],by rw[q0e];rfl,λq hq=>hq.1.1.1,λq hq=>⟨λy hy=>(List.mem_append.1 hy).elim (hq.1.1.2.1 y) (hq.1.2 y),λf hf=>(List.mem_append.1 hf).elim (hq.1.1.2.2 f) λh=> ?_⟩,⟨by show j+1<=(fdJ g).l.length;rw[hfd];omega,by show(fs++[_]).length<=j+1;simp;omega,by show(S++(T++U)).length<=60;rw[←List.append_assoc];exact hU,λh=>⟨e00,λy hy=> ?_,λf hf=> ?_⟩⟩,by show _- (j+1)<_;omega⟩
  ·simp at h;subst h;exact⟨hq.2,dok q (cok q hq.1.1.1)⟩
  ·show q4k (S++(T++U)).length y
   obtain⟨u1,u2⟩:=hU2 (hE (h9 h))
   rcases List.mem_append.1 hy with hy|hy
   ·exact qbz (by omega) (hTg y hy)
   ·have:=u2 y hy;rw[List.append_assoc]at this;exact this
  ·show(0<=f.ty/\f.ty<((S++(T++U)).length:Int))/\f.df.wf
   obtain⟨r0,r1⟩:=hr (hE (h9 h))
   rw[List.append_assoc]at r1
   rcases List.mem_append.1 hf with hf|hf
   ·have:=hfg f hf;exact⟨by omega,this.2⟩
   ·simp at hf;subst hf;exact⟨⟨r0,r1⟩,dw⟩
def nmT(k:Int) (W:ByteArray) (r n:Nat) (num:Nat):AO:= .cells 61 (some 0) false [.sv (.int .i64 k), .sv (.string W), .ssl r 0 n 1 num, .int .i64 0, .nsl, .bool false, .str [], .int .i64 0, .nsl, .nsl]
abbrev NlS:=Nat×Int×List ByteArray
def qtj:NmS->WayF:=λ⟨S,e,g,k,sp,d⟩=>{
  cut:=λr _ _=>match r with
    | 7 =>some {σ:=Int×ByteArray,pre:=λ⟨e',s⟩=>(e'=0->e=0)/\(s.size:Int)<=1100*d,find:=some λt h=>(match mkE h 1 with
        | some e'=>match slS t 3 with
          |some s=>some (e',s)
          |none=>none
        |none=>none),t:=λ⟨e',s⟩=>[(3, .sv (.string s))],h:=λ⟨e',s⟩=>[mkC S e' 2 3],more:=0,μ:=λ_=>0,keep:=[0,2,4,6,11]}
    |19=>some {σ:=Int,pre:=λe'=>e'=0->e=0,find:=some λ_ h=>mkE h 1,t:=λ_=>[],h:=λe'=>[mkC S e' 2 3],more:=0,μ:=λ_=>0,keep:=[0,2,3,4,6,14]}
    |_=>none
  ann:=λid t h=>match h.get 15 with
    |some (.cells _ _ _ (_:: .sv (.string W)::_))=>some {σ:=NlS,pre:=λ⟨j,e',acc⟩=>(j:Int)<=1000/\acc.length<=j/\(e'=0->e=0),t:=λ⟨j,e',acc⟩=>[(17, .sv (.int .i64 (j:Int)))],h:=λ⟨j,e',acc⟩=>[mkC S e' 2 3,(15,nmT k W 22 acc.length 23),(22, .row 9 0 (q00 txV acc))],more:=2,μ:=λ⟨j,e',acc⟩=>1000- j,keep:=[0,2,3,4,6,14,15]}
    |_=>none
  pub:=λi k=>match i,k with
    |21,2=>[107]
    |_,_=>[]}
noncomputable section
variable (x0:Int×ByteArray) (x1:List AT) (x2:List AT×Int×GJ×ByteArray×Bool) (x3:Int) (x4:GJ) (x5:ByteArray) (x6:Int) (x7:Int) (x8:Nat) (x9:Option Addr) (x10:Nat) (x11:List AT×Int×GJ×ByteArray) (x12:Nat) (x13:NlS) (x14:List AT) (x15:Int) (x16:List AT×Int×AT) (x17:Option Addr) (x18:GJ×ByteArray) (x19:Prop) (x20:Nat->Option Obj) (x21:FdS) (x22:FdB) (x23:TmB) (x24:AF) (x25:List AT×Int×GJ×Int) (x26:SyB)
 abbrev zbs22:=GJ.k x18.1=GJ.k x4/\GJ.n x18.1=GJ.n x4/\GJ.s x18.1=GJ.s x4/\(GJ.y x18.1).1=(GJ.y x4).1/\(GJ.y x18.1).2.1=(GJ.y x4).2.1/\(GJ.y x18.1).2.2=(GJ.y x4).2.2/\(GJ.x x18.1).1=(GJ.x x4).1/\(GJ.x x18.1).2.1=(GJ.x x4).2.1/\(GJ.x x18.1).2.2=(GJ.x x4).2.2/\x19
 abbrev q6u:=Option.getD (q0z x18.2 x18.1) zJ
 abbrev qp1:= !decide (GJ.k (q6u x18)=x3)
 abbrev q37:=woR x2.2.2.1 x2.2.2.2.1 x2.2.2.2.2 x2.2.1
 abbrev qdv:=List.length x1=List.length x14
 abbrev qf2:=GJ.k x4=GJ.k x4/\GJ.n x4=GJ.n x4/\GJ.s x4=GJ.s x4/\(GJ.y x4).1=(GJ.y x4).1/\(GJ.y x4).2.1=(GJ.y x4).2.1/\(GJ.y x4).2.2=(GJ.y x4).2.2/\(GJ.x x4).1=(GJ.x x4).1/\(GJ.x x4).2.1=(GJ.x x4).2.1/\(GJ.x x4).2.2=(GJ.x x4).2.2/\x19
 abbrev zbs33:=(∀(i0:Pub),True/\GJ.ok x4 i0->True/\GJ.ok x4 i0)
 abbrev zbs30:=(q37 x2).1=(q37 x2).1/\x3=x3/\x6=x6/\List.length x1=List.length x2.1/\(q37 x2).2=(q37 x2).2/\q00 AT.cells x2.1=q00 AT.cells x2.1/\x19
 abbrev zbs21:=GJ.s (q6u x18)=GJ.s (q6u x18)/\zbs30 x1 x2 x3 x6 (qf2 x4 (zbs33 x4/\(((q37 x2).2=0->x7=0)/\(↑(ByteArray.size (GJ.s (q6u x18))):Int)<=1100*x6)/\True))
 abbrev zbs11:=((qp1 4 x18)=true->∃(i0:List AT),(2:Int)=2/\List.length i0=List.length x2.1/\(q37 x2).2=(q37 x2).2/\q00 AT.cells i0=q00 AT.cells x2.1/\True/\GJ.s (q6u x18)=GJ.s (q6u x18)/\(q37 x2).1=(q37 x2).1/\x3=x3/\x6=x6/\qdv x1 i0/\faE (q37 x2).2 (2:Int)=faE (q37 x2).2 2/\q00 AT.cells x2.1=q00 AT.cells i0/\qf2 x4 (zbs33 x4/\((faE (q37 x2).2 (2:Int)=0->x7=0)/\(↑(ByteArray.size (GJ.s (q6u x18))):Int)<=1100*x6)/\True))/\((qp1 4 x18)=false->zbs21 x1 x2 x3 x4 x6 x7 x18)
 abbrev zbs24:=x5=x5/\zbs30 x1 x2 x3 x6 (qf2 x4 (zbs33 x4/\(((q37 x2).2=0->x7=0)/\(↑(ByteArray.size x5):Int)<=1100*x6)/\True))
 abbrev qeq:=∀(i0:AT),i0∈x23.1->AT.ok i0 x20
 abbrev qh0:=q2o (q37 x2).1 x0.2=q2o (q37 x2).1 x0.2
 abbrev q5d:=q2o (q37 x2).1 x0.2
 abbrev qiv:=(True/\GJ.ok x4 x20)/\slP txV (x9,x8,x10) (q4f x11.2.2.1 x11.2.2.2 x11.2.1).1 x20
 abbrev qmy:=qcn (q5d x0 x2) (ByteArray.size (q5d x0 x2))=qcn (q5d x0 x2) (ByteArray.size (q5d x0 x2))
 abbrev qqa:=(∀(i0:Pub),qiv x4 x8 x9 x10 x11 i0->qiv x4 x8 x9 x10 x11 i0)
 abbrev qya:=(↑x13.1:Int)<=1000/\List.length x13.2.2<=x13.1/\(x13.2.1=0->x3=0)
 abbrev zbs9:=(0<=(↑x13.1:Int)/\(↑x13.1:Int)<(↑x8:Int))/\x9≠noA/\∃(i0:ByteArray),(∀(i1:Pub),qiv x4 x8 x9 x10 x11 i1->q02 i1 (adr x9 (Int.toNat (↑x13.1:Int)*1)) [Value.string i0])/\∃(i2:List AT),i0=i0/\qmy x0 x2/\qdv i2 x1/\x13.2.1=x13.2.1/\q00 AT.cells i2=q00 AT.cells x11.1/\(ByteArray.size i0<10000/\ByteArray.size (qcn (q5d x0 x2) (ByteArray.size (q5d x0 x2)))<50000)/\List.length (q00 txV x13.2.2)=List.length x13.2.2*1/\(List.length x13.2.2+nat_lit 1)*16<=140737488355328/\AV.ssl (nat_lit 22) (nat_lit 0) (List.length x13.2.2) (nat_lit 1) (nat_lit 23)=AV.ssl (nat_lit 22) (nat_lit 0) (List.length x13.2.2) (nat_lit 1) (nat_lit 23)/\((-9223372036854775808:Int)<=(↑x13.1:Int)+1/\(↑x13.1:Int)+1<=9223372036854775807)/\∃(i3:NlS),qmy x0 x2/\x9=x9/\x8=x8/\x10=x10/\(↑i3.1:Int)=(↑x13.1:Int)+1/\x3=x3/\x6=x6/\qdv x1 i2/\i3.2.1=whE i0 (qcn (q5d x0 x2) (ByteArray.size (q5d x0 x2))) x13.2.1/\x3=x3/\qh0 x0 x2/\List.length i3.2.2=List.length x13.2.2+nat_lit 1/\q00 AT.cells x11.1=q00 AT.cells i2/\qf2 x4 (q00 txV i3.2.2=q00 txV x13.2.2++[Value.string (q2o i0 (qcn (q5d x0 x2) (ByteArray.size (q5d x0 x2))))]/\qqa x4 x8 x9 x10 x11/\(qya x7 i3)/\(1000:Nat)- i3.1<1000- x13.1/\True)
 abbrev zbs6:=qmy x0 x2/\x3=x3/\x6=x6/\qdv x1 x14/\x13.2.1=x13.2.1/\x3=x3/\qh0 x0 x2/\List.length x13.2.2=List.length x13.2.2/\q00 AT.cells x14=q00 AT.cells x14/\qf2 x4 (q00 txV x13.2.2=q00 txV x13.2.2/\qqa x4 x8 x9 x10 x11/\(x13.2.1=0->x7=0)/\True)
 abbrev zbs4:=(Option.isSome (findF (q5d x0 x2) x1 0)=true->∃(i0:List AT),(5:Int)=5/\qdv i0 x1/\x13.2.1=x13.2.1/\q00 AT.cells i0=q00 AT.cells x1/\True/\qmy x0 x2/\x3=x3/\x6=x6/\qdv x14 i0/\faE x13.2.1 (5:Int)=faE x13.2.1 5/\x3=x3/\qh0 x0 x2/\List.length x13.2.2=List.length x13.2.2/\q00 AT.cells x1=q00 AT.cells i0/\qf2 x4 (q00 txV x13.2.2=q00 txV x13.2.2/\qqa x4 x8 x9 x10 x11/\(faE x13.2.1 (5:Int)=0->x7=0)/\True))/\(Option.isSome (findF (q5d x0 x2) x1 0)=false->zbs6 x0 x14 x2 x3 x4 x6 x7 x8 x9 x10 x11 x13 x1)
 abbrev q8g:=(qiv x4 x8 x9 x10 x11 x20)/\List.length x13.2.2<=x12/\q1l x20 x17 (List.take (List.length x13.2.2*nat_lit 1) (q00 txV x13.2.2))
 abbrev zbs36:=(0<=AF.ty x24/\AF.ty x24<(↑(List.length (x21.1++x22.1)):Int))/\GJ.wf (AF.df x24)
 abbrev zbs26:=x21.2.1=0/\(∀(i0:AT),i0∈x22.1->q4k (List.length (x21.1++x22.1)) i0)/\(∀(i1:AF),i1∈x22.2.2.2->zbs36 x21 x22 i1)/\List.length x22.2.2.2<=30
 abbrev zbs35:=(∀(i0:AT),i0∈x22.1->AT.ok i0 x20)/\slP AF.cells x22.2.2.1 x22.2.2.2 x20/\∀(i1:AF),i1∈x22.2.2.2->AF.ok i1 x20
 abbrev zbs37:=x25.2.1=0/\x26.2.2.1≠[]/\List.length x26.2.2.1<=30
 abbrev zbs38:=if x26.1=0 then symS x25.1 x25.2.2.2 x26.2.1 x26.2.2.1 x26.2.2.2.1 x26.2.2.2.2 else x25.1
 abbrev qsy:=∃(i0:List AT),x7=x7/\List.length i0=List.length (adS x16.1 x16.2.2)/\adE x16.1 x16.2.1=adE x16.1 x16.2.1/\q00 AT.cells i0=q00 AT.cells (adS x16.1 x16.2.2)/\True/\∃(i1:TmB),i1.2.2=0/\List.length (x1++i1.1)=List.length i0/\i1.2.1=faE (adE x16.1 x16.2.1) x7/\q00 AT.cells (x1++i1.1)=q00 AT.cells i0/\q12 (x1,x3,x4,x5,x6) i1/\(∀(i2:Pub),q8g x4 x8 x9 x10 x11 x12 x13 x17 i2->qeq i2 i1)/\True
 abbrev zbs40:=x23.2.2=adR x16.1/\List.length (x1++x23.1)=List.length (adS x16.1 x16.2.2)/\x23.2.1=adE x16.1 x16.2.1/\x19
 abbrev zbs20:=(0<=adR x16.1/\adR x16.1<(↑(List.length (adS x16.1 x16.2.2)):Int))/\nat_lit 0+Int.toNat (adR x16.1)*nat_lit 10+7+List.length [Value.int IntKind.i64 (GJ.n (q6u x18))]<=List.length (q00 AT.cells (adS x16.1 x16.2.2))/\∃(i0:TmB),zbs40 x1 x16 (q00 AT.cells (x1++i0.1)=spl (q00 AT.cells (adS x16.1 x16.2.2)) (nat_lit 0+Int.toNat (adR x16.1)*nat_lit 10+7) [Value.int IntKind.i64 (GJ.n (q6u x18))]/\q12 (x1,x3,x4,x5,x6) i0/\(∀(i1:Pub),q8g x4 x8 x9 x10 x11 x12 x13 x17 i1->qeq i1 i0)/\True) i0
 abbrev zbs17:=(decide (adE x16.1 x16.2.1=0)=true->zbs20 x1 x3 x4 x5 x6 x8 x9 x10 x11 x12 x13 x16 x17 x18)/\(decide (adE x16.1 x16.2.1=0)=false->∃(i3:TmB),zbs40 x1 x16 (q00 AT.cells (x1++i3.1)=q00 AT.cells (adS x16.1 x16.2.2)/\q12 (x1,x3,x4,x5,x6) i3/\(∀(i4:Pub),q8g x4 x8 x9 x10 x11 x12 x13 x17 i4->qeq i4 i3)/\True) i3)
 abbrev zbs13:=(decide (5000<GJ.n (q6u x18))=true->qsy x1 x3 x4 x5 x6 6 x8 x9 x10 x11 x12 x13 x16 x17)/\(decide (5000<GJ.n (q6u x18))=false->zbs17 x1 x3 x4 x5 x6 x8 x9 x10 x11 x12 x13 x16 x17 x18)
 abbrev zbs10:=(decide (GJ.n (q6u x18)<0)=true->qsy x1 x3 x4 x5 x6 6 x8 x9 x10 x11 x12 x13 x16 x17)/\(decide (GJ.n (q6u x18)<0)=false->zbs13 x1 x3 x4 x5 x6 x8 x9 x10 x11 x12 x13 x16 x17 x18)
 abbrev zbs7:=((qp1 3 x18)=true->qsy x1 x3 x4 x5 x6 2 x8 x9 x10 x11 x12 x13 x16 x17)/\((qp1 3 x18)=false->zbs10 x1 x3 x4 x5 x6 x8 x9 x10 x11 x12 x13 x16 x17 x18)
 abbrev zbs5:=(decide (x3=10)=true->∃(i0:List AT×Int×GJ×Int),GJ.k i0.2.2.1=GJ.k x4/\GJ.n i0.2.2.1=GJ.n x4/\GJ.s i0.2.2.1=GJ.s x4/\(GJ.y i0.2.2.1).1=(GJ.y x4).1/\(GJ.y i0.2.2.1).2.1=(GJ.y x4).2.1/\(GJ.y i0.2.2.1).2.2=(GJ.y x4).2.2/\(GJ.x i0.2.2.1).1=(GJ.x x4).1/\(GJ.x i0.2.2.1).2.1=(GJ.x x4).2.1/\(GJ.x i0.2.2.1).2.2=(GJ.x x4).2.2/\i0.2.2.2=adR x16.1/\List.length i0.1=List.length (adS x16.1 x16.2.2)/\i0.2.1=adE x16.1 x16.2.1/\q00 AT.cells i0.1=q00 AT.cells (adS x16.1 x16.2.2)/\(List.length i0.1<=60/\GJ.wf i0.2.2.1/\0<=i0.2.2.2/\(i0.2.1=0->i0.2.2.2<(↑(List.length i0.1):Int)))/\(∀(i1:Pub),q8g x4 x8 x9 x10 x11 x12 x13 x17 i1->GJ.ok i0.2.2.1 i1)/\∀(i2:SyB),(i2.1=0->zbs37 i0 i2)->(∃(i3:Pub),(q8g x4 x8 x9 x10 x11 x12 x13 x17 i3)/\slP txV i2.2.1 i2.2.2.1 i3)->∃(i4:TmB),i4.2.2=adR x16.1/\List.length (x1++i4.1)=List.length (zbs38 i0 i2)/\i4.2.1=i2.1/\q00 AT.cells (x1++i4.1)=q00 AT.cells (zbs38 i0 i2)/\q12 (x1,x6,x4,x5,x7) i4/\(∀(i5:Pub),(q8g x4 x8 x9 x10 x11 x12 x13 x17 i5)/\slP txV i2.2.1 i2.2.2.1 i5->qeq i5 i4)/\True)/\(decide (x3=10)=false->∃(i7:GJ×ByteArray),zbs22 x4 i7 (i7.2=mkS [115,105,122,101]/\GJ.wf i7.1/\(∀(i8:Pub),q8g x4 x8 x9 x10 x11 x12 x13 x17 i8->GJ.ok i7.1 i8)/\((!Option.isSome (q0z i7.2 i7.1))=true->qsy x1 x6 x4 x5 x7 2 x8 x9 x10 x11 x12 x13 x16 x17)/\((!Option.isSome (q0z i7.2 i7.1))=false->zbs7 x1 x6 x4 x5 x7 x8 x9 x10 x11 x12 x13 x16 x17 i7)))
 abbrev zbs3:=((!decide (x3=0))=true->∃(i0:TmB),i0.2.2=0/\List.length (x1++i0.1)=List.length x1/\i0.2.1=x3/\q00 AT.cells (x1++i0.1)=q00 AT.cells x14/\q12 (x1,x6,x4,x5,x7) i0/\(∀(i1:Pub),qiv x4 x8 x9 x10 x11 i1->qeq i1 i0)/\True)/\((!decide (x3=0))=false->∀(i3 i4 i5:Nat) (i6:Option Addr) (i7 i8:Nat),(∃(i9:Pub),q8g x4 x8 x9 x10 x11 i8 x13 i6 i9)->∃(i10:List AT×Int×AT),AT.k i10.2.2=x15/\AT.nm i10.2.2=q2o (q37 x2).1 x0.2/\(AT.al i10.2.2).1=i6/\(AT.al i10.2.2).2.1=List.length x13.2.2/\(AT.al i10.2.2).2.2=i8/\AT.it i10.2.2=0/\(AT.sy i10.2.2).1=noA/\(AT.sy i10.2.2).2.1=0/\(AT.sy i10.2.2).2.2=0/\AT.hd i10.2.2=false/\AT.df i10.2.2=mkS []/\AT.sz i10.2.2=0/\(AT.f i10.2.2).1=noA/\(AT.f i10.2.2).2.1=0/\(AT.f i10.2.2).2.2=0/\(AT.br i10.2.2).1=noA/\(AT.br i10.2.2).2.1=0/\(AT.br i10.2.2).2.2=0/\List.length i10.1=List.length x1/\i10.2.1=x3/\q00 AT.cells i10.1=q00 AT.cells x14/\True/\(decide (x15=9)=true->∃(i11:FdS),GJ.k i11.2.2.1=GJ.k x4/\GJ.n i11.2.2.1=GJ.n x4/\GJ.s i11.2.2.1=GJ.s x4/\(GJ.y i11.2.2.1).1=(GJ.y x4).1/\(GJ.y i11.2.2.1).2.1=(GJ.y x4).2.1/\(GJ.y i11.2.2.1).2.2=(GJ.y x4).2.2/\(GJ.x i11.2.2.1).1=(GJ.x x4).1/\(GJ.x i11.2.2.1).2.1=(GJ.x x4).2.1/\(GJ.x i11.2.2.1).2.2=(GJ.x x4).2.2/\i11.2.2.2.1=adR i10.1/\i11.2.2.2.2.1=qcn (q5d x0 x2) (ByteArray.size (q5d x0 x2))/\i11.2.2.2.2.2=x7/\List.length i11.1=List.length (adS i10.1 i10.2.2)/\i11.2.1=adE i10.1 i10.2.1/\q00 AT.cells i11.1=q00 AT.cells (adS i10.1 i10.2.2)/\(muFd i11<x12+1/\List.length i11.1<=60/\GJ.wf i11.2.2.1/\0<=i11.2.2.2.1/\(i11.2.1=0->i11.2.2.2.1<(↑(List.length i11.1):Int))/\1<=i11.2.2.2.2.2/\i11.2.2.2.2.2<=20/\(↑(ByteArray.size i11.2.2.2.2.1):Int)<=1100*(i11.2.2.2.2.2+1))/\(∀(i12:Pub),q8g x4 x8 x9 x10 x11 i8 x13 i6 i12->GJ.ok i11.2.2.1 i12)/\∀(i13:FdB),List.length (i11.1++i13.1)<=60/\(i13.2.1=0->zbs26 i11 i13)->(∃(i16:Pub),(q8g x4 x8 x9 x10 x11 i8 x13 i6 i16)/\zbs35 i16 i13)->∃(i19:TmB),i19.2.2=adR i10.1/\List.length (x1++i19.1)=List.length ((if i13.2.1=0 then qhs i11.1 i11.2.2.2.1 i13.2.2.1 i13.2.2.2 else i11.1)++i13.1)/\i19.2.1=i13.2.1/\q00 AT.cells (x1++i19.1)=q00 AT.cells ((if i13.2.1=0 then qhs i11.1 i11.2.2.2.1 i13.2.2.1 i13.2.2.2 else i11.1)++i13.1)/\q12 (x1,x6,x4,x5,x7) i19/\(∀(i20:Pub),((q8g x4 x8 x9 x10 x11 i8 x13 i6 i20)/\zbs35 i20 i13)->qeq i20 i19)/\True)/\(decide (x15=9)=false->zbs5 x1 x15 x4 x5 x6 x7 x8 x9 x10 x11 i8 x13 i10 i6))
 abbrev zbs23:=∃(i0:List AT),qh0 x0 x2/\qdv i0 x1/\x13.2.1=x13.2.1/\q00 AT.cells i0=q00 AT.cells x11.1/\List.length i0<1000/\((decide (x13.2.1=0)=true->zbs4 x0 i0 x2 x3 x4 x6 x7 x8 x9 x10 x11 x13 x1)/\(decide (x13.2.1=0)=false->zbs6 x0 x1 x2 x3 x4 x6 x7 x8 x9 x10 x11 x13 i0))/\∀(i1:Int),(i1=0->x7=0)->zbs3 x0 x1 x2 i1 x4 x5 x7 x6 x8 x9 x10 x11 x12 x13 i0 x3
 abbrev zbs8:=(decide (x13.2.1=0)=true->zbs9 x0 x1 x2 x3 x4 x6 x7 x8 x9 x10 x11 x13)/\(decide (x13.2.1=0)=false->zbs23 x0 x1 x2 x3 x4 x5 x6 x7 x8 x9 x10 x11 x12 x13)
 abbrev zbs2:=(decide ((↑x13.1:Int)<(↑x8:Int))=true->zbs8 x0 x1 x2 x3 x4 x5 x6 x7 x8 x9 x10 x11 x12 x13)/\(decide ((↑x13.1:Int)<(↑x8:Int))=false->zbs23 x0 x1 x2 x3 x4 x5 x6 x7 x8 x9 x10 x11 x12 x13)
 abbrev zbs1:=(∃(i0:NlS),qmy x0 x2/\x9=x9/\x8=x8/\x10=x10/\(↑i0.1:Int)=0/\x3=x3/\x6=x6/\List.length x1=List.length x11.1/\i0.2.1=(q4f x11.2.2.1 x11.2.2.2 x11.2.1).2.2/\x3=x3/\qh0 x0 x2/\List.length i0.2.2=0/\q00 AT.cells x11.1=q00 AT.cells x11.1/\qf2 x4 (qqa x4 x8 x9 x10 x11/\(qya x7 i0)/\True))/\∀(i2:NlS),qya x7 i2->zbs2 x0 x1 x2 x3 x4 x5 x6 x7 x8 x9 x10 x11 x12 i2
 abbrev zbs0:=((!decide (x0.1=0))=true->∃(i0:TmB),i0.2.2=0/\List.length (x1++i0.1)=List.length x1/\i0.2.1=x0.1/\q00 AT.cells (x1++i0.1)=q00 AT.cells x2.1/\q12 (x1,x3,x4,x5,x6) i0/\(∀(i1:Pub),True/\GJ.ok x4 i1->qeq i1 i0)/\True)/\((!decide (x0.1=0))=false->∃(i3:List AT),(q37 x2).1=(q37 x2).1/\x0.2=x0.2/\qdv i3 x1/\x0.1=x0.1/\q00 AT.cells i3=q00 AT.cells x2.1/\(ByteArray.size (q37 x2).1<10000/\ByteArray.size x0.2<50000)/\qh0 x0 x2/\ByteArray.size (q5d x0 x2)<1000000/\∃(i4:List AT×Int×GJ×ByteArray),GJ.k i4.2.2.1=GJ.k x4/\GJ.n i4.2.2.1=GJ.n x4/\GJ.s i4.2.2.1=GJ.s x4/\(GJ.y i4.2.2.1).1=(GJ.y x4).1/\(GJ.y i4.2.2.1).2.1=(GJ.y x4).2.1/\(GJ.y i4.2.2.1).2.2=(GJ.y x4).2.2/\(GJ.x i4.2.2.1).1=(GJ.x x4).1/\(GJ.x i4.2.2.1).2.1=(GJ.x x4).2.1/\(GJ.x i4.2.2.1).2.2=(GJ.x x4).2.2/\i4.2.2.2=mkS [97,108,105,97,115,101,115]/\List.length i4.1=List.length i3/\i4.2.1=whE (q37 x2).1 x0.2 x0.1/\q00 AT.cells i4.1=q00 AT.cells i3/\GJ.wf i4.2.2.1/\(∀(i5:Pub),True/\GJ.ok x4 i5->GJ.ok i4.2.2.1 i5)/\∀(i6:Unit),True->∀(i7:Option Addr) (i8 i9:Nat),(∃(i10:Pub),qiv x4 i8 i7 i9 i4 i10)->zbs1 x0 x1 x2 x7 x4 x5 x6 x3 i8 i7 i9 i4 x8)
end
theorem qlk(n:Nat) (S:List AT) (e:Int) (g:GJ) (k:Int) (sp:ByteArray) (d:Int):q68 P (q0r [(75,qb6),(109,qfd),(110,qcj),(111,qe7),(112,qc4),(106,qsm),(78,cAdd),(72,q4d)]) (q1s [(113,q8q.below muFd (n+1)),(114,cSymM)]) Try.f76 (qdd.below muNm (n+1)) (qtj) ⟨S,e,g,k,sp,d⟩=(muNm (S,e,g,k,sp,d)<n+1/\q73 (S,e,g,sp,d)/\d<=20/\(k=9\/k=10\/k=11)->(∃(p:Pub),True/\GJ.ok g p)->∃(s:List AT×Int×GJ×ByteArray×Bool),GJ.k s.2.2.1=GJ.k g/\GJ.n s.2.2.1=GJ.n g/\GJ.s s.2.2.1=GJ.s g/\(GJ.y s.2.2.1).1=(GJ.y g).1/\(GJ.y s.2.2.1).2.1=(GJ.y g).2.1/\(GJ.y s.2.2.1).2.2=(GJ.y g).2.2/\(GJ.x s.2.2.1).1=(GJ.x g).1/\(GJ.x s.2.2.1).2.1=(GJ.x g).2.1/\(GJ.x s.2.2.1).2.2=(GJ.x g).2.2/\s.2.2.2.1=mkS [110,97,109,101]/\s.2.2.2.2=true/\List.length s.1=List.length S/\s.2.1=e/\q00 AT.cells s.1=q00 AT.cells S/\GJ.wf s.2.2.1/\(∀(p:Pub),True/\GJ.ok g p->GJ.ok s.2.2.1 p)/\∃(s_1:GJ×ByteArray),zbs22 g s_1 (s_1.2=mkS [110,97,109,101,115,112,97,99,101]/\GJ.wf s_1.1/\(∀(p:Pub),True/\GJ.ok g p->GJ.ok s_1.1 p)/\((Option.isSome (q0z s_1.2 s_1.1)=true->zbs11 S s k g d e s_1)/\(Option.isSome (q0z s_1.2 s_1.1)=false->zbs24 S s k g sp d e))/\∀(s_2:Int×ByteArray),(s_2.1=0->e=0)/\(↑(ByteArray.size s_2.2):Int)<=1100*d->zbs0 s_2 S s e g sp d k n)):=by kernel_rfl
def qqg(n:Nat) (S:List AT) (e:Int) (g:GJ) (k:Int) (sp:ByteArray) (d:Int):=Eq.trans (qlk n S e g k sp d) (by delta zbs22 q6u qp1 q37 qdv qf2 zbs33 zbs30 zbs21 zbs11 zbs24 qeq qh0 q5d qiv qmy qqa qya zbs9 zbs6 zbs4 q8g zbs36 zbs26 zbs35 zbs37 zbs38 qsy zbs40 zbs20 zbs17 zbs13 zbs10 zbs7 zbs5 zbs3 zbs23 zbs8 zbs2 zbs1 zbs0;exact rfl)
def nmAT(k:Int) (W:ByteArray) (al:SV) (als:List ByteArray):AT:=⟨k,W,al,als,0,(none,0,0),[],false,mkS [],0,(none,0,0),[],(none,0,0),[]⟩
theorem nmAT_ok{k:Int} {W:ByteArray} {al:SV} {als:List ByteArray} {p:Pub} (h:slP txV al als p):(nmAT k W al als).ok p:=⟨h,q0c,q0c,q0c,λf hf=>(by cases hf)⟩
theorem ql7(S:List AT) (t u:AT):(S++[t]).set S.length u=S++[u]:=by
 induction S with
 |nil=>rfl
 |cons a S ih=>rw[List.cons_append,List.length_cons,List.set_cons_succ,ih];rfl
theorem qjy(S:List AT) (t:AT):(S++[t])[S.length]? =some t:=by
 rw[List.getElem?_append_right (Nat.le_refl _),Nat.sub_self];rfl
theorem qw9(S:List AT) (t:AT) (x:SV) (l:List AF):qhs (S++[t]) (S.length:Int) x l=S++[{t with f:=x,fs:=l}]:=by
 unfold qhs;rw[Int.toNat_natCast,qjy];exact ql7 _ _ _
theorem qtf(S:List AT) (t:AT) (y:SV) (l:List ByteArray) (hd:Bool) (df:ByteArray):symS (S++[t]) (S.length:Int) y l hd df=S++[{t with sy:=y,sys:=l,hd:=hd,df:=df}]:=by
 unfold symS;rw[Int.toNat_natCast,qjy];exact ql7 _ _ _
theorem spl_sz(S:List AT) (t:AT) (r:Int):q00 AT.cells (S++[{t with sz:=r}])=spl (q00 AT.cells (S++[t])) (0+S.length*10+7) [.int .i64 r]:=by
 rw[q0e,q0e,q2x,q2x,Nat.zero_add,←q03 q3g S]
 show _=(q00 AT.cells S++(t.cells++q00 AT.cells [])).set ((q00 AT.cells S).length+7) (.int .i64 r)
 rw[q7f]
 rfl
theorem qfb{s:ByteArray}:∀i,i<=s.size->(qcn s i).size<=s.size
  |0,_=>Nat.zero_le _
  | i+1,h=>by
    rw[qcn]
    split
    · rw[ByteArray.size_extract];omega
    · exact qfb i (by omega)
theorem whE_e{a b:ByteArray} {e:Int}:whE a b e=0->e=0:=by
 unfold whE
 split
 ·exactλh=>(q7e (by decide) h).elim
 ·exactλh=>h
theorem qrw(n:Nat) (hf:q0d P 113 (q8q.below muFd (n+1))):q0d P 76 (qdd.below muNm (n+1)):=by
 refine q0v mixed (q05 (q01 q65 (q01 qcl (q01 qut (q01 qpo (q01 qdm (q01 qky (q01 qe1 (q01 q2b q06))))))))) (q0g (q04 hf (q04 symM_ok q0q))) (W:=qtj) Try.func76 (by kernel_rfl) (show 1<=4 by decide) (show 4<=6 by decide) (λs=>by kernel_rfl) λ⟨S,(e:Int),g,(k:Int),sp,(d:Int)⟩=>(qqg n S e g k sp d).mpr ?_
 rintro⟨hmu,⟨hS,hg,hd1,hd2,hsp⟩,hd3,hk⟩ ⟨p,_,hp⟩
 have hmu:(25- d).toNat<n+1:=hmu
 simp only[decide_eq_true_eq,decide_eq_false_iff_not,Bool.not_eq_true',Bool.not_eq_false',true_and,and_true,eq_self,imp_self,implies_true,exists_const,forall_const,Int.toNat_natCast]
 have hnm:=woR_sz hg (mkS [110,97,109,101]) true e
 have hwe:(woR g (mkS [110,97,109,101]) true e).2=0->e=0:=woR_e
 obtain⟨oww,_⟩:=q2j (mkS [110,97,109,101,115,112,97,99,101]) hg
 have osz:((q0z (mkS [110,97,109,101,115,112,97,99,101]) g).getD zJ).s.size<1000:=by rw[GJ.wf_eq]at oww;exact oww.1
 have bad0:∀k:Int,k≠0->q12 (S,e,g,sp,d) ([],k,0):=λk hk=>⟨⟨by rw[List.append_nil];exact hS,λh=>absurd h hk⟩,λh=>absurd h hk⟩
 refine⟨⟨S,e,g,mkS [110,97,109,101],true⟩,rfl,rfl,rfl,rfl,rfl,rfl,rfl,rfl,rfl,rfl,rfl,rfl,rfl,rfl,hg,λq hq=>hq,⟨g,mkS [110,97,109,101,115,112,97,99,101]⟩,rfl,rfl,rfl,rfl,rfl,rfl,rfl,rfl,rfl,rfl,hg,λq hq=>hq,?_⟩
 simp only
 clear oww
 generalize (q0z (mkS [110,97,109,101,115,112,97,99,101]) g).getD zJ=ow at*
 generalize woR g (mkS [110,97,109,101]) true e=W at*
 refine⟨⟨λ_=>⟨λ_=>⟨S,rfl,rfl,rfl,rfl,λh=>(q7e (by decide) h).elim,by omega⟩,λ_=>⟨trivial,hwe,by omega⟩⟩,λ_=>⟨trivial,hwe,hsp⟩⟩,?_⟩
 rintro⟨e2,sp2⟩ ⟨h2,hsp2⟩
 simp only at h2 hsp2⊢
 refine⟨λhne=>⟨⟨[],e2,0⟩,rfl,by rw[List.append_nil],rfl,by rw[List.append_nil],bad0 _ hne,λq _ a ha=>(by cases ha)⟩,λhe2=> ?_⟩
 have hws:=q9c (a:=W.1) (b:=sp2)
 have hbs:=qfb (s:=q2o W.1 sp2) _ (Nat.le_refl _)
 refine⟨S,rfl,rfl,⟨by omega,by omega⟩,by omega,⟨S,whE W.1 sp2 e2,g,mkS [97,108,105,97,115,101,115]⟩,rfl,rfl,rfl,rfl,rfl,rfl,rfl,rfl,rfl,rfl,rfl,rfl,rfl,hg,λq hq=>hq,?_⟩
 have hsz:∀x∈(q4f g (mkS [97,108,105,97,115,101,115]) (whE W.1 sp2 e2)).1,x.size<1000:=qd6 hg
 have hLl:(q4f g (mkS [97,108,105,97,115,101,115]) (whE W.1 sp2 e2)).1.length<1000:=qea hg
 have hE:(q4f g (mkS [97,108,105,97,115,101,115]) (whE W.1 sp2 e2)).2.2=0->e=0:=λh=>h2 (whE_e (qth h))
 simp only
 generalize q4f g (mkS [97,108,105,97,115,101,115]) (whE W.1 sp2 e2)=F at*
 generalize q2o W.1 sp2=N at*
 generalize qcn N N.size=sp3 at*
 rintro a m c ⟨p1,hp1,hl1⟩
 have hm:m=F.1.length:=hl1.1
 subst hm
 have hat2:=λ(k:Nat) (hk:k<F.1.length) (q:Pub) (hq:slP txV (a,F.1.length,c) F.1 q)=>(show a≠noA/\q02 q (adr a (k*1)) [.string F.1[k]]from q1m q13 (by decide) hq hk)
 refine⟨⟨⟨0,F.2.2,[]⟩,rfl,trivial,rfl,rfl,by show((0:Nat):Int)<=1000;omega,Nat.le_refl _,hE⟩,?_⟩
 rintro⟨x,e4,acc⟩ ⟨hx0,hacc,h4⟩
 simp only at hx0 hacc h4⊢
 refine⟨λhx=>⟨λh0=>⟨⟨by omega,by omega⟩,(hat2 x (by omega) p1 hl1).1,F.1[x]'(by omega),λq hq=>(hat2 x (by omega) q hq.2).2,S,rfl,rfl,⟨by have:=hsz _ (List.getElem_mem (show x<F.1.length by omega));omega,by omega⟩,q03 q13 acc,by omega,⟨by omega,by omega⟩,⟨x+1,whE (F.1[x]'(by omega)) sp3 e4,acc++[q2o (F.1[x]'(by omega)) sp3]⟩,by show((x+1:Nat):Int)=_;omega,rfl,rfl,by simp,rfl,by rw[q0e];rfl,⟨by show((x+1:Nat):Int)<=1000;omega,by show(acc++[_]).length<=x+1;simp;omega,λh=>h4 (whE_e h)⟩,by show 1000- (x+1)<1000- x;omega⟩,λh0=> ?xa⟩,λhx=> ?xb⟩
 case xa | xb=>
  refine⟨S,rfl,rfl,by omega,⟨⟨λ_=>⟨λ_=>⟨S,rfl,rfl,rfl,rfl,λh=>(q7e (by decide) h).elim⟩,λ_=>⟨rfl,h4⟩⟩,λ_=>⟨rfl,h4⟩⟩,?_⟩⟩
  intro e5 h5
  refine⟨λhne=>⟨⟨[],e5,0⟩,rfl,by rw[List.append_nil],rfl,by rw[List.append_nil],bad0 _ hne,λq _ a ha=>(by cases ha)⟩,λhe5=> ?_⟩
  intro a7 c1 _
  have e0:=h5 he5
  have hal:∀q,(acc.length<=c1/\q1l q a7 (List.take (acc.length*1) (q00 txV acc)))->slP txV (a7,acc.length,c1) acc q:=λq hq=>by
   refine⟨rfl,hq.1,?_⟩
   have:=hq.2
   rw[List.take_of_length_le (by rw[q03 q13];exact Nat.le_refl _)]at this
   exact this
  refine⟨⟨S,e5,nmAT k N (a7,acc.length,c1) acc⟩,rfl,rfl,rfl,rfl,rfl,rfl,rfl,rfl,rfl,rfl,rfl,rfl,rfl,rfl,rfl,rfl,rfl,rfl,rfl,rfl,rfl,?_⟩
  have hto:∀q,slP txV (a7,acc.length,c1) acc q->(nmAT k N (a7,acc.length,c1) acc).ok q:=λq h=>nmAT_ok h
  have htk:(nmAT k N (a7,acc.length,c1) acc).k=k:=rfl
  have hte:nmAT k N (a7,acc.length,c1) acc=⟨k,N,(a7,acc.length,c1),acc,0,(none,0,0),[],false,mkS [],0,(none,0,0),[],(none,0,0),[]⟩:=rfl
  simp only
  generalize nmAT k N (a7,acc.length,c1) acc=t at*
  have adl:=qtd S t hS
  have adok:∀q,slP txV (a7,acc.length,c1) acc q->∀a∈adT S t,a.ok q:=λq hq a ha=>by
   unfold adT at ha
   split at ha
   ·cases ha
   ·simp at ha;subst ha;exact hto q hq
  have hR0:0<=adR S:=by unfold adR;split<;>omega
  have hgood:adE S e5=0->S.length<60/\adS S t=S++[t]/\adR S=S.length:=λh=>by
   have hl:S.length<60:=by
    by_cases hl:60<=S.length
    ·exact absurd h (qqb hl)
    ·omega
   exact⟨hl,by unfold adS;rw[if_neg (by omega)],by unfold adR;rw[if_neg (by omega)]⟩
  have hbad:∀e6:Int,e6≠0->q12 (S,e,g,sp,d) (adT S t,e6,0):=λe6 h6=>⟨⟨adl,λh=>absurd h h6⟩,λh=>absurd h h6⟩
  refine⟨λh9=> ?_,λh9=>⟨λh10=> ?_,λh10=> ?_⟩⟩
  ·refine ⟨⟨adS S t,adE S e5,g,adR S,sp3,d⟩,rfl,rfl,rfl,rfl,rfl,rfl,rfl,rfl,rfl,rfl,rfl,rfl,rfl,rfl,rfl,⟨hmu,by rw[q1r];exact adl,hg,hR0,λh=> ?_,hd1,hd3,by show(sp3.size:Int)<=1100*(d+1);omega⟩,λq hq=>hq.1.1,?_⟩
   ·obtain⟨hl,q2,q3⟩:=hgood h
    show adR S<((adS S t).length:Int)
    rw[q2,q3];simp;omega
   ·rintro⟨T,e6,x,fs⟩ ⟨hT,hT2⟩ ⟨p3,_,hTok,hsl,hfok⟩
    simp only at hT hT2 hTok hsl hfok⊢
    by_cases h6:e6=0
    ·obtain⟨ha0,hTg,hfg,hf30⟩:=hT2 h6
     obtain⟨hl,q2,q3⟩:=hgood ha0
     rw[q2]at hT hTg hfg
     rw[if_pos h6,q2,q3,qw9,List.append_assoc]
     have hlen:∀u:AT,(S++(u::T)).length=S.length+T.length+1:=λu=>by simp;omega
     have hlen2:(S++[t]++T).length=S.length+T.length+1:=by simp;omega
     refine⟨⟨{t with f:=x,fs:=fs}::T,e6,S.length⟩,rfl,rfl,rfl,rfl,⟨⟨by rw[hlen];omega,λ_=>⟨e0,λy hy=> ?_⟩⟩,λ_=>⟨by show 0<=(S.length:Int);omega,by show(S.length:Int)<((S++_::T).length:Int);rw[hlen];omega⟩⟩,λq hq y hy=> ?_⟩
     ·rw[hlen]
      rw[hlen2]at hTg hfg
      rcases List.mem_cons.1 hy with rfl|hy
      ·subst hte
       exact⟨by show 1<=k/\k<=14;omega,λh=>(by have h:k=12\/k=13:=h;omega),λb hb=>(by cases hb),λh=>(by have h:k=14:=h;omega),hfg,λh=>(by have h:k=10:=h;omega),λh=>(by have h:k=11:=h;omega),hf30,Nat.zero_le _,Nat.zero_le _⟩
      ·exact hTg y hy
     ·rcases List.mem_cons.1 hy with rfl|hy
      ·have ho:=hto q (hal q hq.1.2)
       exact⟨ho.1,ho.2.1,hq.2.2.1,ho.2.2.2.1,hq.2.2.2⟩
      ·exact hq.2.1 y hy
    ·rw[if_neg h6]
     refine⟨⟨adT S t++T,e6,adR S⟩,rfl,by rw[q1r,List.append_assoc],rfl,by rw[q1r,List.append_assoc],⟨⟨by rw[←List.append_assoc,←q1r];exact hT,λh=>absurd h h6⟩,λh=>absurd h h6⟩,λq hq y hy=>(List.mem_append.1 hy).elim (adok q (hal q hq.1.2) y) (hq.2.1 y)⟩
  ·refine⟨⟨adS S t,adE S e5,g,adR S⟩,rfl,rfl,rfl,rfl,rfl,rfl,rfl,rfl,rfl,rfl,rfl,rfl,rfl,⟨by rw[q1r];exact adl,hg,hR0,λh=> ?_⟩,λq hq=>hq.1.1,?_⟩
   ·obtain⟨hl,q2,q3⟩:=hgood h
    show adR S<((adS S t).length:Int)
    rw[q2,q3];simp;omega
   ·rintro⟨e6,y,l,hd,df⟩ hT2 ⟨p3,_,hsl⟩
    simp only at hT2 hsl⊢
    by_cases h6:e6=0
    ·obtain⟨ha0,hl0,hl30⟩:=hT2 h6
     obtain⟨hl,q2,q3⟩:=hgood ha0
     rw[if_pos h6,q2,q3,qtf]
     refine⟨⟨[{t with sy:=y,sys:=l,hd:=hd,df:=df}],e6,S.length⟩,rfl,rfl,rfl,rfl,⟨⟨by simp;omega,λ_=>⟨e0,λz hz=> ?_⟩⟩,λ_=>⟨by show 0<=(S.length:Int);omega,by simp;omega⟩⟩,λq hq z hz=> ?_⟩
     ·simp at hz;subst hz;subst hte
      exact⟨by show 1<=k/\k<=14;omega,λh=>(by have h:k=12\/k=13:=h;omega),λb hb=>(by cases hb),λh=>(by have h:k=14:=h;omega),λf hf=>(by cases hf),λ_=>hl0,λh=>(by have h:k=11:=h;omega),Nat.zero_le _,Nat.zero_le _,hl30⟩
     ·simp at hz;subst hz
      have ho:=hto q (hal q hq.1.2)
      exact⟨ho.1,hq.2,ho.2.2.1,ho.2.2.2.1,ho.2.2.2.2⟩
    ·rw[if_neg h6]
     refine⟨⟨adT S t,e6,adR S⟩,rfl,by rw[q1r],rfl,by rw[q1r],⟨⟨adl,λh=>absurd h h6⟩,λh=>absurd h h6⟩,λq hq y hy=>adok q (hal q hq.1.2) y hy⟩
  ·obtain⟨zw,_⟩:=q2j (mkS [115,105,122,101]) hg
   refine⟨⟨g,mkS [115,105,122,101]⟩,rfl,rfl,rfl,rfl,rfl,rfl,rfl,rfl,rfl,rfl,hg,λq hq=>hq.1.1,?_⟩
   simp only
   have hbd:∀k:Int,k≠0->∃b:List AT,b.length=(adS S t).length/\q00 AT.cells b=q00 AT.cells (adS S t)/\∃b_2:TmB,b_2.2.2=0/\(S++b_2.1).length=b.length/\b_2.2.1=faE (adE S e5) k/\q00 AT.cells (S++b_2.1)=q00 AT.cells b/\q12 (S,e,g,sp,d) b_2/\∀q,((g.ok q/\slP txV (a,F.1.length,c) F.1 q)/\acc.length<=c1/\q1l q a7 (List.take (acc.length*1) (q00 txV acc)))->∀y∈b_2.1,y.ok q:=λk hk=>⟨adS S t,rfl,rfl,⟨adT S t,faE (adE S e5) k,0⟩,rfl,by rw[q1r],rfl,by rw[q1r],hbad _ (q1b hk),λq hq=>adok q (hal q hq.2)⟩
   generalize (q0z (mkS [115,105,122,101]) g).getD zJ=zs at*
   refine⟨λ_=>hbd 2 (by decide),λ_=>⟨λ_=>hbd 2 (by decide),λ_=>⟨λ_=>hbd 6 (by decide),λz0=>⟨λ_=>hbd 6 (by decide),λz1=>⟨λha0=> ?_,λha0=>⟨⟨adT S t,adE S e5,adR S⟩,rfl,by rw[q1r],rfl,by rw[q1r],⟨⟨adl,λh=>absurd h ha0⟩,λh=>absurd h ha0⟩,λq hq=>adok q (hal q hq.2)⟩⟩⟩⟩⟩⟩
   clear hbd
   obtain⟨hl,q2,q3⟩:=hgood ha0
   rw[q2,q3,Int.toNat_natCast]
   have hlen:∀u:AT,(S++[u]).length=S.length+1:=λu=>by simp
   refine⟨⟨by omega,by rw[hlen];omega⟩,by rw[q03 q3g,hlen];show 0+S.length*10+7+1<=_;omega,⟨[{t with sz:=zs.n}],adE S e5,S.length⟩,rfl,by show(S++[_]).length=_;rw[hlen,hlen],rfl,spl_sz S t zs.n,⟨⟨by rw[hlen];omega,λ_=>⟨e0,λz hz=> ?_⟩⟩,λ_=>⟨by show 0<=(S.length:Int);omega,by rw[hlen];show(S.length:Int)<_;omega⟩⟩,λq hq z hz=> ?_⟩
   ·simp at hz;subst hz;subst hte
    exact⟨by show 1<=k/\k<=14;omega,λh=>(by have h:k=12\/k=13:=h;omega),λb hb=>(by cases hb),λh=>(by have h:k=14:=h;omega),λf hf=>(by cases hf),λh=>(by have h:k=10:=h;omega),λ_=>⟨by show 0<=zs.n;omega,by show zs.n<=5000;omega⟩,Nat.zero_le _,Nat.zero_le _,Nat.zero_le _⟩
   ·simp at hz;subst hz
    have ho:=hto q (hal q hq.2)
    exact⟨ho.1,ho.2.1,ho.2.2.1,ho.2.2.2.1,ho.2.2.2.2⟩
theorem q6c:∀n,q0d P 46 (q4c.below qca n)
 |0=>CtR.below_zero (by decide) (by decide) (Sen.enters_of Try.func46 (by kernel_rfl)) λs=>rfl
 |n+1=>treeM_ok n (q6c n) (quu n (q6c n)) (qrw n (qmz n (q6c n)))
theorem qsh:q0d P 46 q4c:=CtR.of_below q6c
def q0j(S:List AT):Prop:=S.length<=60/\∀a∈S,q4k S.length a
def qp7:CtR where
 σ:=GJ
 args:=λg=>[g.av]
 h:=λ_=>[]
 m:=1
 pre:=λg=>g.wf
 mem:=gM
 β:=λ_=>List AT×SV×Int
 post:=λg ⟨S,x,e⟩=>q0j S/\(e=0->S≠[])
 pm:=λ_ ⟨S,x,e⟩=>⟨true,q0l S x,λ_ _ h e=>q2e h e⟩
 r:=λ_ ⟨S,x,e⟩=> .tup [scA x, .sv (.int .i64 e)]
 h':=λ_ _=>[]
 m':=1
def wFromM:GJ->WayF:=λg=>{pubE:=[23]}
noncomputable section
variable (x0:TmB) (x1:GJ) (x2:TmS) (x3:Nat->Option Obj) (x4:Nat) (x5:Option Addr)
 abbrev zbt1:=AV.sv (Value.int IntKind.i64 x0.2.1)=AV.sv (Value.int IntKind.i64 x0.2.1)/\∃(i0:List AT×(Option Addr×Nat×Nat)×Int),i0.2.1.1=noA/\i0.2.1.2.1=0/\i0.2.1.2.2=0/\i0.2.2=x0.2.1/\(q0j i0.1/\(i0.2.2=0->i0.1≠[]))/\(∀(i1:Pub),((True/\GJ.ok x1 i1)/\∀(i2:AT),i2∈x0.1->AT.ok i2 i1)->q0l i0.1 i0.2.1 i1)/\True
 abbrev zbt2:=((True/\GJ.ok x1 x3)/\∀(i0:AT),i0∈x0.1->AT.ok i0 x3)/\List.length (x2.1++x0.1)<=x4/\q1l x3 x5 (List.take (List.length (x2.1++x0.1)*nat_lit 10) (q00 AT.cells (x2.1++x0.1)))
 abbrev zbt0:=((!decide (x0.2.1=0))=true->zbt1 x0 x1)/\((!decide (x0.2.1=0))=false->∀(i3 i4 i5:Nat) (i6:Option Addr) (i7 i8:Nat),(∃(i9:Pub),zbt2 x0 x1 x2 i9 i8 i6)->∃(i11:List AT×(Option Addr×Nat×Nat)×Int),i11.2.1.1=i6/\i11.2.1.2.1=List.length (x2.1++x0.1)/\i11.2.1.2.2=i8/\i11.2.2=0/\(q0j i11.1/\(i11.2.2=0->i11.1≠[]))/\(∀(i12:Pub),zbt2 x0 x1 x2 i12 i8 i6->q0l i11.1 i11.2.1 i12)/\True)
end
theorem qsj(g:GJ):q68 P (q0r []) (q1s [(46,q4c)]) Try.f23 qp7 (wFromM) g=(GJ.wf g->(∃(p:Pub),True/\GJ.ok g p)->∃(s:TmS),GJ.k s.2.2.1=GJ.k g/\GJ.n s.2.2.1=GJ.n g/\GJ.s s.2.2.1=GJ.s g/\(GJ.y s.2.2.1).1=(GJ.y g).1/\(GJ.y s.2.2.1).2.1=(GJ.y g).2.1/\(GJ.y s.2.2.1).2.2=(GJ.y g).2.2/\(GJ.x s.2.2.1).1=(GJ.x g).1/\(GJ.x s.2.2.1).2.1=(GJ.x g).2.1/\(GJ.x s.2.2.1).2.2=(GJ.x g).2.2/\s.2.2.2.1=mkS []/\s.2.2.2.2=1/\List.length s.1=0/\s.2.1=0/\q73 s/\(∀(p:Pub),True/\GJ.ok g p->GJ.ok s.2.2.1 p)/\∀(b:TmB),q12 s b->(∃(p:Pub),(True/\GJ.ok g p)/\∀(a:AT),a∈b.1->AT.ok a p)->zbt0 b g s):=by kernel_rfl
def fromM_eq(g:GJ):=Eq.trans (qsj g) (by delta zbt1 zbt2 zbt0;exact rfl)
theorem qxg:q0d P 23 qp7:=by
 refine q0v mixed (q05 q06) (q0g (q04 qsh q0q)) (W:=wFromM) Try.func23 (by kernel_rfl) (show 1<=1 by decide) (show 1<=1 by decide) (λs=>by kernel_rfl) λg=>(fromM_eq g).mpr ?_
 rintro hg ⟨p,_,hp⟩
 simp only[decide_eq_true_eq,decide_eq_false_iff_not,Bool.not_eq_true',Bool.not_eq_false',true_and,and_true,eq_self,imp_self,implies_true,exists_const,forall_const,Int.toNat_natCast]
 refine⟨⟨[],0,g,mkS [],1⟩,rfl,rfl,rfl,rfl,rfl,rfl,rfl,rfl,rfl,rfl,rfl,rfl,rfl,⟨Nat.zero_le _,hg,by decide,by decide,by show((0:Nat):Int)<=_;decide⟩,λq hq=>hq,?_⟩
 rintro⟨T,e,r⟩ ⟨⟨hT,hT2⟩,hr⟩ _
 simp only at hT hT2 hr⊢
 rw[List.nil_append]at hT hT2 hr
 refine⟨λhne=>⟨⟨[],(none,0,0),e⟩,rfl,rfl,rfl,rfl,⟨⟨Nat.zero_le _,λa ha=>(by cases ha)⟩,λh=>absurd h hne⟩,λq hq=>⟨q0c,λa ha=>(by cases ha)⟩⟩,λhe=> ?_⟩
 intro a c _
 obtain⟨_,hg2⟩:=hT2 he
 refine⟨⟨T,(a,T.length,c),0⟩,rfl,rfl,rfl,rfl,⟨⟨hT,hg2⟩,λ_ h=> ?_⟩,λq hq=>⟨⟨rfl,hq.2.1,?_⟩,hq.1.2⟩⟩
 ·have h:T=[]:=h
  subst h;have:=hr he;simp at this;omega
 ·have:=hq.2.2
  rw[List.nil_append,List.take_of_length_le (by rw[q03 q3g];exact Nat.le_refl _)]at this
  exact this
def ctN(σ:Type) (args:σ->List AV) (pre:σ->Prop) (mem:σ->PF) (β:Type) (post:σ->β->Prop) (pm:σ->β->PF) (r:σ->β->AV):CtR where
 σ:=σ
 args:=args
 h:=λ_=>[]
 m:=1
 pre:=pre
 mem:=mem
 β:=λ_=>β
 post:=post
 pm:=pm
 r:=r
 h':=λ_ _=>[]
 m':=1
def qeg(n:Int):Prop:=0<=n/\n<18446744073709551616
def qpw:CtR:=ctN (Int×Int×Int) (λ⟨v,f,b⟩=>[.sv (.int .u64 v), .sv (.int .i64 f), .sv (.int .i64 b)]) (λ⟨v,f,b⟩=>qeg v/\1<=f/\f<=62/\0<=b/\b<=2000) (λ_=>{}) Int (λ_ r=>qeg r) (λ_ _=>{}) λ_ r=> .sv (.int .u64 r)
def wNear:qpw.σ->WayF:=λ⟨v,f,b⟩=>{
 ann:=λ_ _ _=>some {σ:=Nat,pre:=λe=>e<=63,t:=λe=>[(7, .sv (.int .i64 (e:Int)))],h:=λ_=>[],more:=0,μ:=λe=>e,keep:=[0,1,2,6]}
 cut:=λi _ _=>match i with
  |7=>some {σ:=Nat,pre:=λe=>e<=63,t:=λe=>[(7, .sv (.int .i64 (e:Int)))],h:=λ_=>[],more:=0,μ:=λ_=>0,keep:=[0,1,2,6,8]}
  |15=>some {σ:=Int×Int,t:=λ⟨e,m⟩=>[(7, .sv (.int .i64 e)),(8, .sv (.int .u64 m))],pre:=λ⟨e,m⟩=>0<=e/\e<=63,h:=λ_=>[],more:=0,μ:=λ_=>0,keep:=[1,2,6]}
  |_=>none}
def i64P(n:Int):Prop:= -9223372036854775808<=n/\n<9223372036854775808
def qqh:CtR:=ctN Int (λv=>[.sv (.int .i64 v)]) i64P (λ_=>{}) Int (λ_ r=>0<=r/\r<4294967296) (λ_ _=>{}) λ_ r=> .sv (.int .u32 r)
def qie:CtR:=ctN Int (λv=>[.sv (.int .i64 v)]) i64P (λ_=>{}) Int (λ_ r=>qeg r) (λ_ _=>{}) λ_ r=> .sv (.int .u64 r)
def cRaw:CtR:=ctN ByteArray (λs=>[.sv (.string s)]) (λs=>s.size<1000000) (λ_=>{}) (ByteArray×Bool) (λs ⟨r,b⟩=>r.size<=s.size) (λ_ _=>{}) λ_ ⟨r,b⟩=> .tup [.sv (.string r), .sv (.bool b)]
def wRaw:cRaw.σ->WayF:=λs=>{
 ann:=λ_ _ _=>some {σ:=ByteArray×ByteArray,pre:=λ⟨q,u⟩=>q.size+u.size<=s.size,t:=λ⟨q,u⟩=>[(4, .sv (.string q)),(0, .sv (.string u))],h:=λ_=>[],more:=0,μ:=λ⟨q,u⟩=>u.size,keep:=[]}}
def kIx(k:ByteArray):List ByteArray->Nat
 | []=>0
 |a::l=>if q2y a k=true then kIx k l+1 else 0
def q3q(k:ByteArray) (ks:List ByteArray):Bool:=decide (ks[kIx k ks]? =some k)
def qgb(k:ByteArray) (ks:List ByteArray) (l:List PV) (w:PV):List PV:=if q3q k ks=true then l.set (kIx k ks) w else l.take (kIx k ks)++w::l.drop (kIx k ks)
def q4r(k:ByteArray) (ks:List ByteArray):List ByteArray:=if q3q k ks=true then ks else ks.take (kIx k ks)++k::ks.drop (kIx k ks)
def cPut:CtR:=ctN (GV×ByteArray×GV) (λ⟨v,k,w⟩=>[v.av, .sv (.string k),w.av]) (λ⟨v,k,w⟩=>v.ks.length=v.l.length/\v.l.length<1000000) (λ⟨v,k,w⟩=>⟨true,λp=>v.ok p/\w.ok p,λ_ _ h e=>⟨GV.ok_mono h e.1,GV.ok_mono h e.2⟩⟩) GV (λ⟨v,k,w⟩ u=>u.pv= .mk v.n v.s (qgb k v.ks (GV.pvs v.l) w.pv) (q4r k v.ks) v.b) (λ_ u=>vM u) λ_ u=>u.av
def wPut:cPut.σ->WayF:=λ⟨v,k,w⟩=>{
 ann:=λ_ _ _=>some {σ:=Nat,pre:=λj=>j<=v.ks.length/\j+kIx k (v.ks.drop j)=kIx k v.ks,t:=λj=>[(7, .sv (.int .i64 (j:Int)))],h:=λ_=>[],more:=0,μ:=λj=>v.ks.length- j,keep:=[1,3,5,6]}
 cut:=λi _ _=>match i with
  |4=>some {σ:=Nat,pre:=λj=>j=kIx k v.ks/\j<=v.ks.length,t:=λj=>[(7, .sv (.int .i64 (j:Int)))],h:=λ_=>[],more:=0,μ:=λ_=>0,keep:=[1,3,5,6]}
  |8=>some {σ:=Unit,pre:=λj=>q3q k v.ks=false,t:=λj=>[],h:=λ_=>[],more:=0,μ:=λ_=>0,keep:=[1,3,5,6,7]}
  |_=>none
 pub:=λi k=>match i,k with
  |7,1=>[48]
  |10,1=>[79]
  |_,_=>[]}
noncomputable section
variable (x0:Int) (x1:Int) (x2:Int) (x3:Nat) (x4:Int×Int)
 abbrev zbu11:=((-9223372036854775808:Int)<=(↑x3:Int)- 1/\(↑x3:Int)- 1<=9223372036854775807)/\∃(i0:Nat),x0=x0/\x1=x1/\(↑i0:Int)=(↑x3:Int)- 1/\x2=x2/\i0<=63/\i0<x3/\True
 abbrev qrx:=0<=x4.1/\x4.1<=63
 abbrev zbu9:=((-9223372036854775808:Int)<=x0- (↑x3:Int)/\x0- (↑x3:Int)<=9223372036854775807)/\0<=x0- (↑x3:Int)/\∃(i0:Int×Int),x0=x0/\i0.1=(↑x3:Int)/\x1=x1/\i0.2=shP BinOp.shl IntKind.u64 x2 (x0- (↑x3:Int))/\(qrx i0)/\True
 abbrev qrm:=shP BinOp.shl IntKind.u64 1 ((↑x3:Int)- x0)
 abbrev zbu12:=∃(i0:Int×Int),x0=x0/\i0.1=(↑x3:Int)/\x1=x1/\i0.2=IntKind.wrap IntKind.u64 (shP BinOp.shr IntKind.u64 x2 ((↑x3:Int)- x0)+1)/\(qrx i0)/\True
 abbrev zbu14:=∃(i0:Int×Int),x0=x0/\i0.1=(↑x3:Int)/\x1=x1/\i0.2=shP BinOp.shr IntKind.u64 x2 ((↑x3:Int)- x0)/\(qrx i0)/\True
 abbrev zbu7:=(2:Int)≠0/\(decide (Int.tmod (shP BinOp.shr IntKind.u64 x0 ((↑x3:Int)- x1)) (2:Int)=1)=true->zbu12 x1 x2 x0 x3)/\(decide (Int.tmod (shP BinOp.shr IntKind.u64 x0 ((↑x3:Int)- x1)) (2:Int)=1)=false->zbu14 x1 x2 x0 x3)
 abbrev zbu6:=(decide (Int.tmod x0 (qrm x1 x3)=shP BinOp.shl IntKind.u64 1 ((↑x3:Int)- x1- 1))=true->zbu7 x0 x1 x2 x3)/\(decide (Int.tmod x0 (qrm x1 x3)=shP BinOp.shl IntKind.u64 1 ((↑x3:Int)- x1- 1))=false->zbu14 x1 x2 x0 x3)
 abbrev zbu5:=((-9223372036854775808:Int)<=(↑x3:Int)- x0/\(↑x3:Int)- x0<=9223372036854775807)/\((-9223372036854775808:Int)<=(↑x3:Int)- x0- 1/\(↑x3:Int)- x0- 1<=9223372036854775807)/\0<=(↑x3:Int)- x0- 1/\0<=(↑x3:Int)- x0/\shP BinOp.shl IntKind.u64 1 ((↑x3:Int)- x0)≠0/\0<=(↑x3:Int)- x0/\(decide (shP BinOp.shl IntKind.u64 1 ((↑x3:Int)- x0- 1)<Int.tmod x1 (qrm x0 x3))=true->zbu12 x0 x2 x1 x3)/\(decide (shP BinOp.shl IntKind.u64 1 ((↑x3:Int)- x0- 1)<Int.tmod x1 (qrm x0 x3))=false->zbu6 x1 x0 x2 x3)
 abbrev zbu8:=((-9223372036854775808:Int)<=x4.1+x0/\x4.1+x0<=9223372036854775807)/\0<=x1/\0<=x1/\∃(i0:Int),i0=IntKind.wrap IntKind.u64 (shP BinOp.shl IntKind.u64 (IntKind.wrap IntKind.u64 (x4.1+x0)) x1+IntKind.wrap IntKind.u64 (x4.2- shP BinOp.shl IntKind.u64 1 x1))/\qeg i0/\True
 abbrev zbu4:=((decide ((↑x3:Int)<=x0)=true->zbu9 x0 x1 x2 x3)/\(decide ((↑x3:Int)<=x0)=false->zbu5 x0 x2 x1 x3))/\∀(i5:Int×Int),qrx i5->zbu8 x1 x0 i5
 abbrev zbu3:=(∃(i0:Nat),x0=x0/\x1=x1/\(↑i0:Int)=(↑x3:Int)/\x2=x2/\i0<=63/\True)/\∀(i1:Nat),i1<=63->zbu4 x1 x2 x0 i1
 abbrev zbu2:=0<=(↑x3:Int)/\(decide (shP BinOp.shr IntKind.u64 x0 (↑x3:Int)=0)=true->zbu11 x0 x1 x2 x3)/\(decide (shP BinOp.shr IntKind.u64 x0 (↑x3:Int)=0)=false->zbu3 x0 x1 x2 x3)
 abbrev zbu1:=(∃(i0:Nat),x0=x0/\x1=x1/\(↑i0:Int)=63/\x2=x2/\i0<=63/\True)/\∀(i1:Nat),i1<=63->zbu2 x0 x1 x2 i1
 abbrev zbu0:=(decide (x0=0)=true->∃(i0:Int),i0=0/\qeg i0/\True)/\(decide (x0=0)=false->zbu1 x0 x1 x2)
end
theorem qy9(v f b:Int):q68 P (q0r []) (q1s []) Try.f142 qpw (wNear) ⟨v,f,b⟩=(qeg v/\1<=f/\f<=62/\0<=b/\b<=2000->zbu0 v f b):=by kernel_rfl
def near_eq(v f b:Int):=Eq.trans (qy9 v f b) (by delta zbu11 qrx zbu9 qrm zbu12 zbu14 zbu7 zbu6 zbu5 zbu8 zbu4 zbu3 zbu2 zbu1 zbu0;exact rfl)
noncomputable section
variable (x0:Int) (x1:Int×Int×Int) (x2:Prop)
 abbrev zbv2:=x1.2.1=23/\x1.2.2=127/\(qeg x1.1/\1<=x1.2.1/\x1.2.1<=62/\0<=x1.2.2/\x1.2.2<=2000)/\x2
 abbrev zbv1:=((-9223372036854775808:Int)<=x0+1/\x0+1<=9223372036854775807)/\((-9223372036854775808:Int)<=0- (x0+1)/\(0:Int)- (x0+1)<=9223372036854775807)/\∃(i0:Int×Int×Int),i0.1=IntKind.wrap IntKind.u64 (IntKind.wrap IntKind.u64 ((0:Int)- (x0+1))+1)/\zbv2 i0 (∀(i1:Int),qeg i1->∃(i2:Int),i2=q4i BinOp.or IntKind.u32 2147483648 (IntKind.wrap IntKind.u32 i1)/\(0<=i2/\i2<4294967296)/\True)
 abbrev zbv0:=(decide (x0<0)=true->zbv1 x0)/\(decide (x0<0)=false->∃(i3:Int×Int×Int),i3.1=IntKind.wrap IntKind.u64 x0/\zbv2 i3 (∀(i4:Int),qeg i4->∃(i5:Int),i5=IntKind.wrap IntKind.u32 i4/\(0<=i5/\i5<4294967296)/\True))
end
theorem qt0(v:Int):q68 P (q0r []) (q1s [(142,qpw)]) Try.f117 qqh (λ_=>{}) v=(i64P v->zbv0 v):=by kernel_rfl
def float_eq(v:Int):=Eq.trans (qt0 v) (by delta zbv2 zbv1 zbv0;exact rfl)
noncomputable section
variable (x0:Int) (x1:Int×Int×Int) (x2:Prop)
 abbrev zbw2:=x1.2.1=52/\x1.2.2=1023/\(qeg x1.1/\1<=x1.2.1/\x1.2.1<=62/\0<=x1.2.2/\x1.2.2<=2000)/\x2
 abbrev zbw1:=((-9223372036854775808:Int)<=x0+1/\x0+1<=9223372036854775807)/\((-9223372036854775808:Int)<=0- (x0+1)/\(0:Int)- (x0+1)<=9223372036854775807)/\∃(i0:Int×Int×Int),i0.1=IntKind.wrap IntKind.u64 (IntKind.wrap IntKind.u64 ((0:Int)- (x0+1))+1)/\zbw2 i0 (∀(i1:Int),qeg i1->∃(i2:Int),i2=q4i BinOp.or IntKind.u64 9223372036854775808 i1/\qeg i2/\True)
 abbrev zbw0:=(decide (x0<0)=true->zbw1 x0)/\(decide (x0<0)=false->∃(i3:Int×Int×Int),i3.1=IntKind.wrap IntKind.u64 x0/\zbw2 i3 (∀(i4:Int),qeg i4->∃(i5:Int),i5=i4/\qeg i5/\True))
end
theorem qn4(v:Int):q68 P (q0r []) (q1s [(142,qpw)]) Try.f118 qie (λ_=>{}) v=(i64P v->zbw0 v):=by kernel_rfl
def qu1(v:Int):=Eq.trans (qn4 v) (by delta zbw2 zbw1 zbw0;exact rfl)
theorem qq5(s:ByteArray):q2h P (q0r [(53,q7z)]) Try.f143 q7z (λ_=>{}) s=(ByteArray.size s<(9223372036854775808:Nat)->s=s/\ByteArray.size s<(9223372036854775808:Nat)/\(↑(ptV s):Int)=(↑(ptV s):Int)/\(↑(frt s):Int)=(↑(frt s):Int)/\True):=by kernel_rfl
noncomputable section
variable (x0:ByteArray) (x1:ByteArray×ByteArray)
 abbrev zbx4:=∃(i0:ByteArray×Bool),i0.1=mkS []/\i0.2=false/\ByteArray.size i0.1<=ByteArray.size x0/\True
 abbrev zbx3:=(decide (255<(↑(ptV x1.2):Int))=true->zbx4 x0)/\(decide (255<(↑(ptV x1.2):Int))=false->∃(i1:ByteArray),ByteArray.size i1=1/\qod [Value.int IntKind.u8 (IntKind.wrap IntKind.u8 (↑(ptV x1.2):Int))] 0 (q1f i1)/\ByteArray.size x1.1+ByteArray.size i1<=9223372036854775807/\(0<=(↑(frt x1.2):Int)/\(↑(frt x1.2):Int)<=(↑(ByteArray.size x1.2):Int))/\∃(i2:ByteArray×ByteArray),i2.2=ByteArray.extract x1.2 (Int.toNat (↑(frt x1.2):Int)) (ByteArray.size x1.2)/\i2.1=x1.1++i1/\ByteArray.size i2.1+ByteArray.size i2.2<=ByteArray.size x0/\ByteArray.size i2.2<ByteArray.size x1.2/\True)
 abbrev zbx2:=x1.2=x1.2/\ByteArray.size x1.2<9223372036854775808/\(decide ((↑(frt x1.2):Int)=0)=true->zbx4 x0)/\(decide ((↑(frt x1.2):Int)=0)=false->zbx3 x0 x1)
 abbrev zbx1:=(decide (0<(↑(ByteArray.size x1.2):Int))=true->zbx2 x0 x1)/\(decide (0<(↑(ByteArray.size x1.2):Int))=false->∃(i4:ByteArray×Bool),i4.1=x1.1/\i4.2=true/\ByteArray.size i4.1<=ByteArray.size x0/\True)
 abbrev zbx0:=(∃(i0:ByteArray×ByteArray),i0.2=x0/\i0.1=mkS []/\ByteArray.size i0.1+ByteArray.size i0.2<=ByteArray.size x0/\True)/\∀(i1:ByteArray×ByteArray),ByteArray.size i1.1+ByteArray.size i1.2<=ByteArray.size x0->zbx1 x0 i1
end
theorem raw_eqz(s:ByteArray):q68 P (q0r [(143,q7z)]) (q1s []) Try.f119 cRaw (wRaw) s=(ByteArray.size s<1000000->zbx0 s):=by kernel_rfl
def raw_eq(s:ByteArray):=Eq.trans (raw_eqz s) (by delta zbx4 zbx3 zbx2 zbx1 zbx0;exact rfl)
noncomputable section
variable (x0:ByteArray) (x1:GV) (x2:GV) (x3:Nat) (x4:Prop) (x5:Nat->Option Obj) (x6:Nat) (x7:Option Addr) (x8:List Value) (x9:List Value) (x10:GV)
 abbrev q8e:=True/\GV.ok x1 x5/\GV.ok x2 x5
 abbrev zby11:=GV.n x1=GV.n x1/\GV.s x1=GV.s x1/\(GV.x x1).1=(GV.x x1).1/\(GV.x x1).2.1=(GV.x x1).2.1/\(GV.x x1).2.2=(GV.x x1).2.2/\(GV.y x1).1=(GV.y x1).1/\(GV.y x1).2.1=(GV.y x1).2.1/\(GV.y x1).2.2=(GV.y x1).2.2/\GV.b x1=GV.b x1/\x4
 abbrev zby3:=zby11 x1 (zby11 x2 ((∀(i0:Pub),q8e x1 x2 i0->q8e x1 x2 i0)/\x4))
 abbrev qyc:=x3<=List.length (GV.ks x1)/\x3+kIx x0 (List.drop x3 (GV.ks x1))=kIx x0 (GV.ks x1)
 abbrev qel:=(GV.y x1).2.1
 abbrev qh1:=(↑x3:Int)<(↑(qel x1):Int)
 abbrev zby20:=(∀(i0:Pub),q8e x1 x2 i0->q02 i0 (adr (GV.y x1).1 (Int.toNat (↑x3:Int)*1)) [Value.string x0])
 abbrev zby12:=((-9223372036854775808:Int)<=(↑x3:Int)+1/\(↑x3:Int)+1<=9223372036854775807)/\∃(i0:Nat),x0=x0/\(↑i0:Int)=(↑x3:Int)+1/\zby3 x1 x2 ((qyc x0 x1 i0)/\List.length (GV.ks x1)- i0<List.length (GV.ks x1)- x3/\True)
 abbrev zby23:=∃(i0:Nat),x0=x0/\(↑i0:Int)=(↑x3:Int)/\zby3 x1 x2 ((i0=kIx x0 (GV.ks x1)/\i0<=List.length (GV.ks x1))/\True)
 abbrev zby7:=(0<=(↑x3:Int)/\qh1 x1 x3)/\(GV.y x1).1≠noA/\∃(i0:ByteArray),zby20 i0 x1 x2 x3/\(q2y i0 x0=true->zby12 x0 x1 x2 x3)/\(q2y i0 x0=false->zby23 x0 x1 x2 x3)
 abbrev zby5:=(decide (qh1 x1 x3)=true->zby7 x0 x1 x2 x3)/\(decide (qh1 x1 x3)=false->zby23 x0 x1 x2 x3)
 abbrev qhp:=(GV.x x1).2.1
 abbrev qdb:=(GV.x x1).2.2
 abbrev qe6:=(GV.y x1).2.2
 abbrev zby8:=(q8e x1 x2 x5)/\(0:Nat)+(GV.x x1).2.1<=x3/\q1l x5 x7 (List.take (((0:Nat)+(GV.x x1).2.1)*nat_lit 5) (spl ([]++x8) ((0:Nat)+Int.toNat (↑x6:Int)*5) [Value.int IntKind.u64 (GV.n x2),Value.string (GV.s x2),Value.slice (GV.x x2).1 (qhp x2) (qdb x2),Value.slice (GV.y x2).1 (qel x2) (qe6 x2),Value.int IntKind.i64 (GV.b x2)]))
 abbrev zby19:=GV.b x1=GV.b x2/\GV.pv x1=PV.mk (GV.n x2) (GV.s x2) (qgb x0 (GV.ks x2) (GV.pvs (GV.l x2)) (GV.pv x10)) (q4r x0 (GV.ks x2)) (GV.b x2)/\x4
 abbrev zby4:=(0<=(↑x3:Int)/\qh1 x1 x3)/\(GV.y x1).1≠noA/\∃(i0:ByteArray),zby20 i0 x1 x2 x3/\(decide (i0=x0)=true->∃(i2:List Value),List.length i2=(GV.x x1).2.1*5/\(∀(i3:Pub),q8e x1 x2 i3->q1l i3 (GV.x x1).1 i2)/\quv i2/\((0:Nat)+(GV.x x1).2.1)*80<=140737488355328/\(0<=(↑x3:Int)/\(↑x3:Int)<(↑((0:Nat)+(GV.x x1).2.1):Int))/\(0:Nat)+Int.toNat (↑x3:Int)*5+List.length [Value.int IntKind.u64 (GV.n x2),Value.string (GV.s x2),Value.slice (GV.x x2).1 (qhp x2) (qdb x2),Value.slice (GV.y x2).1 (qel x2) (qe6 x2),Value.int IntKind.i64 (GV.b x2)]<=List.length ([]++i2)/\∀(i4 i5 i6:Nat) (i7:Option Addr) (i8 i9:Nat),(∃(i10:Pub),zby8 x1 x2 i9 i10 x3 i7 i2)->∃(i11:GV),GV.n i11=GV.n x1/\GV.s i11=GV.s x1/\(GV.x i11).1=i7/\(GV.x i11).2.1=0+(GV.x x1).2.1/\(GV.x i11).2.2=i9/\(GV.y i11).1=(GV.y x1).1/\(GV.y i11).2.1=(GV.y x1).2.1/\(GV.y i11).2.2=(GV.y x1).2.2/\zby19 x0 i11 x1 ((∀(i12:Pub),zby8 x1 x2 i9 i12 x3 i7 i2->GV.ok i11 i12)/\True) x2)/\(decide (i0=x0)=false->∃(i13:Unit),x0=x0/\(↑x3:Int)=(↑x3:Int)/\zby3 x1 x2 (q3q x0 (GV.ks x1)=false/\True))
 abbrev qqv:=nat_lit 0+(x3- nat_lit 0)+nat_lit 1
 abbrev zby9:=Value.slice (GV.y x1).1 (qel x1) (qe6 x1)
 abbrev qiq:=Value.slice (GV.x x1).1 (qhp x1) (qdb x1)
 abbrev zby6:=(q8e x1 x2 x5)/\nat_lit 0+(x3- nat_lit 0)+nat_lit 1+((GV.x x1).2.1- x3)<=x6/\q1l x5 x7 (List.take ((nat_lit 0+(x3- nat_lit 0)+nat_lit 1+((GV.x x1).2.1- x3))*nat_lit 5) ([]++x8++[Value.int IntKind.u64 (GV.n x2),Value.string (GV.s x2),Value.slice (GV.x x2).1 (qhp x2) (qdb x2),Value.slice (GV.y x2).1 (qel x2) (qe6 x2),Value.int IntKind.i64 (GV.b x2)]++x9))
 abbrev zby14:=nat_lit 0+(x3- nat_lit 0)+nat_lit 1+((GV.y x1).2.1- x3)<=x6/\q1l x5 x7 (List.take ((nat_lit 0+(x3- nat_lit 0)+nat_lit 1+((GV.y x1).2.1- x3))*nat_lit 1) ([]++x8++[Value.string x0]++x9))
 abbrev zby2:=(GV.y x1).2.1<=(GV.y x1).2.2/\(0<=(↑x3:Int)/\(↑x3:Int)<=(↑(qe6 x1):Int))/\∃(i0:List Value),List.length i0=(x3- nat_lit 0)*1/\(∀(i1:Pub),q8e x1 x2 i1->q1l i1 (slA (GV.y x1).1 (qe6 x1) (nat_lit 0) 1) i0)/\quv i0/\(nat_lit 0+(x3- nat_lit 0))*16<=140737488355328/\List.length ([]++i0)=(nat_lit 0+(x3- nat_lit 0))*1/\(qqv x3)*16<=140737488355328/\(GV.y x1).2.1<=(GV.y x1).2.2/\(0<=(↑x3:Int)/\(↑x3:Int)<=(↑(qel x1):Int))/\List.length ([]++i0++[Value.string x0])=(qqv x3)*1/\∃(i2:List Value),List.length i2=((GV.y x1).2.1- x3)*1/\(∀(i3:Pub),q8e x1 x2 i3->q1l i3 (slA (GV.y x1).1 (qe6 x1) x3 1) i2)/\quv i2/\(nat_lit 0+(x3- nat_lit 0)+nat_lit 1+((GV.y x1).2.1- x3))*16<=140737488355328/\AV.sv (zby9 x1)=AV.sv (zby9 x1)/\AV.sv (zby9 x1)=AV.sv (zby9 x1)/\(GV.x x1).2.1<=(GV.x x1).2.2/\(0<=(↑x3:Int)/\(↑x3:Int)<=(↑(qdb x1):Int))/\∃(i4:List Value),List.length i4=(x3- nat_lit 0)*5/\(∀(i5:Pub),q8e x1 x2 i5->q1l i5 (slA (GV.x x1).1 (qdb x1) (nat_lit 0) 5) i4)/\quv i4/\(nat_lit 0+(x3- nat_lit 0))*80<=140737488355328/\List.length ([]++i4)=(nat_lit 0+(x3- nat_lit 0))*5/\(qqv x3)*80<=140737488355328/\(GV.x x1).2.1<=(GV.x x1).2.2/\(0<=(↑x3:Int)/\(↑x3:Int)<=(↑(qhp x1):Int))/\List.length ([]++i4++[Value.int IntKind.u64 (GV.n x2),Value.string (GV.s x2),Value.slice (GV.x x2).1 (qhp x2) (qdb x2),Value.slice (GV.y x2).1 (qel x2) (qe6 x2),Value.int IntKind.i64 (GV.b x2)])=(qqv x3)*5/\∃(i6:List Value),List.length i6=((GV.x x1).2.1- x3)*5/\(∀(i7:Pub),q8e x1 x2 i7->q1l i7 (slA (GV.x x1).1 (qdb x1) x3 5) i6)/\quv i6/\(nat_lit 0+(x3- nat_lit 0)+nat_lit 1+((GV.x x1).2.1- x3))*80<=140737488355328/\AV.agg [AV.sv (Value.int IntKind.u64 (GV.n x2)),AV.sv (Value.string (GV.s x2)),AV.sv (qiq x2),AV.sv (zby9 x2),AV.sv (Value.int IntKind.i64 (GV.b x2))]=AV.agg [AV.sv (Value.int IntKind.u64 (GV.n x2)),AV.sv (Value.string (GV.s x2)),AV.sv (qiq x2),AV.sv (zby9 x2),AV.sv (Value.int IntKind.i64 (GV.b x2))]/\AV.sv (qiq x1)=AV.sv (qiq x1)/\AV.sv (qiq x1)=AV.sv (qiq x1)/\∀(i8 i9 i10:Nat) (i11:Option Addr) (i12 i13:Nat),(∃(i14:Pub),zby6 x1 x2 x3 i14 i13 i11 i4 i6)->∀(i15 i16 i17:Nat) (i18:Option Addr) (i19 i20:Nat),(∃(i21:Pub),(zby6 x1 x2 x3 i21 i13 i11 i4 i6)/\zby14 x0 x1 x3 i21 i20 i18 i0 i2)->∃(i22:GV),GV.n i22=GV.n x1/\GV.s i22=GV.s x1/\(GV.x i22).1=i11/\(GV.x i22).2.1=nat_lit 0+(x3- nat_lit 0)+nat_lit 1+((GV.x x1).2.1- x3)/\(GV.x i22).2.2=i13/\(GV.y i22).1=i18/\(GV.y i22).2.1=nat_lit 0+(x3- nat_lit 0)+nat_lit 1+((GV.y x1).2.1- x3)/\(GV.y i22).2.2=i20/\zby19 x0 i22 x1 ((∀(i23:Pub),(zby6 x1 x2 x3 i23 i13 i11 i4 i6)/\zby14 x0 x1 x3 i23 i20 i18 i0 i2->GV.ok i22 i23)/\True) x2
 abbrev zby1:=((decide (qh1 x1 x3)=true->zby4 x0 x1 x2 x3)/\(decide (qh1 x1 x3)=false->∃(i15:Unit),x0=x0/\(↑x3:Int)=(↑x3:Int)/\zby3 x1 x2 (q3q x0 (GV.ks x1)=false/\True)))/\∀(i17:Unit),q3q x0 (GV.ks x1)=false->zby2 x0 x1 x2 x3
 abbrev zby0:=((∃(i0:Nat),x0=x0/\(↑i0:Int)=0/\zby3 x1 x2 ((qyc x0 x1 i0)/\True))/\∀(i2:Nat),qyc x0 x1 i2->zby5 x0 x1 x2 i2)/\∀(i11:Nat),i11=kIx x0 (GV.ks x1)/\i11<=List.length (GV.ks x1)->zby1 x0 x1 x2 i11
end
theorem put_eqz(v:GV) (k:ByteArray) (w:GV):q68 P (q0r []) (q1s []) Try.f38 cPut (wPut) ⟨v,k,w⟩=(List.length (GV.ks v)=List.length (GV.l v)/\List.length (GV.l v)<1000000->(∃(p:Pub),q8e v w p)->zby0 k v w):=by kernel_rfl
def put_eq(v:GV) (k:ByteArray) (w:GV):=Eq.trans (put_eqz v k w) (by delta q8e zby11 zby3 qyc qel qh1 zby20 zby12 zby23 zby7 zby5 qhp qdb qe6 zby8 zby19 zby4 qqv zby9 qiq zby6 zby14 zby2 zby1 zby0;exact rfl)
theorem wrapU(x:Int):IntKind.u64.wrap x=x % 18446744073709551616:=by
 unfold IntKind.wrap;simp[IntKind.bits,IntKind.signed]
theorem qul(x:Int):IntKind.u32.wrap x=x % 4294967296:=by
 unfold IntKind.wrap;simp[IntKind.bits,IntKind.signed]
theorem q59(x:Int):qeg (IntKind.u64.wrap x):=by
 rw[wrapU];unfold qeg;omega
theorem shl1_ne:∀k:Nat,k<64->shP .shl .u64 1 (k:Int)≠0:=by decide+kernel
theorem shr0(v:Int):shP .shr .u64 v 0=v:=by
 show v.fdiv (2 ^ min (0:Int).toNat IntKind.u64.bits)=v
 rw[show min (0:Int).toNat IntKind.u64.bits=0 from rfl]
 show v.fdiv 1=v
 exact Int.fdiv_one v
theorem bc_1(c:Nat) (h:c<256):q1f (mkS [c])=[.int .u8 (c:Nat)]:=by
 simp[q1f,mkS]
 omega
theorem q9e:q0d P 142 qpw:=by
 refine q0v mixed (q05 q06) (q0g q0q) (W:=wNear) Try.func142 (by kernel_rfl) (show 1<=1 by decide) (show 1<=1 by decide) (λs=>by kernel_rfl) λ⟨(v:Int),(f:Int),(b:Int)⟩=>(near_eq v f b).mpr ?_
 rintro⟨hv,hf1,hf2,hb1,hb2⟩
 simp only[decide_eq_true_eq,decide_eq_false_iff_not,Bool.not_eq_true',Bool.not_eq_false',true_and,and_true,eq_self,imp_self,implies_true,exists_const,forall_const,Int.toNat_natCast]
 have nz:∀e:Nat,¬v=0->shP .shr .u64 v (e:Int)=0->e≠0:=λe h0 hs h=>by
  subst h;rw[show((0:Nat):Int)=0 from rfl,shr0]at hs;exact h0 hs
 refine⟨λh0=>⟨0,rfl,by unfold qeg;omega⟩,λh0=>⟨⟨63,rfl,by omega⟩,λe he=>⟨by omega,λhs=> ?_,λhs=>⟨⟨e,rfl,he⟩,λk hk=> ?_⟩⟩⟩⟩
 ·have:=nz e h0 hs
  exact⟨⟨by omega,by omega⟩,e- 1,by omega,by omega,by omega⟩
 ·clear nz
  have hk0:(0:Int)<=k:=by omega
  refine⟨⟨λhle=>⟨⟨by omega,by omega⟩,by omega,⟨k,_⟩,rfl,rfl,hk0,by omega⟩,λhgt=>⟨⟨by omega,by omega⟩,⟨by omega,by omega⟩,by omega,by omega,?_,by omega,λ_=>⟨⟨k,_⟩,rfl,rfl,hk0,by omega⟩,λ_=>⟨λ_=>⟨by decide,λ_=>⟨⟨k,_⟩,rfl,rfl,hk0,by omega⟩,λ_=>⟨⟨k,_⟩,rfl,rfl,hk0,by omega⟩⟩,λ_=>⟨⟨k,_⟩,rfl,rfl,hk0,by omega⟩⟩⟩⟩,?_⟩
  ·obtain⟨m,hm⟩:=Int.eq_ofNat_of_zero_le (show 0<=(k:Int)- f by omega)
   rw[hm];exact shl1_ne m (by omega)
  ·rintro⟨a,m⟩ ⟨ha1,ha2⟩
   simp only at ha1 ha2⊢
   exact⟨⟨by omega,by omega⟩,by omega,by omega,_,rfl,q59 _⟩
theorem float_ok:q0d P 117 qqh:=by
 refine q0v mixed (q05 q06) (q0g (q04 q9e q0q)) (W:=λ_=>{}) Try.func117 (by kernel_rfl) (show 1<=1 by decide) (show 1<=1 by decide) (λs=>by kernel_rfl) λ(v:Int)=>(float_eq v).mpr ?_
 rintro⟨hv1,hv2⟩
 simp only[decide_eq_true_eq,decide_eq_false_iff_not,Bool.not_eq_true',Bool.not_eq_false',true_and,and_true,eq_self,imp_self,implies_true,exists_const,forall_const,Int.toNat_natCast]
 refine⟨λh=>⟨⟨by omega,by omega⟩,⟨by omega,by omega⟩,⟨_,23,127⟩,rfl,rfl,rfl,⟨q59 _,(by show(1:Int)<=23;decide),(by show(23:Int)<=62;decide),(by show(0:Int)<=127;decide),(by show(127:Int)<=2000;decide)⟩,λb hb=>⟨_,rfl,?_⟩⟩,λh=>⟨⟨_,23,127⟩,rfl,rfl,rfl,⟨q59 _,(by show(1:Int)<=23;decide),(by show(23:Int)<=62;decide),(by show(0:Int)<=127;decide),(by show(127:Int)<=2000;decide)⟩,λb hb=>⟨_,rfl,?_⟩⟩⟩
 ·show 0<=IntKind.u32.wrap _/\IntKind.u32.wrap _<4294967296
  rw[qul];omega
 ·rw[qul];omega
theorem qrv:q0d P 118 qie:=by
 refine q0v mixed (q05 q06) (q0g (q04 q9e q0q)) (W:=λ_=>{}) Try.func118 (by kernel_rfl) (show 1<=1 by decide) (show 1<=1 by decide) (λs=>by kernel_rfl) λ(v:Int)=>(qu1 v).mpr ?_
 rintro⟨hv1,hv2⟩
 simp only[decide_eq_true_eq,decide_eq_false_iff_not,Bool.not_eq_true',Bool.not_eq_false',true_and,and_true,eq_self,imp_self,implies_true,exists_const,forall_const,Int.toNat_natCast]
 refine⟨λh=>⟨⟨by omega,by omega⟩,⟨by omega,by omega⟩,⟨_,52,1023⟩,rfl,rfl,rfl,⟨q59 _,(by show(1:Int)<=52;decide),(by show(52:Int)<=62;decide),(by show(0:Int)<=1023;decide),(by show(1023:Int)<=2000;decide)⟩,λb hb=>⟨_,rfl,?_⟩⟩,λh=>⟨⟨_,52,1023⟩,rfl,rfl,rfl,⟨q59 _,(by show(1:Int)<=52;decide),(by show(52:Int)<=62;decide),(by show(0:Int)<=1023;decide),(by show(1023:Int)<=2000;decide)⟩,λb hb=>⟨b,rfl,hb⟩⟩⟩
 exact q59 _
theorem qvt:q15 P 143 q7z:=by
 refine q0h mixed (q05 (q01 qjm q06)) (W:=λ_=>{}) Try.func143 (by kernel_rfl) (by decide) (by decide) (λs=>by kernel_rfl) λ(s:ByteArray)=>(qq5 s).mpr ?_
 intro h
 exact⟨rfl,h,rfl,rfl,trivial⟩
theorem raw_ok:q0d P 119 cRaw:=by
 refine q0v mixed (q05 (q01 qvt q06)) (q0g q0q) (W:=wRaw) Try.func119 (by kernel_rfl) (show 1<=1 by decide) (show 1<=1 by decide) (λs=>by kernel_rfl) λ(s:ByteArray)=>(raw_eq s).mpr ?_
 intro hs
 simp only[decide_eq_true_eq,decide_eq_false_iff_not,Bool.not_eq_true',Bool.not_eq_false',true_and,and_true,eq_self,imp_self,implies_true,exists_const,forall_const,Int.toNat_natCast]
 refine⟨⟨⟨mkS [],s⟩,rfl,rfl,by show 0+s.size<=_;omega⟩,?_⟩
 rintro⟨q,u⟩ hq
 simp only at hq⊢
 refine⟨λh=>⟨by omega,λh0=>⟨⟨mkS [],false⟩,rfl,rfl,Nat.zero_le _⟩,λh0=>⟨λhp=>⟨⟨mkS [],false⟩,rfl,rfl,Nat.zero_le _⟩,λhp=> ?_⟩⟩,λh=>⟨⟨q,true⟩,rfl,rfl,by show q.size<=_;omega⟩⟩
 have hf:=qql u
 have hc:IntKind.u8.wrap (ptV u:Int)=((ptV u:Nat):Int):=by rw[qma];omega
 rw[hc]
 have hz:(mkS [ptV u]).size=1:=rfl
 refine⟨mkS [ptV u],rfl,?_,by omega,⟨by omega,by omega⟩,⟨q++mkS [ptV u],u.extract (frt u) u.size⟩,rfl,rfl,?_,?_⟩
 ·intro j w hj
  rw[bc_1 _ (by omega)]at hj;rw[Nat.zero_add];exact hj
 ·show(q++mkS [ptV u]).size+(u.extract (frt u) u.size).size<=s.size
  rw[ByteArray.size_append,ByteArray.size_extract,hz];omega
 ·show(u.extract (frt u) u.size).size<u.size
  rw[ByteArray.size_extract];omega
end
end Go.Proofs.Ytpanaicglidfjaa.Wd
