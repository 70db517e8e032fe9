/-
  What the functions do: contracts, and their questions answered. No condition but what its theorems ask.
-/
import Derived.Test.YtniogjgfomaicaaGreatT1
namespace Go.Proofs.YtniogjgfomaicaaGreat.Wd
open Go.Proofs.YtniogjgfomaicaaGreat.Eng Go.Proofs.YtniogjgfomaicaaGreat.Sen Go.RowKit
set_option linter.defProp false
set_option linter.unusedVariables false
set_option linter.unusedSimpArgs false
set_option maxRecDepth 1000000
open Go.Value (int string slice bool)
open Go.IntKind (i64 u64 u8 u32 i32)
open _root_.List (length take drop)
open _root_.ByteArray (size)
open _root_.Int (toNat)
noncomputable section
section
variable (x0:Int×ByteArray) (x1:List AT) (x2:List AT×Int×GJ×ByteArray×Bool) (x3:Int) (x4:GJ) (x5:ByteArray) (x6 x7:Int) (x8:Nat) (x9:Option Addr) (x10:Nat) (x11:List AT×Int×GJ×ByteArray) (x12:Nat) (x13:NlS) (x14:List AT) (x15:Int) (x16:List AT×Int×AT) (x17:Option Addr) (x18:GJ×ByteArray) (x19:Prop) (x20:Nat->Option Obj) (x21:FdS) (x22:FdB) (x23:TmB) (x24:AF) (x25:List AT×Int×GJ×Int) (x26:SyB)
 abbrev zrs:=GJ.k x18.1=GJ.k x4/\GJ.n x18.1=GJ.n x4/\GJ.s x18.1=GJ.s x4/\(GJ.y x18.1).1=(GJ.y x4).1/\(GJ.y x18.1).2.1=(GJ.y x4).2.1/\(GJ.y x18.1).2.2=(GJ.y x4).2.2/\(GJ.x x18.1).1=(GJ.x x4).1/\(GJ.x x18.1).2.1=(GJ.x x4).2.1/\(GJ.x x18.1).2.2=(GJ.x x4).2.2/\x19
 abbrev z3l:=Option.getD (z0b x18.2 x18.1) zJ
 def zfl:= !decide (GJ.k (z3l x18)=x3)
 abbrev z1d:=woR x2.2.2.1 x2.2.2.2.1 x2.2.2.2.2 x2.2.1
 def z62:=length x1=length x14
 def z70:=GJ.k x4=GJ.k x4/\GJ.n x4=GJ.n x4/\GJ.s x4=GJ.s x4/\(GJ.y x4).1=(GJ.y x4).1/\(GJ.y x4).2.1=(GJ.y x4).2.1/\(GJ.y x4).2.2=(GJ.y x4).2.2/\(GJ.x x4).1=(GJ.x x4).1/\(GJ.x x4).2.1=(GJ.x x4).2.1/\(GJ.x x4).2.2=(GJ.x x4).2.2/\x19
 def zk7:=(∀i0,True/\GJ.ok x4 i0->True/\GJ.ok x4 i0)
 def zru:=(z1d x2).1=(z1d x2).1/\x3=x3/\x6=x6/\length x1=length x2.1/\(z1d x2).2=(z1d x2).2/\z00 AT.cells x2.1=z00 AT.cells x2.1/\x19
 def j0g:=GJ.s (z3l x18)=GJ.s (z3l x18)/\zru x1 x2 x3 x6 (z70 x4 (zk7 x4/\(((z1d x2).2=0->x7=0)/\(↑(size (GJ.s (z3l x18))):Int)<=1100*x6)/\True))
 def j0c:=((zfl 4 x18)=true->∃(i0:List AT),(2:Int)=2/\length i0=length x2.1/\(z1d x2).2=(z1d x2).2/\z00 AT.cells i0=z00 AT.cells x2.1/\True/\GJ.s (z3l x18)=GJ.s (z3l x18)/\(z1d x2).1=(z1d x2).1/\x3=x3/\x6=x6/\z62 x1 i0/\faE (z1d x2).2 (2:Int)=faE (z1d x2).2 2/\z00 AT.cells x2.1=z00 AT.cells i0/\z70 x4 (zk7 x4/\((faE (z1d x2).2 (2:Int)=0->x7=0)/\(↑(size (GJ.s (z3l x18))):Int)<=1100*x6)/\True))/\((zfl 4 x18)=false->j0g x1 x2 x3 x4 x6 x7 x18)
 def j0h:=x5=x5/\zru x1 x2 x3 x6 (z70 x4 (zk7 x4/\(((z1d x2).2=0->x7=0)/\(↑(size x5):Int)<=1100*x6)/\True))
 def z71:=∀(i0:AT),i0∈x23.1->AT.ok i0 x20
 def z83:=z18 (z1d x2).1 x0.2=z18 (z1d x2).1 x0.2
 abbrev z2d:=z18 (z1d x2).1 x0.2
 def z82:=(True/\GJ.ok x4 x20)/\slP txV (x9,x8,x10) (z1u x11.2.2.1 x11.2.2.2 x11.2.1).1 x20
 def zbe:=z58 (z2d x0 x2) (size (z2d x0 x2))=z58 (z2d x0 x2) (size (z2d x0 x2))
 def zfk:=(∀i0,z82 x4 x8 x9 x10 x11 i0->z82 x4 x8 x9 x10 x11 i0)
 def zk6:=(↑x13.1:Int)<=1000/\length x13.2.2<=x13.1/\(x13.2.1=0->x3=0)
 def jcq:=(0<=(↑x13.1:Int)/\(↑x13.1:Int)<(↑x8:Int))/\x9≠noA/\∃i0,(∀i1,z82 x4 x8 x9 x10 x11 i1->q3p i1 (adr x9 (toNat (↑x13.1:Int)*1)) [string i0])/\∃(i2:List AT),i0=i0/\zbe x0 x2/\z62 i2 x1/\x13.2.1=x13.2.1/\z00 AT.cells i2=z00 AT.cells x11.1/\(size i0<10000/\size (z58 (z2d x0 x2) (size (z2d x0 x2)))<50000)/\length (z00 txV x13.2.2)=length x13.2.2*1/\(length x13.2.2+nat_lit 1)*16<=140737488355328/\AV.ssl (nat_lit 22) (nat_lit 0) (length x13.2.2) (nat_lit 1) (nat_lit 23)=AV.ssl (nat_lit 22) (nat_lit 0) (length x13.2.2) (nat_lit 1) (nat_lit 23)/\Jb ((↑x13.1:Int)+1)/\∃(i3:NlS),zbe x0 x2/\x9=x9/\x8=x8/\x10=x10/\(↑i3.1:Int)=(↑x13.1:Int)+1/\x3=x3/\x6=x6/\z62 x1 i2/\i3.2.1=whE i0 (z58 (z2d x0 x2) (size (z2d x0 x2))) x13.2.1/\x3=x3/\z83 x0 x2/\length i3.2.2=length x13.2.2+nat_lit 1/\z00 AT.cells x11.1=z00 AT.cells i2/\z70 x4 (z00 txV i3.2.2=z00 txV x13.2.2++[string (z18 i0 (z58 (z2d x0 x2) (size (z2d x0 x2))))]/\zfk x4 x8 x9 x10 x11/\(zk6 x7 i3)/\(1000:Nat)- i3.1<1000- x13.1/\True)
 def j6d:=zbe x0 x2/\x3=x3/\x6=x6/\z62 x1 x14/\x13.2.1=x13.2.1/\x3=x3/\z83 x0 x2/\length x13.2.2=length x13.2.2/\z00 AT.cells x14=z00 AT.cells x14/\z70 x4 (z00 txV x13.2.2=z00 txV x13.2.2/\zfk x4 x8 x9 x10 x11/\(x13.2.1=0->x7=0)/\True)
 def jcm:=(Option.isSome (findF (z2d x0 x2) x1 0)=true->∃(i0:List AT),(5:Int)=5/\z62 i0 x1/\x13.2.1=x13.2.1/\z00 AT.cells i0=z00 AT.cells x1/\True/\zbe x0 x2/\x3=x3/\x6=x6/\z62 x14 i0/\faE x13.2.1 (5:Int)=faE x13.2.1 5/\x3=x3/\z83 x0 x2/\length x13.2.2=length x13.2.2/\z00 AT.cells x1=z00 AT.cells i0/\z70 x4 (z00 txV x13.2.2=z00 txV x13.2.2/\zfk x4 x8 x9 x10 x11/\(faE x13.2.1 (5:Int)=0->x7=0)/\True))/\(Option.isSome (findF (z2d x0 x2) x1 0)=false->j6d x0 x14 x2 x3 x4 x6 x7 x8 x9 x10 x11 x13 x1)
 def z3k:=(z82 x4 x8 x9 x10 x11 x20)/\length x13.2.2<=x12/\qik x20 x17 (take (length x13.2.2*nat_lit 1) (z00 txV x13.2.2))
 def j0j:=(0<=AF.ty x24/\AF.ty x24<(↑(length (x21.1++x22.1)):Int))/\GJ.wf (AF.df x24)
 def j0i:=x21.2.1=0/\(∀(i0:AT),i0∈x22.1->z1v (length (x21.1++x22.1)) i0)/\(∀(i1:AF),i1∈x22.2.2.2->j0j x21 x22 i1)/\length x22.2.2.2<=30
 def zrv:=(∀(i0:AT),i0∈x22.1->AT.ok i0 x20)/\slP AF.cells x22.2.2.1 x22.2.2.2 x20/\∀(i1:AF),i1∈x22.2.2.2->AF.ok i1 x20
 def j0k:=x25.2.1=0/\x26.2.2.1≠[]/\length x26.2.2.1<=30
 abbrev zrw:=if x26.1=0 then zin x25.1 x25.2.2.2 x26.2.1 x26.2.2.1 x26.2.2.2.1 x26.2.2.2.2 else x25.1
 def zfj:=∃(i0:List AT),x7=x7/\length i0=length (adS x16.1 x16.2.2)/\adE x16.1 x16.2.1=adE x16.1 x16.2.1/\z00 AT.cells i0=z00 AT.cells (adS x16.1 x16.2.2)/\True/\∃(i1:TmB),i1.2.2=0/\length (x1++i1.1)=length i0/\i1.2.1=faE (adE x16.1 x16.2.1) x7/\z00 AT.cells (x1++i1.1)=z00 AT.cells i0/\z0d (x1,x3,x4,x5,x6) i1/\(∀i2,z3k x4 x8 x9 x10 x11 x12 x13 x17 i2->z71 i2 i1)/\True
 def zrx:=x23.2.2=adR x16.1/\length (x1++x23.1)=length (adS x16.1 x16.2.2)/\x23.2.1=adE x16.1 x16.2.1/\x19
 def j0f:=(0<=adR x16.1/\adR x16.1<(↑(length (adS x16.1 x16.2.2)):Int))/\nat_lit 0+toNat (adR x16.1)*nat_lit 10+7+length [int i64 (GJ.n (z3l x18))]<=length (z00 AT.cells (adS x16.1 x16.2.2))/\∃(i0:TmB),zrx x1 x16 (z00 AT.cells (x1++i0.1)=spl (z00 AT.cells (adS x16.1 x16.2.2)) (nat_lit 0+toNat (adR x16.1)*nat_lit 10+7) [int i64 (GJ.n (z3l x18))]/\z0d (x1,x3,x4,x5,x6) i0/\(∀i1,z3k x4 x8 x9 x10 x11 x12 x13 x17 i1->z71 i1 i0)/\True) i0
 def j0e:=Ji (adE x16.1 x16.2.1=0) (j0f x1 x3 x4 x5 x6 x8 x9 x10 x11 x12 x13 x16 x17 x18) (∃(i3:TmB),zrx x1 x16 (z00 AT.cells (x1++i3.1)=z00 AT.cells (adS x16.1 x16.2.2)/\z0d (x1,x3,x4,x5,x6) i3/\(∀i4,z3k x4 x8 x9 x10 x11 x12 x13 x17 i4->z71 i4 i3)/\True) i3)
 def j0d:=Ji (5000<GJ.n (z3l x18)) (zfj x1 x3 x4 x5 x6 6 x8 x9 x10 x11 x12 x13 x16 x17) (j0e x1 x3 x4 x5 x6 x8 x9 x10 x11 x12 x13 x16 x17 x18)
 def j0b:=Ji (GJ.n (z3l x18)<0) (zfj x1 x3 x4 x5 x6 6 x8 x9 x10 x11 x12 x13 x16 x17) (j0d x1 x3 x4 x5 x6 x8 x9 x10 x11 x12 x13 x16 x17 x18)
 def jco:=((zfl 3 x18)=true->zfj x1 x3 x4 x5 x6 2 x8 x9 x10 x11 x12 x13 x16 x17)/\((zfl 3 x18)=false->j0b x1 x3 x4 x5 x6 x8 x9 x10 x11 x12 x13 x16 x17 x18)
 def jcn:=Ji (x3=10) (∃(i0:List AT×Int×GJ×Int),GJ.k i0.2.2.1=GJ.k x4/\GJ.n i0.2.2.1=GJ.n x4/\GJ.s i0.2.2.1=GJ.s x4/\(GJ.y i0.2.2.1).1=(GJ.y x4).1/\(GJ.y i0.2.2.1).2.1=(GJ.y x4).2.1/\(GJ.y i0.2.2.1).2.2=(GJ.y x4).2.2/\(GJ.x i0.2.2.1).1=(GJ.x x4).1/\(GJ.x i0.2.2.1).2.1=(GJ.x x4).2.1/\(GJ.x i0.2.2.1).2.2=(GJ.x x4).2.2/\i0.2.2.2=adR x16.1/\length i0.1=length (adS x16.1 x16.2.2)/\i0.2.1=adE x16.1 x16.2.1/\z00 AT.cells i0.1=z00 AT.cells (adS x16.1 x16.2.2)/\(length i0.1<=60/\GJ.wf i0.2.2.1/\0<=i0.2.2.2/\(i0.2.1=0->i0.2.2.2<(↑(length i0.1):Int)))/\(∀i1,z3k x4 x8 x9 x10 x11 x12 x13 x17 i1->GJ.ok i0.2.2.1 i1)/\∀(i2:SyB),(i2.1=0->j0k i0 i2)->(∃i3,(z3k x4 x8 x9 x10 x11 x12 x13 x17 i3)/\slP txV i2.2.1 i2.2.2.1 i3)->∃(i4:TmB),i4.2.2=adR x16.1/\length (x1++i4.1)=length (zrw i0 i2)/\i4.2.1=i2.1/\z00 AT.cells (x1++i4.1)=z00 AT.cells (zrw i0 i2)/\z0d (x1,x6,x4,x5,x7) i4/\(∀i5,(z3k x4 x8 x9 x10 x11 x12 x13 x17 i5)/\slP txV i2.2.1 i2.2.2.1 i5->z71 i5 i4)/\True) (∃(i7:GJ×ByteArray),zrs x4 i7 (i7.2=mkS [115,105,122,101]/\GJ.wf i7.1/\(∀i8,z3k x4 x8 x9 x10 x11 x12 x13 x17 i8->GJ.ok i7.1 i8)/\((!Option.isSome (z0b i7.2 i7.1))=true->zfj x1 x6 x4 x5 x7 2 x8 x9 x10 x11 x12 x13 x16 x17)/\((!Option.isSome (z0b i7.2 i7.1))=false->jco x1 x6 x4 x5 x7 x8 x9 x10 x11 x12 x13 x16 x17 i7)))
 abbrev jcl:=((!decide (x3=0))=true->∃(i0:TmB),i0.2.2=0/\length (x1++i0.1)=length x1/\i0.2.1=x3/\z00 AT.cells (x1++i0.1)=z00 AT.cells x14/\z0d (x1,x6,x4,x5,x7) i0/\(∀i1,z82 x4 x8 x9 x10 x11 i1->z71 i1 i0)/\True)/\((!decide (x3=0))=false->∀(i3 i4 i5:Nat) (i6:Option Addr) (i7 i8:Nat),(∃i9,z3k x4 x8 x9 x10 x11 i8 x13 i6 i9)->∃(i10:List AT×Int×AT),AT.k i10.2.2=x15/\AT.nm i10.2.2=z18 (z1d x2).1 x0.2/\(AT.al i10.2.2).1=i6/\(AT.al i10.2.2).2.1=length x13.2.2/\(AT.al i10.2.2).2.2=i8/\AT.it i10.2.2=0/\(AT.sy i10.2.2).1=noA/\(AT.sy i10.2.2).2.1=0/\(AT.sy i10.2.2).2.2=0/\AT.hd i10.2.2=false/\AT.df i10.2.2=mkS []/\AT.sz i10.2.2=0/\(AT.f i10.2.2).1=noA/\(AT.f i10.2.2).2.1=0/\(AT.f i10.2.2).2.2=0/\(AT.br i10.2.2).1=noA/\(AT.br i10.2.2).2.1=0/\(AT.br i10.2.2).2.2=0/\length i10.1=length x1/\i10.2.1=x3/\z00 AT.cells i10.1=z00 AT.cells x14/\True/\Ji (x15=9) (∃(i11:FdS),GJ.k i11.2.2.1=GJ.k x4/\GJ.n i11.2.2.1=GJ.n x4/\GJ.s i11.2.2.1=GJ.s x4/\(GJ.y i11.2.2.1).1=(GJ.y x4).1/\(GJ.y i11.2.2.1).2.1=(GJ.y x4).2.1/\(GJ.y i11.2.2.1).2.2=(GJ.y x4).2.2/\(GJ.x i11.2.2.1).1=(GJ.x x4).1/\(GJ.x i11.2.2.1).2.1=(GJ.x x4).2.1/\(GJ.x i11.2.2.1).2.2=(GJ.x x4).2.2/\i11.2.2.2.1=adR i10.1/\i11.2.2.2.2.1=z58 (z2d x0 x2) (size (z2d x0 x2))/\i11.2.2.2.2.2=x7/\length i11.1=length (adS i10.1 i10.2.2)/\i11.2.1=adE i10.1 i10.2.1/\z00 AT.cells i11.1=z00 AT.cells (adS i10.1 i10.2.2)/\(zw3 i11<x12+1/\length i11.1<=60/\GJ.wf i11.2.2.1/\0<=i11.2.2.2.1/\(i11.2.1=0->i11.2.2.2.1<(↑(length i11.1):Int))/\1<=i11.2.2.2.2.2/\i11.2.2.2.2.2<=20/\(↑(size i11.2.2.2.2.1):Int)<=1100*(i11.2.2.2.2.2+1))/\(∀i12,z3k x4 x8 x9 x10 x11 i8 x13 i6 i12->GJ.ok i11.2.2.1 i12)/\∀(i13:FdB),length (i11.1++i13.1)<=60/\(i13.2.1=0->j0i i11 i13)->(∃i16,(z3k x4 x8 x9 x10 x11 i8 x13 i6 i16)/\zrv i16 i13)->∃(i19:TmB),i19.2.2=adR i10.1/\length (x1++i19.1)=length ((if i13.2.1=0 then z7m i11.1 i11.2.2.2.1 i13.2.2.1 i13.2.2.2 else i11.1)++i13.1)/\i19.2.1=i13.2.1/\z00 AT.cells (x1++i19.1)=z00 AT.cells ((if i13.2.1=0 then z7m i11.1 i11.2.2.2.1 i13.2.2.1 i13.2.2.2 else i11.1)++i13.1)/\z0d (x1,x6,x4,x5,x7) i19/\(∀i20,((z3k x4 x8 x9 x10 x11 i8 x13 i6 i20)/\zrv i20 i13)->z71 i20 i19)/\True) (jcn x1 x15 x4 x5 x6 x7 x8 x9 x10 x11 i8 x13 i10 i6))
 def zrt:=∃(i0:List AT),z83 x0 x2/\z62 i0 x1/\x13.2.1=x13.2.1/\z00 AT.cells i0=z00 AT.cells x11.1/\length i0<1000/\(Ji (x13.2.1=0) (jcm x0 i0 x2 x3 x4 x6 x7 x8 x9 x10 x11 x13 x1) (j6d x0 x1 x2 x3 x4 x6 x7 x8 x9 x10 x11 x13 i0))/\∀(i1:Int),(i1=0->x7=0)->jcl x0 x1 x2 i1 x4 x5 x7 x6 x8 x9 x10 x11 x12 x13 i0 x3
 def jcp:=Ji (x13.2.1=0) (jcq x0 x1 x2 x3 x4 x6 x7 x8 x9 x10 x11 x13) (zrt x0 x1 x2 x3 x4 x5 x6 x7 x8 x9 x10 x11 x12 x13)
 def jck:=Ji ((↑x13.1:Int)<(↑x8:Int)) (jcp x0 x1 x2 x3 x4 x5 x6 x7 x8 x9 x10 x11 x12 x13) (zrt x0 x1 x2 x3 x4 x5 x6 x7 x8 x9 x10 x11 x12 x13)
 def jcj:=(∃(i0:NlS),zbe x0 x2/\x9=x9/\x8=x8/\x10=x10/\(↑i0.1:Int)=0/\x3=x3/\x6=x6/\length x1=length x11.1/\i0.2.1=(z1u x11.2.2.1 x11.2.2.2 x11.2.1).2.2/\x3=x3/\z83 x0 x2/\length i0.2.2=0/\z00 AT.cells x11.1=z00 AT.cells x11.1/\z70 x4 (zfk x4 x8 x9 x10 x11/\(zk6 x7 i0)/\True))/\∀(i2:NlS),zk6 x7 i2->jck x0 x1 x2 x3 x4 x5 x6 x7 x8 x9 x10 x11 x12 i2
 def jci:=((!decide (x0.1=0))=true->∃(i0:TmB),i0.2.2=0/\length (x1++i0.1)=length x1/\i0.2.1=x0.1/\z00 AT.cells (x1++i0.1)=z00 AT.cells x2.1/\z0d (x1,x3,x4,x5,x6) i0/\(∀i1,True/\GJ.ok x4 i1->z71 i1 i0)/\True)/\((!decide (x0.1=0))=false->∃(i3:List AT),(z1d x2).1=(z1d x2).1/\x0.2=x0.2/\z62 i3 x1/\x0.1=x0.1/\z00 AT.cells i3=z00 AT.cells x2.1/\(size (z1d x2).1<10000/\size x0.2<50000)/\z83 x0 x2/\size (z2d x0 x2)<1000000/\∃(i4:List AT×Int×GJ×ByteArray),GJ.k i4.2.2.1=GJ.k x4/\GJ.n i4.2.2.1=GJ.n x4/\GJ.s i4.2.2.1=GJ.s x4/\(GJ.y i4.2.2.1).1=(GJ.y x4).1/\(GJ.y i4.2.2.1).2.1=(GJ.y x4).2.1/\(GJ.y i4.2.2.1).2.2=(GJ.y x4).2.2/\(GJ.x i4.2.2.1).1=(GJ.x x4).1/\(GJ.x i4.2.2.1).2.1=(GJ.x x4).2.1/\(GJ.x i4.2.2.1).2.2=(GJ.x x4).2.2/\i4.2.2.2=mkS [97,108,105,97,115,101,115]/\length i4.1=length i3/\i4.2.1=whE (z1d x2).1 x0.2 x0.1/\z00 AT.cells i4.1=z00 AT.cells i3/\GJ.wf i4.2.2.1/\(∀i5,True/\GJ.ok x4 i5->GJ.ok i4.2.2.1 i5)/\∀(i6:Unit),True->∀(i7:Option Addr) (i8 i9:Nat),(∃i10,z82 x4 i8 i7 i9 i4 i10)->jcj x0 x1 x2 x7 x4 x5 x6 x3 i8 i7 i9 i4 x8)
end
def zas(n:Nat) (S:List AT) (e:Int) (g:GJ) (k:Int) (sp:ByteArray) (d:Int):qm3 P (qh2 [(66,z4l),(100,z6i),(101,z5i),(102,z59),(103,z4z),(97,zc0),(69,zvz),(63,z1s)]) (qi5 [(104,z3v.below zw3 (n+1)),(105,zgp)]) Go.Proofs.Tryz.f67 (z5d.below zw5 (n+1)) (zeo) ⟨S,e,g,k,sp,d⟩=(zw5 (S,e,g,k,sp,d)<n+1/\z2y (S,e,g,sp,d)/\d<=20/\(k=9\/k=10\/k=11)->(∃(p:Pub),True/\GJ.ok g p)->∃(s:List AT×Int×GJ×ByteArray×Bool),GJ.k s.2.2.1=GJ.k g/\GJ.n s.2.2.1=GJ.n g/\GJ.s s.2.2.1=GJ.s g/\(GJ.y s.2.2.1).1=(GJ.y g).1/\(GJ.y s.2.2.1).2.1=(GJ.y g).2.1/\(GJ.y s.2.2.1).2.2=(GJ.y g).2.2/\(GJ.x s.2.2.1).1=(GJ.x g).1/\(GJ.x s.2.2.1).2.1=(GJ.x g).2.1/\(GJ.x s.2.2.1).2.2=(GJ.x g).2.2/\s.2.2.2.1=mkS [110,97,109,101]/\s.2.2.2.2=true/\length s.1=length S/\s.2.1=e/\z00 AT.cells s.1=z00 AT.cells S/\GJ.wf s.2.2.1/\(∀(p:Pub),True/\GJ.ok g p->GJ.ok s.2.2.1 p)/\∃(s_1:GJ×ByteArray),zrs g s_1 (s_1.2=mkS [110,97,109,101,115,112,97,99,101]/\GJ.wf s_1.1/\(∀(p:Pub),True/\GJ.ok g p->GJ.ok s_1.1 p)/\((Option.isSome (z0b s_1.2 s_1.1)=true->j0c S s k g d e s_1)/\(Option.isSome (z0b s_1.2 s_1.1)=false->j0h S s k g sp d e))/\∀(s_2:Int×ByteArray),(s_2.1=0->e=0)/\(↑(size s_2.2):Int)<=1100*d->jci s_2 S s e g sp d k n)):=by kernel_rfl
def zd7:=λn S e g k sp d=>Eq.trans (zas n S e g k sp d) (by delta Ji Jb Jt Jf zrs z3l zfl z1d z62 z70 zk7 zru j0g j0c j0h z71 z83 z2d z82 zbe zfk zk6 jcq j6d jcm z3k j0j j0i zrv j0k zrw zfj zrx j0f j0e j0d j0b jco jcn jcl zrt jcp jck jcj jci;exact rfl)
def zw6(k:Int) (W:ByteArray) (al:SV) (als:List ByteArray):AT:=⟨k,W,al,als,0,(none,0,0),[],false,mkS [],0,(none,0,0),[],(none,0,0),[]⟩
def zoy{k:Int} {W:ByteArray} {al:SV} {als:List ByteArray} {p:Pub} (h:slP txV al als p):(zw6 k W al als).ok p:=⟨h,z05,z05,z05,λf hf=>(by cases hf)⟩
def z9p(S:List AT) (t u:AT):(S++[t]).set S.length u=S++[u]:=by
 induction S with
 |nil=>rfl
 |cons a S ih=>rw[List.cons_append,List.length_cons,List.set_cons_succ,ih];rfl
def z98(S:List AT) (t:AT):(S++[t])[S.length]? =some t:=by
 rw[List.getElem?_append_right (Nat.le_refl _),Nat.sub_self];rfl
def zcj(S:List AT) (t:AT) (x:SV) (l:List AF):z7m (S++[t]) (S.length:Int) x l=S++[{t with f:=x,fs:=l}]:=by
 unfold z7m;rw[Int.toNat_natCast,z98];exact z9p _ _ _
def zdw(S:List AT) (t:AT) (y:SV) (l:List ByteArray) (hd:Bool) (df:ByteArray):zin (S++[t]) (S.length:Int) y l hd df=S++[{t with sy:=y,sys:=l,hd:=hd,df:=df}]:=by
 unfold zin;rw[Int.toNat_natCast,z98];exact z9p _ _ _
def zxs(S:List AT) (t:AT) (r:Int):z00 AT.cells (S++[{t with sz:=r}])=spl (z00 AT.cells (S++[t])) (0+S.length*10+7) [.int .i64 r]:=by
 rw[z04,z04,z1b,z1b,Nat.zero_add,←z01 z1i S]
 show _=(z00 AT.cells S++(t.cells++z00 AT.cells [])).set ((z00 AT.cells S).length+7) (.int .i64 r)
 rw[z2x]
 rfl
def z6f{s:ByteArray}:∀i,i<=s.size->(z58 s i).size<=s.size
  |0,_=>Nat.zero_le _
  | i+1,h=>by
    rw[z58]
    split
    · rw[ByteArray.size_extract];omega
    · exact z6f i (by omega)
def zyf{a b:ByteArray} {e:Int}:whE a b e=0->e=0:=by
 unfold whE
 split
 ·exactλh=>(z2v (by decide) h).elim
 ·exactλh=>h
def zd8 (n:Nat) (hf:q22 P 104 (z3v.below zw3 (n+1))):q22 P 67 (z5d.below zw5 (n+1)):=by
 refine qlb mixed (qee (qih z2k (qih z5u (qih zet (qih zbw (qih z5r (qih z95 (qih z56 (qih z13 qlq))))))))) (qf7 (qig hf (qig zpt qlp))) (W:=zeo) Go.Proofs.Tryz.func67 (by kernel_rfl) (show 1<=4 by decide) (show 4<=6 by decide) (λs=>by kernel_rfl) λ⟨S,(e:Int),g,(k:Int),sp,(d:Int)⟩=>(zd7 n S e g k sp d).mpr ?_
 rintro⟨hmu,⟨hS,hg,hd1,hd2,hsp⟩,hd3,hk⟩ ⟨p,_,hp⟩
 have hmu:(25- d).toNat<n+1:=hmu
 simp only[sbS,exists_const,forall_const,Int.toNat_natCast]
 have hnm:=zn6 hg (mkS [110,97,109,101]) true e
 have hwe:(woR g (mkS [110,97,109,101]) true e).2=0->e=0:=zq4
 obtain⟨oww,_⟩:=z16 (mkS [110,97,109,101,115,112,97,99,101]) hg
 have osz:((z0b (mkS [110,97,109,101,115,112,97,99,101]) g).getD zJ).s.size<1000:=by rw[GJ.wf_eq]at oww;exact oww.1
 have bad0:∀k:Int,k≠0->z0d (S,e,g,sp,d) ([],k,0):=λk hk=>⟨⟨by rw[List.append_nil];exact hS,λh=>absurd h hk⟩,λh=>absurd h hk⟩
 refine⟨⟨S,e,g,mkS [110,97,109,101],true⟩,rfl,rfl,rfl,rfl,rfl,rfl,rfl,rfl,rfl,rfl,rfl,rfl,rfl,rfl,hg,λq hq=>hq,⟨g,mkS [110,97,109,101,115,112,97,99,101]⟩,rfl,rfl,rfl,rfl,rfl,rfl,rfl,rfl,rfl,rfl,hg,λq hq=>hq,?_⟩
 simp only
 clear oww
 generalize (z0b (mkS [110,97,109,101,115,112,97,99,101]) g).getD zJ=ow at*
 generalize woR g (mkS [110,97,109,101]) true e=W at*
 refine⟨⟨λ_=>⟨λ_=>⟨S,rfl,rfl,rfl,rfl,λh=>(z2v (by decide) h).elim,by omega⟩,λ_=>⟨trivial,hwe,by omega⟩⟩,λ_=>⟨trivial,hwe,hsp⟩⟩,?_⟩
 rintro⟨e2,sp2⟩ ⟨h2,hsp2⟩
 simp only at h2 hsp2⊢
 refine⟨λhne=>⟨⟨[],e2,0⟩,rfl,by rw[List.append_nil],rfl,by rw[List.append_nil],bad0 _ hne,λq _ a ha=>(by cases ha)⟩,λhe2=> ?_⟩
 have hws:=z4d (a:=W.1) (b:=sp2)
 have hbs:=z6f (s:=z18 W.1 sp2) _ (Nat.le_refl _)
 refine⟨S,rfl,rfl,⟨by omega,by omega⟩,by omega,⟨S,whE W.1 sp2 e2,g,mkS [97,108,105,97,115,101,115]⟩,rfl,rfl,rfl,rfl,rfl,rfl,rfl,rfl,rfl,rfl,rfl,rfl,rfl,hg,λq hq=>hq,?_⟩
 have hsz:∀x∈(z1u g (mkS [97,108,105,97,115,101,115]) (whE W.1 sp2 e2)).1,x.size<1000:=z5t hg
 have hLl:(z1u g (mkS [97,108,105,97,115,101,115]) (whE W.1 sp2 e2)).1.length<1000:=z5s hg
 have hE:(z1u g (mkS [97,108,105,97,115,101,115]) (whE W.1 sp2 e2)).2.2=0->e=0:=λh=>h2 (zyf (ze9 h))
 simp only
 generalize z1u g (mkS [97,108,105,97,115,101,115]) (whE W.1 sp2 e2)=F at*
 generalize z18 W.1 sp2=N at*
 generalize z58 N N.size=sp3 at*
 rintro a m c ⟨p1,hp1,hl1⟩
 have hm:m=F.1.length:=hl1.1
 subst hm
 have hat2:=λ(k:Nat) (hk:k<F.1.length) (q:Pub) (hq:slP txV (a,F.1.length,c) F.1 q)=>(show a≠noA/\q3p q (adr a (k*1)) [.string F.1[k]]from z0z z0t (by decide) hq hk)
 refine⟨⟨⟨0,F.2.2,[]⟩,rfl,trivial,rfl,rfl,by show((0:Nat):Int)<=1000;omega,Nat.le_refl _,hE⟩,?_⟩
 rintro⟨x,e4,acc⟩ ⟨hx0,hacc,h4⟩
 simp only at hx0 hacc h4⊢
 refine⟨λhx=>⟨λh0=>⟨⟨by omega,by omega⟩,(hat2 x (by omega) p1 hl1).1,F.1[x]'(by omega),λq hq=>(hat2 x (by omega) q hq.2).2,S,rfl,rfl,⟨by have:=hsz _ (List.getElem_mem (show x<F.1.length by omega));omega,by omega⟩,z01 z0t acc,by omega,⟨by omega,by omega⟩,⟨x+1,whE (F.1[x]'(by omega)) sp3 e4,acc++[z18 (F.1[x]'(by omega)) sp3]⟩,by show((x+1:Nat):Int)=_;omega,rfl,rfl,by simp,rfl,by rw[z04];rfl,⟨by show((x+1:Nat):Int)<=1000;omega,by show(acc++[_]).length<=x+1;simp;omega,λh=>h4 (zyf h)⟩,by show 1000- (x+1)<1000- x;omega⟩,λh0=> ?xa⟩,λhx=> ?xb⟩
 case xa | xb=>
  refine⟨S,rfl,rfl,by omega,⟨⟨λ_=>⟨λ_=>⟨S,rfl,rfl,rfl,rfl,λh=>(z2v (by decide) h).elim⟩,λ_=>⟨rfl,h4⟩⟩,λ_=>⟨rfl,h4⟩⟩,?_⟩⟩
  intro e5 h5
  refine⟨λhne=>⟨⟨[],e5,0⟩,rfl,by rw[List.append_nil],rfl,by rw[List.append_nil],bad0 _ hne,λq _ a ha=>(by cases ha)⟩,λhe5=> ?_⟩
  intro a7 c1 _
  have e0:=h5 he5
  have hal:∀q,(acc.length<=c1/\qik q a7 (List.take (acc.length*1) (z00 txV acc)))->slP txV (a7,acc.length,c1) acc q:=λq hq=>by
   refine⟨rfl,hq.1,?_⟩
   have:=hq.2
   rw[List.take_of_length_le (by rw[z01 z0t];exact Nat.le_refl _)]at this
   exact this
  refine⟨⟨S,e5,zw6 k N (a7,acc.length,c1) acc⟩,rfl,rfl,rfl,rfl,rfl,rfl,rfl,rfl,rfl,rfl,rfl,rfl,rfl,rfl,rfl,rfl,rfl,rfl,rfl,rfl,rfl,?_⟩
  have hto:∀q,slP txV (a7,acc.length,c1) acc q->(zw6 k N (a7,acc.length,c1) acc).ok q:=λq h=>zoy h
  have htk:(zw6 k N (a7,acc.length,c1) acc).k=k:=rfl
  have hte:zw6 k N (a7,acc.length,c1) acc=⟨k,N,(a7,acc.length,c1),acc,0,(none,0,0),[],false,mkS [],0,(none,0,0),[],(none,0,0),[]⟩:=rfl
  simp only
  generalize zw6 k N (a7,acc.length,c1) acc=t at*
  have adl:=zbt S t hS
  have adok:∀q,slP txV (a7,acc.length,c1) acc q->∀a∈adT S t,a.ok q:=λq hq a ha=>by
   unfold adT at ha
   split at ha
   ·cases ha
   ·simp at ha;subst ha;exact hto q hq
  have hR0:0<=adR S:=by unfold adR;split<;>omega
  have hgood:adE S e5=0->S.length<60/\adS S t=S++[t]/\adR S=S.length:=λh=>by
   have hl:S.length<60:=by
    by_cases hl:60<=S.length
    ·exact absurd h (zbs hl)
    ·omega
   exact⟨hl,by unfold adS;rw[if_neg (by omega)],by unfold adR;rw[if_neg (by omega)]⟩
  have hbad:∀e6:Int,e6≠0->z0d (S,e,g,sp,d) (adT S t,e6,0):=λe6 h6=>⟨⟨adl,λh=>absurd h h6⟩,λh=>absurd h h6⟩
  refine⟨λh9=> ?_,λh9=>⟨λh10=> ?_,λh10=> ?_⟩⟩
  ·refine ⟨⟨adS S t,adE S e5,g,adR S,sp3,d⟩,rfl,rfl,rfl,rfl,rfl,rfl,rfl,rfl,rfl,rfl,rfl,rfl,rfl,rfl,rfl,⟨hmu,by rw[z0r];exact adl,hg,hR0,λh=> ?_,hd1,hd3,by show(sp3.size:Int)<=1100*(d+1);omega⟩,λq hq=>hq.1.1,?_⟩
   ·obtain⟨hl,q2,q3⟩:=hgood h
    show adR S<((adS S t).length:Int)
    rw[q2,q3];simp;omega
   ·rintro⟨T,e6,x,fs⟩ ⟨hT,hT2⟩ ⟨p3,_,hTok,hsl,hfok⟩
    simp only at hT hT2 hTok hsl hfok⊢
    by_cases h6:e6=0
    ·obtain⟨ha0,hTg,hfg,hf30⟩:=hT2 h6
     obtain⟨hl,q2,q3⟩:=hgood ha0
     rw[q2]at hT hTg hfg
     rw[if_pos h6,q2,q3,zcj,List.append_assoc]
     have hlen:∀u:AT,(S++(u::T)).length=S.length+T.length+1:=λu=>by simp;omega
     have hlen2:(S++[t]++T).length=S.length+T.length+1:=by simp;omega
     refine⟨⟨{t with f:=x,fs:=fs}::T,e6,S.length⟩,rfl,rfl,rfl,rfl,⟨⟨by rw[hlen];omega,λ_=>⟨e0,λy hy=> ?_⟩⟩,λ_=>⟨by show 0<=(S.length:Int);omega,by show(S.length:Int)<((S++_::T).length:Int);rw[hlen];omega⟩⟩,λq hq y hy=> ?_⟩
     ·rw[hlen]
      rw[hlen2]at hTg hfg
      rcases List.mem_cons.1 hy with rfl|hy
      ·subst hte
       exact⟨by show 1<=k/\k<=14;omega,λh=>(by have h:k=12\/k=13:=h;omega),λb hb=>(by cases hb),λh=>(by have h:k=14:=h;omega),hfg,λh=>(by have h:k=10:=h;omega),λh=>(by have h:k=11:=h;omega),hf30,Nat.zero_le _,Nat.zero_le _⟩
      ·exact hTg y hy
     ·rcases List.mem_cons.1 hy with rfl|hy
      ·have ho:=hto q (hal q hq.1.2)
       exact⟨ho.1,ho.2.1,hq.2.2.1,ho.2.2.2.1,hq.2.2.2⟩
      ·exact hq.2.1 y hy
    ·rw[if_neg h6]
     refine⟨⟨adT S t++T,e6,adR S⟩,rfl,by rw[z0r,List.append_assoc],rfl,by rw[z0r,List.append_assoc],⟨⟨by rw[←List.append_assoc,←z0r];exact hT,λh=>absurd h h6⟩,λh=>absurd h h6⟩,λq hq y hy=>(List.mem_append.1 hy).elim (adok q (hal q hq.1.2) y) (hq.2.1 y)⟩
  ·refine⟨⟨adS S t,adE S e5,g,adR S⟩,rfl,rfl,rfl,rfl,rfl,rfl,rfl,rfl,rfl,rfl,rfl,rfl,rfl,⟨by rw[z0r];exact adl,hg,hR0,λh=> ?_⟩,λq hq=>hq.1.1,?_⟩
   ·obtain⟨hl,q2,q3⟩:=hgood h
    show adR S<((adS S t).length:Int)
    rw[q2,q3];simp;omega
   ·rintro⟨e6,y,l,hd,df⟩ hT2 ⟨p3,_,hsl⟩
    simp only at hT2 hsl⊢
    by_cases h6:e6=0
    ·obtain⟨ha0,hl0,hl30⟩:=hT2 h6
     obtain⟨hl,q2,q3⟩:=hgood ha0
     rw[if_pos h6,q2,q3,zdw]
     refine⟨⟨[{t with sy:=y,sys:=l,hd:=hd,df:=df}],e6,S.length⟩,rfl,rfl,rfl,rfl,⟨⟨by simp;omega,λ_=>⟨e0,λz hz=> ?_⟩⟩,λ_=>⟨by show 0<=(S.length:Int);omega,by simp;omega⟩⟩,λq hq z hz=> ?_⟩
     ·simp at hz;subst hz;subst hte
      exact⟨by show 1<=k/\k<=14;omega,λh=>(by have h:k=12\/k=13:=h;omega),λb hb=>(by cases hb),λh=>(by have h:k=14:=h;omega),λf hf=>(by cases hf),λ_=>hl0,λh=>(by have h:k=11:=h;omega),Nat.zero_le _,Nat.zero_le _,hl30⟩
     ·simp at hz;subst hz
      have ho:=hto q (hal q hq.1.2)
      exact⟨ho.1,hq.2,ho.2.2.1,ho.2.2.2.1,ho.2.2.2.2⟩
    ·rw[if_neg h6]
     refine⟨⟨adT S t,e6,adR S⟩,rfl,by rw[z0r],rfl,by rw[z0r],⟨⟨adl,λh=>absurd h h6⟩,λh=>absurd h h6⟩,λq hq y hy=>adok q (hal q hq.1.2) y hy⟩
  ·obtain⟨zw,_⟩:=z16 (mkS [115,105,122,101]) hg
   refine⟨⟨g,mkS [115,105,122,101]⟩,rfl,rfl,rfl,rfl,rfl,rfl,rfl,rfl,rfl,rfl,hg,λq hq=>hq.1.1,?_⟩
   simp only
   have hbd:∀k:Int,k≠0->∃b:List AT,b.length=(adS S t).length/\z00 AT.cells b=z00 AT.cells (adS S t)/\∃b_2:TmB,b_2.2.2=0/\(S++b_2.1).length=b.length/\b_2.2.1=faE (adE S e5) k/\z00 AT.cells (S++b_2.1)=z00 AT.cells b/\z0d (S,e,g,sp,d) b_2/\∀q,((g.ok q/\slP txV (a,F.1.length,c) F.1 q)/\acc.length<=c1/\qik q a7 (List.take (acc.length*1) (z00 txV acc)))->∀y∈b_2.1,y.ok q:=λk hk=>⟨adS S t,rfl,rfl,⟨adT S t,faE (adE S e5) k,0⟩,rfl,by rw[z0r],rfl,by rw[z0r],hbad _ (z0i hk),λq hq=>adok q (hal q hq.2)⟩
   generalize (z0b (mkS [115,105,122,101]) g).getD zJ=zs at*
   refine⟨λ_=>hbd 2 (by decide),λ_=>⟨λ_=>hbd 2 (by decide),λ_=>⟨λ_=>hbd 6 (by decide),λz0=>⟨λ_=>hbd 6 (by decide),λz1=>⟨λha0=> ?_,λha0=>⟨⟨adT S t,adE S e5,adR S⟩,rfl,by rw[z0r],rfl,by rw[z0r],⟨⟨adl,λh=>absurd h ha0⟩,λh=>absurd h ha0⟩,λq hq=>adok q (hal q hq.2)⟩⟩⟩⟩⟩⟩
   clear hbd
   obtain⟨hl,q2,q3⟩:=hgood ha0
   rw[q2,q3,Int.toNat_natCast]
   have hlen:∀u:AT,(S++[u]).length=S.length+1:=λu=>by simp
   refine⟨⟨by omega,by rw[hlen];omega⟩,by rw[z01 z1i,hlen];show 0+S.length*10+7+1<=_;omega,⟨[{t with sz:=zs.n}],adE S e5,S.length⟩,rfl,by show(S++[_]).length=_;rw[hlen,hlen],rfl,zxs S t zs.n,⟨⟨by rw[hlen];omega,λ_=>⟨e0,λz hz=> ?_⟩⟩,λ_=>⟨by show 0<=(S.length:Int);omega,by rw[hlen];show(S.length:Int)<_;omega⟩⟩,λq hq z hz=> ?_⟩
   ·simp at hz;subst hz;subst hte
    exact⟨by show 1<=k/\k<=14;omega,λh=>(by have h:k=12\/k=13:=h;omega),λb hb=>(by cases hb),λh=>(by have h:k=14:=h;omega),λf hf=>(by cases hf),λh=>(by have h:k=10:=h;omega),λ_=>⟨by show 0<=zs.n;omega,by show zs.n<=5000;omega⟩,Nat.zero_le _,Nat.zero_le _,Nat.zero_le _⟩
   ·simp at hz;subst hz
    have ho:=hto q (hal q hq.2)
    exact⟨ho.1,ho.2.1,ho.2.2.1,ho.2.2.2.1,ho.2.2.2.2⟩
def vM(v:GV):PF:=⟨true,v.ok,λ_ _ h e=>GV.ok_mono h e⟩
def vwM(v w:GV):PF:=⟨true,λp=>v.ok p/\w.ok p,λ_ _ h e=>⟨GV.ok_mono h e.1,GV.ok_mono h e.2⟩⟩
abbrev scA(x:SV):AV:= .agg [svA x]
def ctP(σ:Type) (args:σ->List AV) (pre:σ->Prop) (mem:σ->PF) (r:σ->AV):Ct where
 σ:=σ
 args:=args
 h:=λ_=>[]
 m:=1
 pre:=pre
 mem:=mem
 r:=r
 h':=λ_=>[]
 m':=1
 g:=λ_=>none
def swc(f:Int->Bool) (i k:Nat) (keep:List Nat) (t:T AV):Option LT:=match slI t k with
 |some a=>some {σ:=Unit,t:=λ_=>[(i, .sv (.bool (f a)))],h:=λ_=>[],more:=0,μ:=λ_=>0,keep:=keep}
 |none=>none
def zov:GV×GV->Nat:=λ⟨v,w⟩=>SizeOf.sizeOf v
section
variable {p:Pub}
def j55{y:SV} {ks:List ByteArray} (h:slP txV y ks p) {i:Nat} (hi:i<ks.length):y.1≠noA/\q3p p (adr y.1 (i*1)) [.string ks[i]]:=z0z z0t (by decide) h hi
def zaz:∀{l m:List PV} {j:Nat} (h1:j<l.length) (h2:j<m.length),PV.sames (l.drop j) (m.drop j)=(PV.same l[j] m[j]&&PV.sames (l.drop (j+1)) (m.drop (j+1))):=λ{l m j} h1 h2=>by
 rw[List.drop_eq_getElem_cons h1,List.drop_eq_getElem_cons h2,PV.sames]
def z6s:∀{l m:List PV},l.length≠m.length->PV.sames l m=false
 | [],[],h=>absurd rfl h
 | [],_::_,h=>by rw[PV.sames]<;>simp
 |_::_,[],h=>by rw[PV.sames]<;>simp
 |v::l,w::m,h=>by rw[PV.sames,z6s (l:=l) (m:=m) (by simpa using h),Bool.and_false]
variable {l:List GV}
def zdm{j:Nat} (h:j<l.length):(GV.pvs l)[j]'(by rw[GV.pvs_len];exact h)=(l[j]).pv:=by simp[GV.pvs_map]
def zpo{j:Nat} (h:j<l.length):SizeOf.sizeOf l[j]<SizeOf.sizeOf l:=List.sizeOf_lt_of_mem (List.getElem_mem h)
mutual
def z6r:∀v:PV,PV.same v v=true
 | .mk n s l ks b=>by rw[PV.same,sames_refl l];simp
def sames_refl:∀l:List PV,PV.sames l l=true
 | []=>by rw[PV.sames]
 |v::l=>by rw[PV.sames,z6r v,sames_refl l];rfl
end
def z6k{a:AT} (h:a.ok p) {j:Nat} (hj:j<a.fs.length):a.f.1≠noA/\q3p p (adr a.f.1 (j*9)) a.fs[j].cells:=z0z z8s (by decide) h.2.2.1 hj
def z8u{a:AT} (h:a.ok p) {j:Nat} (hj:j<a.brs.length):a.br.1≠noA/\q3p p (adr a.br.1 (j*1)) [.int .i64 a.brs[j]]:=z0z z9a (by decide) h.2.2.2.1 hj
def z9w{S:List AT} {x:SV} (h:z09 S x p) {j:Nat} (hj:j<S.length):x.1≠noA/\q3p p (adr x.1 (j*10)) S[j].cells:=z0z z1i (by decide) h.1 hj
end
def z2p:∀n,q22 P 32 (z1t.below z53 n)
 |0=>CtR.below_zero (by decide) (by decide) (Sen.enters_of Go.Proofs.Tryz.func32 (by kernel_rfl)) λs=>rfl
 |n+1=>ziy n (z2p n) (zeb n (z2p n)) (zd8 n (zaj n (z2p n)))
def ze8:q22 P 32 z1t:=CtR.of_below z2p
def z0w(S:List AT):Prop:=S.length<=60/\∀a∈S,z1v S.length a
def zc3:CtR where
 σ:=GJ
 args:=λg=>[g.av]
 h:=λ_=>[]
 m:=1
 pre:=λg=>g.wf
 mem:=gM
 β:=λ_=>List AT×SV×Int
 post:=λg ⟨S,x,e⟩=>z0w S/\(e=0->S≠[])
 pm:=λ_ ⟨S,x,e⟩=>⟨true,z09 S x,λ_ _ h e=>z0y h e⟩
 r:=λ_ ⟨S,x,e⟩=> .tup [scA x, .sv (.int .i64 e)]
 h':=λ_ _=>[]
 m':=1
def zmu:GJ->WayF:=λg=>{pubE:=[23]}
section
variable (x0:TmB) (x1:GJ) (x2:TmS) (x3:Nat->Option Obj) (x4:Nat) (x5:Option Addr)
 def jcs:=AV.sv (int i64 x0.2.1)=AV.sv (int i64 x0.2.1)/\∃(i0:List AT×(Option Addr×Nat×Nat)×Int),i0.2.1.1=noA/\i0.2.1.2.1=0/\i0.2.1.2.2=0/\i0.2.2=x0.2.1/\(z0w i0.1/\(i0.2.2=0->i0.1≠[]))/\(∀i1,((True/\GJ.ok x1 i1)/\∀(i2:AT),i2∈x0.1->AT.ok i2 i1)->z09 i0.1 i0.2.1 i1)/\True
 def j6e:=((True/\GJ.ok x1 x3)/\∀(i0:AT),i0∈x0.1->AT.ok i0 x3)/\length (x2.1++x0.1)<=x4/\qik x3 x5 (take (length (x2.1++x0.1)*nat_lit 10) (z00 AT.cells (x2.1++x0.1)))
 def jcr:=((!decide (x0.2.1=0))=true->jcs x0 x1)/\((!decide (x0.2.1=0))=false->∀(i3 i4 i5:Nat) (i6:Option Addr) (i7 i8:Nat),(∃i9,j6e x0 x1 x2 i9 i8 i6)->∃(i11:List AT×(Option Addr×Nat×Nat)×Int),i11.2.1.1=i6/\i11.2.1.2.1=length (x2.1++x0.1)/\i11.2.1.2.2=i8/\i11.2.2=0/\(z0w i11.1/\(i11.2.2=0->i11.1≠[]))/\(∀i12,j6e x0 x1 x2 i12 i8 i6->z09 i11.1 i11.2.1 i12)/\True)
end
def zcl(g:GJ):qm3 P (qh2 []) (qi5 [(32,z1t)]) Go.Proofs.Tryz.f18 zc3 (zmu) g=(GJ.wf g->(∃(p:Pub),True/\GJ.ok g p)->∃(s:TmS),GJ.k s.2.2.1=GJ.k g/\GJ.n s.2.2.1=GJ.n g/\GJ.s s.2.2.1=GJ.s g/\(GJ.y s.2.2.1).1=(GJ.y g).1/\(GJ.y s.2.2.1).2.1=(GJ.y g).2.1/\(GJ.y s.2.2.1).2.2=(GJ.y g).2.2/\(GJ.x s.2.2.1).1=(GJ.x g).1/\(GJ.x s.2.2.1).2.1=(GJ.x g).2.1/\(GJ.x s.2.2.1).2.2=(GJ.x g).2.2/\s.2.2.2.1=mkS []/\s.2.2.2.2=1/\length s.1=0/\s.2.1=0/\z2y s/\(∀(p:Pub),True/\GJ.ok g p->GJ.ok s.2.2.1 p)/\∀(b:TmB),z0d s b->(∃(p:Pub),(True/\GJ.ok g p)/\∀(a:AT),a∈b.1->AT.ok a p)->jcr b g s):=by kernel_rfl
def zh6:=λg=>Eq.trans (zcl g) (by delta jcs j6e jcr;exact rfl)
def zh7:q22 P 18 zc3:=by
 refine qlb mixed (qee qlq) (qf7 (qig ze8 qlp)) (W:=zmu) Go.Proofs.Tryz.func18 (by kernel_rfl) (show 1<=1 by decide) (show 1<=1 by decide) (λs=>by kernel_rfl) λg=>(zh6 g).mpr ?_
 rintro hg ⟨p,_,hp⟩
 simp only[sbS,exists_const,forall_const,Int.toNat_natCast]
 refine⟨⟨[],0,g,mkS [],1⟩,rfl,rfl,rfl,rfl,rfl,rfl,rfl,rfl,rfl,rfl,rfl,rfl,rfl,⟨Nat.zero_le _,hg,by decide,by decide,by show((0:Nat):Int)<=_;decide⟩,λq hq=>hq,?_⟩
 rintro⟨T,e,r⟩ ⟨⟨hT,hT2⟩,hr⟩ _
 simp only at hT hT2 hr⊢
 rw[List.nil_append]at hT hT2 hr
 refine⟨λhne=>⟨⟨[],(none,0,0),e⟩,rfl,rfl,rfl,rfl,⟨⟨Nat.zero_le _,λa ha=>(by cases ha)⟩,λh=>absurd h hne⟩,λq hq=>⟨z05,λa ha=>(by cases ha)⟩⟩,λhe=> ?_⟩
 intro a c _
 obtain⟨_,hg2⟩:=hT2 he
 refine⟨⟨T,(a,T.length,c),0⟩,rfl,rfl,rfl,rfl,⟨⟨hT,hg2⟩,λ_ h=> ?_⟩,λq hq=>⟨⟨rfl,hq.2.1,?_⟩,hq.1.2⟩⟩
 ·have h:T=[]:=h
  subst h;have:=hr he;simp at this;omega
 ·have:=hq.2.2
  rw[List.nil_append,List.take_of_length_le (by rw[z01 z1i];exact Nat.le_refl _)]at this
  exact this
def ctN(σ:Type) (args:σ->List AV) (pre:σ->Prop) (mem:σ->PF) (β:Type) (post:σ->β->Prop) (pm:σ->β->PF) (r:σ->β->AV):CtR where
 σ:=σ
 args:=args
 h:=λ_=>[]
 m:=1
 pre:=pre
 mem:=mem
 β:=λ_=>β
 post:=post
 pm:=pm
 r:=r
 h':=λ_ _=>[]
 m':=1
def z6d(n:Int):Prop:=0<=n/\n<18446744073709551616
def zc6:CtR:=ctN (Int×Int×Int) (λ⟨v,f,b⟩=>[.sv (.int .u64 v), .sv (.int .i64 f), .sv (.int .i64 b)]) (λ⟨v,f,b⟩=>z6d v/\1<=f/\f<=62/\0<=b/\b<=2000) (λ_=>{}) Int (λ_ r=>z6d r) (λ_ _=>{}) λ_ r=> .sv (.int .u64 r)
def zy8:zc6.σ->WayF:=λ⟨v,f,b⟩=>{
 ann:=λ_ _ _=>some {σ:=Nat,pre:=λe=>e<=63,t:=λe=>[(7, .sv (.int .i64 (e:Int)))],h:=λ_=>[],more:=0,μ:=λe=>e,keep:=[0,1,2,6]}
 cut:=λi _ _=>match i with
  |7=>some {σ:=Nat,pre:=λe=>e<=63,t:=λe=>[(7, .sv (.int .i64 (e:Int)))],h:=λ_=>[],more:=0,μ:=λ_=>0,keep:=[0,1,2,6,8]}
  |15=>some {σ:=Int×Int,t:=λ⟨e,m⟩=>[(7, .sv (.int .i64 e)),(8, .sv (.int .u64 m))],pre:=λ⟨e,m⟩=>0<=e/\e<=63,h:=λ_=>[],more:=0,μ:=λ_=>0,keep:=[1,2,6]}
  |_=>none}
def zw1(n:Int):Prop:= -9223372036854775808<=n/\n<9223372036854775808
def zc1:CtR:=ctN Int (λv=>[.sv (.int .i64 v)]) zw1 (λ_=>{}) Int (λ_ r=>0<=r/\r<4294967296) (λ_ _=>{}) λ_ r=> .sv (.int .u32 r)
def z7e:CtR:=ctN Int (λv=>[.sv (.int .i64 v)]) zw1 (λ_=>{}) Int (λ_ r=>z6d r) (λ_ _=>{}) λ_ r=> .sv (.int .u64 r)
def j3c:CtR:=ctN ByteArray (λs=>[.sv (.string s)]) (λs=>s.size<1000000) (λ_=>{}) (ByteArray×Bool) (λs ⟨r,b⟩=>r.size<=s.size) (λ_ _=>{}) λ_ ⟨r,b⟩=> .tup [.sv (.string r), .sv (.bool b)]
def j7s:j3c.σ->WayF:=λs=>{
 ann:=λ_ _ _=>some {σ:=ByteArray×ByteArray,pre:=λ⟨q,u⟩=>q.size+u.size<=s.size,t:=λ⟨q,u⟩=>[(4, .sv (.string q)),(0, .sv (.string u))],h:=λ_=>[],more:=0,μ:=λ⟨q,u⟩=>u.size,keep:=[]}}
def kIx(k:ByteArray):List ByteArray->Nat
 | []=>0
 |a::l=>if qfa a k=true then kIx k l+1 else 0
def z1f(k:ByteArray) (ks:List ByteArray):Bool:=decide (ks[kIx k ks]? =some k)
def z2n(k:ByteArray) (ks:List ByteArray) (l:List PV) (w:PV):List PV:=if z1f k ks=true then l.set (kIx k ks) w else l.take (kIx k ks)++w::l.drop (kIx k ks)
def qb3(k:ByteArray) (ks:List ByteArray):List ByteArray:=if z1f k ks=true then ks else ks.take (kIx k ks)++k::ks.drop (kIx k ks)
def znw:CtR:=ctN (GV×ByteArray×GV) (λ⟨v,k,w⟩=>[v.av, .sv (.string k),w.av]) (λ⟨v,k,w⟩=>v.ks.length=v.l.length/\v.l.length<1000000) (λ⟨v,k,w⟩=>⟨true,λp=>v.ok p/\w.ok p,λ_ _ h e=>⟨GV.ok_mono h e.1,GV.ok_mono h e.2⟩⟩) GV (λ⟨v,k,w⟩ u=>u.pv= .mk v.n v.s (z2n k v.ks (GV.pvs v.l) w.pv) (qb3 k v.ks) v.b) (λ_ u=>vM u) λ_ u=>u.av
def j7r:znw.σ->WayF:=λ⟨v,k,w⟩=>{
 ann:=λ_ _ _=>some {σ:=Nat,pre:=λj=>j<=v.ks.length/\j+kIx k (v.ks.drop j)=kIx k v.ks,t:=λj=>[(7, .sv (.int .i64 (j:Int)))],h:=λ_=>[],more:=0,μ:=λj=>v.ks.length- j,keep:=[1,3,5,6]}
 cut:=λi _ _=>match i with
  |4=>some {σ:=Nat,pre:=λj=>j=kIx k v.ks/\j<=v.ks.length,t:=λj=>[(7, .sv (.int .i64 (j:Int)))],h:=λ_=>[],more:=0,μ:=λ_=>0,keep:=[1,3,5,6]}
  |8=>some {σ:=Unit,pre:=λj=>z1f k v.ks=false,t:=λj=>[],h:=λ_=>[],more:=0,μ:=λ_=>0,keep:=[1,3,5,6,7]}
  |_=>none
 pub:=λi k=>match i,k with
  |7,1=>[48]
  |10,1=>[79]
  |_,_=>[]}
def j3b:Ct:=ctP (SV×Int) (λ⟨x,t⟩=>[scA x, .sv (.int .i64 t)]) (λ_=>True) (λ_=>{}) λ⟨x,t⟩=> .sv (.bool (decide (0<=t)&&decide (t<(x.2.1:Int))))
def zok(S:List AT):Prop:=∀a∈S,1<=a.k/\a.k<=14
def zA:AT:=⟨0,mkS [],(none,0,0),[],0,(none,0,0),[],false,mkS [],0,(none,0,0),[],(none,0,0),[]⟩
def atS(S:List AT) (t:Int):AT:=(S[t.toNat]?).getD zA
section
open Go.Proofs.YtniogjgfomaicaaGreat.Rv
inductive Rs(α:Type)where
 |no (k:Nat)
 |ok (a:α)
def Rs.bind{α β:Type}:Rs α->(α->Rs β)->Rs β
 | .no k,_=> .no k
 | .ok a,f=>f a
def z0j{α β:Type} (a:α) (f:α->Rs β):(Rs.ok a).bind f=f a:=rfl
def z11{α β:Type} (k:Nat) (f:α->Rs β):(Rs.no k).bind f= .no k:=rfl
def zij{α β γ:Type} (r:Rs α) (f:α->Rs β) (g:β->Rs γ):(r.bind f).bind g=r.bind λa=>(f a).bind g:=by cases r<;>rfl
def btP(D:ByteArray) (i:Nat) (k:Int):ByteArray×Int×Int:=if k<0\/(D.size:Int)- i<k then(mkS [],2,i)else(D.extract i (i+k.toNat),0,i+k)
def txP(D:ByteArray) (i:Nat):ByteArray×Int×Int:=if(lgR D i).2.1≠0 then(mkS [],((lgR D i).2.1:Nat),((lgR D i).2.2:Nat))else if 5000<(lgR D i).1 then(mkS [],3,((lgR D i).2.2:Nat))else btP D (lgR D i).2.2 (lgR D i).1
def vlE(t:ByteArray×Int×Int):Int:=if t.2.1=0/\vld t.1=false then 2 else t.2.1
def rsT(t:ByteArray×Int×Int) (e:Int):Rs (ByteArray×Nat):=if e=0 then .ok (t.1,t.2.2.toNat)else .no (e- 1).toNat
def lgX(D:ByteArray) (i:Nat):Rs (Int×Nat):=if(lgR D i).2.1=0 then .ok ((lgR D i).1,(lgR D i).2.2)else .no ((lgR D i).2.1- 1)
def btX(D:ByteArray) (i:Nat) (k:Int):Rs (ByteArray×Nat):=rsT (btP D i k) (btP D i k).2.1
def txX(D:ByteArray) (i:Nat):Rs (ByteArray×Nat):=rsT (txP D i) (txP D i).2.1
def vlX(D:ByteArray) (i:Nat):Rs (ByteArray×Nat):=rsT (txP D i) (vlE (txP D i))
def ixX(D:ByteArray) (i:Nat) (o:Int):Rs (Int×Nat):=if chE D i o=0 then .ok ((lgR D i).1,(lgR D i).2.2)else .no (chE D i o- 1)
def pvN(n:Int):PV:= .mk n (mkS []) [] [] 0
def pvS(s:ByteArray):PV:= .mk 0 s [] [] 0
def loS(s:ByteArray):Int:=(loL s.data.toList:Nat)
def lfX(a:AT) (D:ByteArray) (i:Nat):Rs (PV×Nat):=
 if a.k=1 then .ok (pvN 0,i)else
 if a.k=2 then(btX D i 1).bind λr=>if 1<loS r.1 then .no 1 else .ok (pvN (loS r.1),r.2)else
 if a.k=3 then(lgX D i).bind λr=>if r.1< -2147483648\/2147483648<=r.1 then .no 1 else .ok (pvN (r.1 % 18446744073709551616),r.2)else
 if a.k=4 then(lgX D i).bind λr=> .ok (pvN (r.1 % 18446744073709551616),r.2)else
 if a.k=5 then(btX D i 4).bind λr=> .ok (pvN (loS r.1),r.2)else
 if a.k=6 then(btX D i 8).bind λr=> .ok (pvN (loS r.1),r.2)else
 if a.k=7 then(txX D i).bind λr=> .ok (pvS r.1,r.2)else
 if a.k=8 then(vlX D i).bind λr=> .ok (pvS r.1,r.2)else
 if a.k=10 then(ixX D i a.sys.length).bind λr=> .ok (pvN r.1,r.2)else
 if a.k=11 then(btX D i a.sz).bind λr=> .ok (pvS r.1,r.2)else .no 0
abbrev RdT:=Rs (PV×Nat×Nat)
def z6c(g:Int->Nat->Nat->RdT):List Int->List PV->Nat->Nat->Rs (List PV×Nat×Nat)
 | [],l,n,c=> .ok (l,n,c)
 |t::ts,l,n,c=>(g t n c).bind λr=>z6c g ts (l++[r.1]) r.2.1 r.2.2
abbrev StI:=List ByteArray×List PV
def itX(g:Nat->Nat->RdT) (D:ByteArray) (mp:Bool) (st:StI) (n c:Nat):Rs (StI×Nat×Nat):=
 if mp=true then(vlX D n).bind λk=>(g k.2 c).bind λr=> .ok ((qb3 k.1 st.1,z2n k.1 st.1 st.2 r.1),r.2)
 else(g n c).bind λr=> .ok ((st.1,st.2++[r.1]),r.2)
def z47(g:Nat->Nat->RdT) (D:ByteArray) (mp:Bool):Nat->StI->Nat->Nat->Rs (StI×Nat×Nat)
 |0,st,n,c=> .ok (st,n,c)
 |k+1,st,n,c=>(itX g D mp st n c).bind λr=>z47 g D mp k r.1 r.2.1 r.2.2
def hdX(D:ByteArray) (n:Nat):Rs (Int×Int×Nat):=(lgX D n).bind λr=>if 0<=r.1 then .ok (r.1, -1,r.2)else if r.1= -9223372036854775808 then .no 1 else(lgX D r.2).bind λq=>if q.1<0 then .no 1 else .ok (-r.1,q.1,q.2)
def bkE(n1:Nat) (z:Int) (n2:Nat):Bool:=decide (0<=z)&&decide ((n2:Int)- n1≠z)
def bkX(g:Nat->Nat->RdT) (D:ByteArray) (mp:Bool):Nat->StI->Nat->Nat->Rs (StI×Nat×Nat)
 |0,_,_,_=> .no 1
 |f+1,st,n,c=>(hdX D n).bind λh=>if h.1=0 then .ok (st,h.2.2,c)else(z47 g D mp h.1.toNat st h.2.2 c).bind λr=>if bkE h.2.2 h.2.1 r.2.1=true then .no 1 else bkX g D mp f r.1 r.2.1 r.2.2
def rcX(g:Int->Nat->Nat->RdT) (a:AT) (n c:Nat):RdT:=(z6c g (a.fs.map AF.ty) [] n c).bind λr=> .ok (.mk 0 (mkS []) r.1 [] 0,r.2)
def unX(g:Int->Nat->Nat->RdT) (D:ByteArray) (a:AT) (n c:Nat):RdT:=(ixX D n a.brs.length).bind λb=>(g (a.brs.getD b.1.toNat 0) b.2 c).bind λr=> .ok (.mk 0 (mkS []) [r.1] [] b.1,r.2)
def bvX(g:Int->Nat->Nat->RdT) (D:ByteArray) (a:AT) (n c:Nat):RdT:=(bkX (g a.it) D (decide (a.k=13)) (D.size+1- n) ([],[]) n c).bind λr=> .ok (.mk 0 (mkS []) r.1.2 r.1.1 0,r.2)
def vaX(g:Int->Nat->Nat->RdT) (D:ByteArray) (a:AT) (n c:Nat):RdT:=
 if a.k=9 then rcX g a n c else if a.k=14 then unX g D a n c else if a.k=12\/a.k=13 then bvX g D a n c else(lfX a D n).bind λr=> .ok (r.1,r.2,c)
def dvX(S:List AT) (D:ByteArray):Nat->Int->Nat->Nat->RdT
  |0,_,_,_=> .no 2
  | f+1,t,n,c=>if 2000<c+1 then .no 2 else match S[t.toNat]? with
    |none=> .no 0
    |some a=>vaX (λt n c=>dvX S D f t n c) D a n (c+1)
def agD(R:RdT) (v:PV) (n c e:Int):Prop:=match R with
 | .no k=>e=k+1
 | .ok r=>e=0/\v=r.1/\n=r.2.1/\c=r.2.2
def okS(S:List AT):Prop:=small S/\zok S/\∀a∈S,(∀f∈a.fs,0<=f.ty/\f.ty<S.length)/\(∀b∈a.brs,0<=b/\b<S.length)/\(a.k=12\/a.k=13->0<=a.it/\a.it<S.length)/\(a.k=11->0<=a.sz/\a.sz<1000000)
def z6w:∀(l:List UInt8) (i acc m:Nat),10<=i+m->i<=10->vdec (l.take m) i acc=vdec l i acc
  | [],i,acc,m,_,_=>by rw[List.take_nil]
  | c::l,i,acc,0,h,h2=>by
    rw[List.take_zero,vdec_ten _ _ _ (by omega),vdec_ten _ _ _ (by omega)]
  | c::l,i,acc,m+1,h,h2=>by
    rw[List.take_succ_cons,vdec,vdec]
    split
    · rfl
    split
    · rfl
    split
    · rfl
    exact z6w l (i+1) _ m (by omega) (by omega)
def zcb(D:ByteArray) (i m:Nat):(D.extract i m).data.toList=(D.data.toList.drop i).take (m- i):=by
 rw[ByteArray.data_extract,Array.toList_extract]
variable {D:ByteArray} {n:Int}
def zhn(h:z0x D n):vdec (lnS D n).data.toList 0 0=vdec (D.data.toList.drop n.toNat) 0 0:=by
 obtain⟨h0,h1,h2⟩:=h
 have hl:D.data.toList.length=D.size:=rfl
 unfold lnS
 rw[zcb]
 by_cases h10:n+10<=D.size
 ·rw[z6w _ _ _ _ (by omega) (by decide)]
 ·rw[List.take_of_length_le]
  rw[List.length_drop];omega
def z7p(h:z0x D n):lnF D n 0=((lgR D n.toNat).1,(((lgR D n.toNat).2.2:Nat):Int),(((lgR D n.toNat).2.1:Nat):Int)):=by
  have e:=zhn h
  unfold lnF lgR vval vlen verr
  rw[e,if_neg (by decide)]
  have h0:=h.1
  cases vdec (D.data.toList.drop n.toNat) 0 0 with
  | none=>
    simp only[Option.getD_none,Option.isSome_none]
    rw[if_neg (by decide)]
    have:unz 0=0:=by decide
    rw[this]
    simp;omega
  | some r=>
    simp;omega
def tk0(D:ByteArray) (n k:Int):tkF D n 0 k=if(D.size:Int)- n<k then(mkS [],n,2)else(D.extract n.toNat (n+k).toNat,n+k,0):=by unfold tkF;simp
def zxx(h:z0x D n):txF D n 0=((txP D n.toNat).1,(txP D n.toNat).2.2,(txP D n.toNat).2.1):=by
 have f:=z0m D n.toNat (by have:=h.1;have:=h.2.1;omega)
 unfold txF txP txE
 rw[z7p h]
 dsimp only
 by_cases h1:(lgR D n.toNat).2.1=0
 ·rw [h1]
  by_cases h2:(lgR D n.toNat).1<0
  ·have e:btP D (lgR D n.toNat).2.2 (lgR D n.toNat).1=(mkS [],2,(((lgR D n.toNat).2.2:Nat):Int)):=by unfold btP;rw[if_pos (.inl h2)]
   simp[h2,e,show¬5000<(lgR D n.toNat).1 by omega]
  by_cases h3:5000<(lgR D n.toNat).1
  ·simp[h2,h3]
  ·simp only[h2,h3,if_false]
   simp
   rw[tk0]
   unfold btP
   by_cases h4:(D.size:Int)- ((lgR D n.toNat).2.2:Nat)<(lgR D n.toNat).1
   ·rw[if_pos h4,if_pos (.inr h4)]
   ·rw[if_neg h4,if_neg (by omega)]
    rw[show(((lgR D n.toNat).2.2:Nat)+(lgR D n.toNat).1:Int).toNat=(lgR D n.toNat).2.2+(lgR D n.toNat).1.toNat by omega,Int.toNat_natCast]
 ·have:(((lgR D n.toNat).2.1:Nat):Int)≠0:=by omega
  simp[h1]
def ziw{n k:Int} (h:z0x D n) (hk:0<=k):tkF D n 0 k=((btP D n.toNat k).1,(btP D n.toNat k).2.2,(btP D n.toNat k).2.1):=by
 have h0:=h.1
 rw[tk0]
 unfold btP
 by_cases h4:(D.size:Int)- n<k
 ·rw[if_pos h4,if_pos (.inr (by omega))]
  simp;omega
 ·rw[if_neg h4,if_neg (by omega)]
  rw[show(n+k).toNat=n.toNat+k.toNat by omega]
  simp;omega
def zwy{n k:Int} (h:z0x D n):ixF D n 0 k=(if chE D n.toNat k=0 then(lgR D n.toNat).1 else 0,(((lgR D n.toNat).2.2:Nat):Int),((chE D n.toNat k:Nat):Int)):=by
 unfold ixF ixE chE
 rw[z7p h]
 dsimp only
 by_cases h1:(lgR D n.toNat).2.1=0
 ·rw[h1]
  by_cases h2:(lgR D n.toNat).1<0\/k<=(lgR D n.toNat).1
  ·simp[h2]
  ·simp[h2]
 ·have:¬(((lgR D n.toNat).2.1:Nat):Int)=0:=by omega
  simp[h1]
def z1e{i:Nat} {k:Int} (h:i<=D.size):(0<=(btP D i k).2.1/\(btP D i k).2.1<=2)/\((i:Int)<=(btP D i k).2.2/\(btP D i k).2.2<=D.size)/\((btP D i k).2.1=0->0<=k/\(btP D i k).2.2=i+k/\((btP D i k).1.size:Int)=k):=by
 unfold btP
 split
 ·refine⟨⟨by show(0:Int)<=2;decide,by show(2:Int)<=2;decide⟩,⟨Int.le_refl _,by show(i:Int)<=_;omega⟩,λh=>absurd (show(2:Int)=0 from h) (by decide)⟩
 ·refine⟨⟨by show(0:Int)<=0;decide,by show(0:Int)<=2;decide⟩,⟨by show(i:Int)<=i+k;omega,by show(i:Int)+k<=_;omega⟩,λ_=>⟨by omega,rfl,?_⟩⟩
  show((D.extract i (i+k.toNat)).size:Int)=k
  rw[ByteArray.size_extract];omega
def z27{i:Nat} (h:i<=D.size):(0<=(txP D i).2.1/\(txP D i).2.1<=3)/\((i:Int)<=(txP D i).2.2/\(txP D i).2.2<=D.size)/\((txP D i).1.size:Int)<=5000:=by
 have f:=z0m D i h
 unfold txP
 split
 ·exact⟨⟨by show(0:Int)<=(_:Nat);omega,by show((_:Nat):Int)<=3;omega⟩,⟨by show(i:Int)<=(_:Nat);omega,by show((_:Nat):Int)<=_;omega⟩,by show((0:Nat):Int)<=5000;decide⟩
 split
 ·exact⟨⟨by show(0:Int)<=3;decide,by show(3:Int)<=3;decide⟩,⟨by show(i:Int)<=(_:Nat);omega,by show((_:Nat):Int)<=_;omega⟩,by show((0:Nat):Int)<=5000;decide⟩
 ·have g:=z1e (k:=(lgR D i).1) (show(lgR D i).2.2<=D.size by omega)
  refine⟨⟨g.1.1,by omega⟩,⟨by omega,g.2.1.2⟩,?_⟩
  by_cases h0:(btP D (lgR D i).2.2 (lgR D i).1).2.1=0
  ·have:=g.2.2 h0;omega
  ·unfold btP at h0⊢
   split
   ·show((0:Nat):Int)<=5000;decide
   ·rename_i hh;rw[if_neg hh]at h0;exact absurd rfl h0
end
section
variable (x0 x1 x2:Int) (x3:Nat) (x4:Int×Int)
 abbrev j0l:=Jb ((↑x3:Int)- 1)/\∃(i0:Nat),x0=x0/\x1=x1/\(↑i0:Int)=(↑x3:Int)- 1/\x2=x2/\i0<=63/\i0<x3/\True
 def zfm:=0<=x4.1/\x4.1<=63
 def jd2:=Jb (x0- (↑x3:Int))/\0<=x0- (↑x3:Int)/\∃(i0:Int×Int),x0=x0/\i0.1=(↑x3:Int)/\x1=x1/\i0.2=shP BinOp.shl u64 x2 (x0- (↑x3:Int))/\(zfm i0)/\True
 abbrev zrz:=shP BinOp.shl u64 1 ((↑x3:Int)- x0)
 def zry:=∃(i0:Int×Int),x0=x0/\i0.1=(↑x3:Int)/\x1=x1/\i0.2=IntKind.wrap u64 (shP BinOp.shr u64 x2 ((↑x3:Int)- x0)+1)/\(zfm i0)/\True
 def zs0:=∃(i0:Int×Int),x0=x0/\i0.1=(↑x3:Int)/\x1=x1/\i0.2=shP BinOp.shr u64 x2 ((↑x3:Int)- x0)/\(zfm i0)/\True
 def jd0:=(2:Int)≠0/\Ji (Int.tmod (shP BinOp.shr u64 x0 ((↑x3:Int)- x1)) (2:Int)=1) (zry x1 x2 x0 x3) (zs0 x1 x2 x0 x3)
 def jcz:=Ji (Int.tmod x0 (zrz x1 x3)=shP BinOp.shl u64 1 ((↑x3:Int)- x1- 1)) (jd0 x0 x1 x2 x3) (zs0 x1 x2 x0 x3)
 def jcy:=Jb ((↑x3:Int)- x0)/\Jb ((↑x3:Int)- x0- 1)/\0<=(↑x3:Int)- x0- 1/\0<=(↑x3:Int)- x0/\shP BinOp.shl u64 1 ((↑x3:Int)- x0)≠0/\0<=(↑x3:Int)- x0/\Ji (shP BinOp.shl u64 1 ((↑x3:Int)- x0- 1)<Int.tmod x1 (zrz x0 x3)) (zry x0 x2 x1 x3) (jcz x1 x0 x2 x3)
 def jd1:=Jb (x4.1+x0)/\0<=x1/\0<=x1/\∃(i0:Int),i0=IntKind.wrap u64 (shP BinOp.shl u64 (IntKind.wrap u64 (x4.1+x0)) x1+IntKind.wrap u64 (x4.2- shP BinOp.shl u64 1 x1))/\z6d i0/\True
 def jcx:=(Ji ((↑x3:Int)<=x0) (jd2 x0 x1 x2 x3) (jcy x0 x2 x1 x3))/\∀(i5:Int×Int),zfm i5->jd1 x1 x0 i5
 def jcw:=(∃(i0:Nat),x0=x0/\x1=x1/\(↑i0:Int)=(↑x3:Int)/\x2=x2/\i0<=63/\True)/\∀(i1:Nat),i1<=63->jcx x1 x2 x0 i1
 def jcv:=0<=(↑x3:Int)/\Ji (shP BinOp.shr u64 x0 (↑x3:Int)=0) (j0l x0 x1 x2 x3) (jcw x0 x1 x2 x3)
 def jcu:=(∃(i0:Nat),x0=x0/\x1=x1/\(↑i0:Int)=63/\x2=x2/\i0<=63/\True)/\∀(i1:Nat),i1<=63->jcv x0 x1 x2 i1
 def jct:=Ji (x0=0) (∃(i0:Int),i0=0/\z6d i0/\True) (jcu x0 x1 x2)
end
def zhv(v f b:Int):qm3 P (qh2 []) (qi5 []) Go.Proofs.Tryz.f125 zc6 (zy8) ⟨v,f,b⟩=(z6d v/\1<=f/\f<=62/\0<=b/\b<=2000->jct v f b):=by kernel_rfl
def zox:=λv f b=>Eq.trans (zhv v f b) (by delta Ji Jb Jt Jf j0l zfm jd2 zrz zry zs0 jd0 jcz jcy jd1 jcx jcw jcv jcu jct;exact rfl)
section
variable (x0:Int) (x1:Int×Int×Int) (x2:Prop)
 abbrev j6f:=x1.2.1=23/\x1.2.2=127/\(z6d x1.1/\1<=x1.2.1/\x1.2.1<=62/\0<=x1.2.2/\x1.2.2<=2000)/\x2
 def jd4:=Jb (x0+1)/\∃(i0:Int),i0=IntKind.wrap i64 ((0:Int)- (x0+1))/\∃(i1:Int×Int×Int),i1.1=IntKind.wrap u64 (IntKind.wrap u64 i0+1)/\j6f i1 (∀(i2:Int),z6d i2->∃(i3:Int),i3=qbu BinOp.or u32 2147483648 (IntKind.wrap u32 i2)/\(0<=i3/\i3<4294967296)/\True)
 def jd3:=Ji (x0<0) (jd4 x0) (∃(i4:Int×Int×Int),i4.1=IntKind.wrap u64 x0/\j6f i4 (∀(i5:Int),z6d i5->∃(i6:Int),i6=IntKind.wrap u32 i5/\(0<=i6/\i6<4294967296)/\True))
end
def zck(v:Int):qm3 P (qh2 []) (qi5 [(125,zc6)]) Go.Proofs.Tryz.f108 zc1 (λ_=>{}) v=(zw1 v->jd3 v):=by kernel_rfl
def zh2:=λv=>Eq.trans (zck v) (by delta Ji Jb Jt Jf j6f jd4 jd3;exact rfl)
section
variable (x0:Int) (x1:Int×Int×Int) (x2:Prop)
 abbrev j6g:=x1.2.1=52/\x1.2.2=1023/\(z6d x1.1/\1<=x1.2.1/\x1.2.1<=62/\0<=x1.2.2/\x1.2.2<=2000)/\x2
 def jd6:=Jb (x0+1)/\∃(i0:Int),i0=IntKind.wrap i64 ((0:Int)- (x0+1))/\∃(i1:Int×Int×Int),i1.1=IntKind.wrap u64 (IntKind.wrap u64 i0+1)/\j6g i1 (∀(i2:Int),z6d i2->∃(i3:Int),i3=qbu BinOp.or u64 9223372036854775808 i2/\z6d i3/\True)
 def jd5:=Ji (x0<0) (jd6 x0) (∃(i4:Int×Int×Int),i4.1=IntKind.wrap u64 x0/\j6g i4 (∀(i5:Int),z6d i5->∃(i6:Int),i6=i5/\z6d i6/\True))
end
def zah(v:Int):qm3 P (qh2 []) (qi5 [(125,zc6)]) Go.Proofs.Tryz.f109 z7e (λ_=>{}) v=(zw1 v->jd5 v):=by kernel_rfl
def zce:=λv=>Eq.trans (zah v) (by delta Ji Jb Jt Jf j6g jd6 jd5;exact rfl)
def zdf(s:ByteArray):qm2 P (qh2 [(96,z35)]) Go.Proofs.Tryz.f126 z35 (λ_=>{}) s=(ByteArray.size s<(9223372036854775808:Nat)->s=s/\ByteArray.size s<(9223372036854775808:Nat)/\(↑(ptV s):Int)=(↑(ptV s):Int)/\(↑(frt s):Int)=(↑(frt s):Int)/\True):=by kernel_rfl
section
variable (x0:ByteArray) (x1:ByteArray×ByteArray)
 abbrev j6h:=∃(i0:ByteArray×Bool),i0.1=mkS []/\i0.2=false/\size i0.1<=size x0/\True
 def jda:=Ji (255<(↑(ptV x1.2):Int)) (j6h x0) (∃i1,size i1=1/\qi8 [int u8 (IntKind.wrap u8 (↑(ptV x1.2):Int))] 0 (q1h i1)/\size x1.1+size i1<=9223372036854775807/\(0<=(↑(frt x1.2):Int)/\(↑(frt x1.2):Int)<=(↑(size x1.2):Int))/\∃(i2:ByteArray×ByteArray),i2.2=ByteArray.extract x1.2 (toNat (↑(frt x1.2):Int)) (size x1.2)/\i2.1=x1.1++i1/\size i2.1+size i2.2<=size x0/\size i2.2<size x1.2/\True)
 def jd9:=x1.2=x1.2/\size x1.2<9223372036854775808/\Ji ((↑(frt x1.2):Int)=0) (j6h x0) (jda x0 x1)
 def jd8:=Ji (0<(↑(size x1.2):Int)) (jd9 x0 x1) (∃(i4:ByteArray×Bool),i4.1=x1.1/\i4.2=true/\size i4.1<=size x0/\True)
 def jd7:=(∃(i0:ByteArray×ByteArray),i0.2=x0/\i0.1=mkS []/\size i0.1+size i0.2<=size x0/\True)/\∀(i1:ByteArray×ByteArray),size i1.1+size i1.2<=size x0->jd8 x0 i1
end
def zpc(s:ByteArray):qm3 P (qh2 [(126,z35)]) (qi5 []) Go.Proofs.Tryz.f110 j3c (j7s) s=(size s<1000000->jd7 s):=by kernel_rfl
def zxc:=λs=>Eq.trans (zpc s) (by delta Ji Jt Jf j6h jda jd9 jd8 jd7;exact rfl)
section
variable (x0:ByteArray) (x1 x2:GV) (x3:Nat) (x4:Prop) (x5:Nat->Option Obj) (x6:Nat) (x7:Option Addr) (x8 x9:List Value) (x10:GV)
 abbrev z3m:=True/\GV.ok x1 x5/\GV.ok x2 x5
 def zs1:=GV.n x1=GV.n x1/\GV.s x1=GV.s x1/\(GV.x x1).1=(GV.x x1).1/\(GV.x x1).2.1=(GV.x x1).2.1/\(GV.x x1).2.2=(GV.x x1).2.2/\(GV.y x1).1=(GV.y x1).1/\(GV.y x1).2.1=(GV.y x1).2.1/\(GV.y x1).2.2=(GV.y x1).2.2/\GV.b x1=GV.b x1/\x4
 def zw9:=zs1 x1 (zs1 x2 ((∀i0,z3m x1 x2 i0->z3m x1 x2 i0)/\x4))
 def zk8:=x3<=length (GV.ks x1)/\x3+kIx x0 (drop x3 (GV.ks x1))=kIx x0 (GV.ks x1)
 abbrev z72:=(GV.y x1).2.1
 abbrev zfo:=(↑x3:Int)<(↑(z72 x1):Int)
 def zs4:=(∀i0,z3m x1 x2 i0->q3p i0 (adr (GV.y x1).1 (toNat (↑x3:Int)*1)) [string x0])
 def j0m:=Jb ((↑x3:Int)+1)/\∃(i0:Nat),x0=x0/\(↑i0:Int)=(↑x3:Int)+1/\zw9 x1 x2 ((zk8 x0 x1 i0)/\length (GV.ks x1)- i0<length (GV.ks x1)- x3/\True)
 def zs5:=∃(i0:Nat),x0=x0/\(↑i0:Int)=(↑x3:Int)/\zw9 x1 x2 ((i0=kIx x0 (GV.ks x1)/\i0<=length (GV.ks x1))/\True)
 def jdg:=(0<=(↑x3:Int)/\zfo x1 x3)/\(GV.y x1).1≠noA/\∃i0,zs4 i0 x1 x2 x3/\(qfa i0 x0=true->j0m x0 x1 x2 x3)/\(qfa i0 x0=false->zs5 x0 x1 x2 x3)
 abbrev jdf:=Ji (zfo x1 x3) (jdg x0 x1 x2 x3) (zs5 x0 x1 x2 x3)
 abbrev z85:=(GV.x x1).2.1
 abbrev z64:=(GV.x x1).2.2
 abbrev z63:=(GV.y x1).2.2
 def j6i:=(z3m x1 x2 x5)/\(0:Nat)+(GV.x x1).2.1<=x3/\qik x5 x7 (take (((0:Nat)+(GV.x x1).2.1)*nat_lit 5) (spl ([]++x8) ((0:Nat)+toNat (↑x6:Int)*5) [int u64 (GV.n x2),string (GV.s x2),slice (GV.x x2).1 (z85 x2) (z64 x2),slice (GV.y x2).1 (z72 x2) (z63 x2),int i64 (GV.b x2)]))
 def zs3:=GV.b x1=GV.b x2/\GV.pv x1=PV.mk (GV.n x2) (GV.s x2) (z2n x0 (GV.ks x2) (GV.pvs (GV.l x2)) (GV.pv x10)) (qb3 x0 (GV.ks x2)) (GV.b x2)/\x4
 def jde:=(0<=(↑x3:Int)/\zfo x1 x3)/\(GV.y x1).1≠noA/\∃i0,zs4 i0 x1 x2 x3/\Ji (i0=x0) (∃i2,length i2=(GV.x x1).2.1*5/\(∀i3,z3m x1 x2 i3->qik i3 (GV.x x1).1 i2)/\qmd i2/\((0:Nat)+(GV.x x1).2.1)*80<=140737488355328/\(0<=(↑x3:Int)/\(↑x3:Int)<(↑((0:Nat)+(GV.x x1).2.1):Int))/\(0:Nat)+toNat (↑x3:Int)*5+length [int u64 (GV.n x2),string (GV.s x2),slice (GV.x x2).1 (z85 x2) (z64 x2),slice (GV.y x2).1 (z72 x2) (z63 x2),int i64 (GV.b x2)]<=length ([]++i2)/\∀(i4 i5 i6:Nat) (i7:Option Addr) (i8 i9:Nat),(∃i10,j6i x1 x2 i9 i10 x3 i7 i2)->∃(i11:GV),GV.n i11=GV.n x1/\GV.s i11=GV.s x1/\(GV.x i11).1=i7/\(GV.x i11).2.1=0+(GV.x x1).2.1/\(GV.x i11).2.2=i9/\(GV.y i11).1=(GV.y x1).1/\(GV.y i11).2.1=(GV.y x1).2.1/\(GV.y i11).2.2=(GV.y x1).2.2/\zs3 x0 i11 x1 ((∀i12,j6i x1 x2 i9 i12 x3 i7 i2->GV.ok i11 i12)/\True) x2) (∃(i13:Unit),x0=x0/\(↑x3:Int)=(↑x3:Int)/\zw9 x1 x2 (z1f x0 (GV.ks x1)=false/\True))
 abbrev zfn:=nat_lit 0+(x3- nat_lit 0)+nat_lit 1
 abbrev zs6:=slice (GV.y x1).1 (z72 x1) (z63 x1)
 abbrev z84:=slice (GV.x x1).1 (z85 x1) (z64 x1)
 def j47:=(z3m x1 x2 x5)/\nat_lit 0+(x3- nat_lit 0)+nat_lit 1+((GV.x x1).2.1- x3)<=x6/\qik x5 x7 (take ((nat_lit 0+(x3- nat_lit 0)+nat_lit 1+((GV.x x1).2.1- x3))*nat_lit 5) ([]++x8++[int u64 (GV.n x2),string (GV.s x2),slice (GV.x x2).1 (z85 x2) (z64 x2),slice (GV.y x2).1 (z72 x2) (z63 x2),int i64 (GV.b x2)]++x9))
 def zs2:=nat_lit 0+(x3- nat_lit 0)+nat_lit 1+((GV.y x1).2.1- x3)<=x6/\qik x5 x7 (take ((nat_lit 0+(x3- nat_lit 0)+nat_lit 1+((GV.y x1).2.1- x3))*nat_lit 1) ([]++x8++[string x0]++x9))
 def jdd:=(GV.y x1).2.1<=(GV.y x1).2.2/\(0<=(↑x3:Int)/\(↑x3:Int)<=(↑(z63 x1):Int))/\∃i0,length i0=(x3- nat_lit 0)*1/\(∀i1,z3m x1 x2 i1->qik i1 (slA (GV.y x1).1 (z63 x1) (nat_lit 0) 1) i0)/\qmd i0/\(nat_lit 0+(x3- nat_lit 0))*16<=140737488355328/\length ([]++i0)=(nat_lit 0+(x3- nat_lit 0))*1/\(zfn x3)*16<=140737488355328/\(GV.y x1).2.1<=(GV.y x1).2.2/\(0<=(↑x3:Int)/\(↑x3:Int)<=(↑(z72 x1):Int))/\length ([]++i0++[string x0])=(zfn x3)*1/\∃i2,length i2=((GV.y x1).2.1- x3)*1/\(∀i3,z3m x1 x2 i3->qik i3 (slA (GV.y x1).1 (z63 x1) x3 1) i2)/\qmd i2/\(nat_lit 0+(x3- nat_lit 0)+nat_lit 1+((GV.y x1).2.1- x3))*16<=140737488355328/\AV.sv (zs6 x1)=AV.sv (zs6 x1)/\AV.sv (zs6 x1)=AV.sv (zs6 x1)/\(GV.x x1).2.1<=(GV.x x1).2.2/\(0<=(↑x3:Int)/\(↑x3:Int)<=(↑(z64 x1):Int))/\∃i4,length i4=(x3- nat_lit 0)*5/\(∀i5,z3m x1 x2 i5->qik i5 (slA (GV.x x1).1 (z64 x1) (nat_lit 0) 5) i4)/\qmd i4/\(nat_lit 0+(x3- nat_lit 0))*80<=140737488355328/\length ([]++i4)=(nat_lit 0+(x3- nat_lit 0))*5/\(zfn x3)*80<=140737488355328/\(GV.x x1).2.1<=(GV.x x1).2.2/\(0<=(↑x3:Int)/\(↑x3:Int)<=(↑(z85 x1):Int))/\length ([]++i4++[int u64 (GV.n x2),string (GV.s x2),slice (GV.x x2).1 (z85 x2) (z64 x2),slice (GV.y x2).1 (z72 x2) (z63 x2),int i64 (GV.b x2)])=(zfn x3)*5/\∃i6,length i6=((GV.x x1).2.1- x3)*5/\(∀i7,z3m x1 x2 i7->qik i7 (slA (GV.x x1).1 (z64 x1) x3 5) i6)/\qmd i6/\(nat_lit 0+(x3- nat_lit 0)+nat_lit 1+((GV.x x1).2.1- x3))*80<=140737488355328/\AV.agg [AV.sv (int u64 (GV.n x2)),AV.sv (string (GV.s x2)),AV.sv (z84 x2),AV.sv (zs6 x2),AV.sv (int i64 (GV.b x2))]=AV.agg [AV.sv (int u64 (GV.n x2)),AV.sv (string (GV.s x2)),AV.sv (z84 x2),AV.sv (zs6 x2),AV.sv (int i64 (GV.b x2))]/\AV.sv (z84 x1)=AV.sv (z84 x1)/\AV.sv (z84 x1)=AV.sv (z84 x1)/\∀(i8 i9 i10:Nat) (i11:Option Addr) (i12 i13:Nat),(∃i14,j47 x1 x2 x3 i14 i13 i11 i4 i6)->∀(i15 i16 i17:Nat) (i18:Option Addr) (i19 i20:Nat),(∃i21,(j47 x1 x2 x3 i21 i13 i11 i4 i6)/\zs2 x0 x1 x3 i21 i20 i18 i0 i2)->∃(i22:GV),GV.n i22=GV.n x1/\GV.s i22=GV.s x1/\(GV.x i22).1=i11/\(GV.x i22).2.1=nat_lit 0+(x3- nat_lit 0)+nat_lit 1+((GV.x x1).2.1- x3)/\(GV.x i22).2.2=i13/\(GV.y i22).1=i18/\(GV.y i22).2.1=nat_lit 0+(x3- nat_lit 0)+nat_lit 1+((GV.y x1).2.1- x3)/\(GV.y i22).2.2=i20/\zs3 x0 i22 x1 ((∀i23,(j47 x1 x2 x3 i23 i13 i11 i4 i6)/\zs2 x0 x1 x3 i23 i20 i18 i0 i2->GV.ok i22 i23)/\True) x2
 def jdc:=(Ji (zfo x1 x3) (jde x0 x1 x2 x3) (∃(i15:Unit),x0=x0/\(↑x3:Int)=(↑x3:Int)/\zw9 x1 x2 (z1f x0 (GV.ks x1)=false/\True)))/\∀(i17:Unit),z1f x0 (GV.ks x1)=false->jdd x0 x1 x2 x3
 def jdb:=((∃(i0:Nat),x0=x0/\(↑i0:Int)=0/\zw9 x1 x2 ((zk8 x0 x1 i0)/\True))/\∀(i2:Nat),zk8 x0 x1 i2->jdf x0 x1 x2 i2)/\∀(i11:Nat),i11=kIx x0 (GV.ks x1)/\i11<=length (GV.ks x1)->jdc x0 x1 x2 i11
end
def zpa(v:GV) (k:ByteArray) (w:GV):qm3 P (qh2 []) (qi5 []) Go.Proofs.Tryz.f24 znw (j7r) ⟨v,k,w⟩=(length (GV.ks v)=length (GV.l v)/\length (GV.l v)<1000000->(∃(p:Pub),z3m v w p)->jdb k v w):=by kernel_rfl
def put_eq:=λv k w=>Eq.trans (zpa v k w) (by delta Ji Jb Jt Jf z3m zs1 zw9 zk8 z72 zfo zs4 j0m zs5 jdg jdf z85 z64 z63 j6i zs3 jde zfn zs6 z84 j47 zs2 jdd jdc jdb;exact rfl)
def j5b(x:Int):IntKind.u64.wrap x=x % 18446744073709551616:=by
 unfold IntKind.wrap;simp[IntKind.bits,IntKind.signed]
def zew(x:Int):IntKind.u32.wrap x=x % 4294967296:=by
 unfold IntKind.wrap;simp[IntKind.bits,IntKind.signed]
def z28(x:Int):z6d (IntKind.u64.wrap x):=by
 rw[j5b];unfold z6d;omega
def zpm:∀k:Nat,k<64->shP .shl .u64 1 (k:Int)≠0:=by decide+kernel
def jiq(v:Int):shP .shr .u64 v 0=v:=by
 show v.fdiv (2 ^ min (0:Int).toNat IntKind.u64.bits)=v
 rw[show min (0:Int).toNat IntKind.u64.bits=0 from rfl]
 show v.fdiv 1=v
 exact Int.fdiv_one v
def jih(c:Nat) (h:c<256):q1h (mkS [c])=[.int .u8 (c:Nat)]:=by
 simp[q1h,mkS]
 omega
def qd1:q22 P 125 zc6:=by
 refine qlb mixed (qee qlq) (qf7 qlp) (W:=zy8) Go.Proofs.Tryz.func125 (by kernel_rfl) (show 1<=1 by decide) (show 1<=1 by decide) (λs=>by kernel_rfl) λ⟨(v:Int),(f:Int),(b:Int)⟩=>(zox v f b).mpr ?_
 rintro⟨hv,hf1,hf2,hb1,hb2⟩
 simp only[sbS,exists_const,forall_const,Int.toNat_natCast]
 have nz:∀e:Nat,¬v=0->shP .shr .u64 v (e:Int)=0->e≠0:=λe h0 hs h=>by
  subst h;rw[show((0:Nat):Int)=0 from rfl,jiq]at hs;exact h0 hs
 refine⟨λh0=>⟨0,rfl,by unfold z6d;omega⟩,λh0=>⟨⟨63,rfl,by omega⟩,λe he=>⟨by omega,λhs=> ?_,λhs=>⟨⟨e,rfl,he⟩,λk hk=> ?_⟩⟩⟩⟩
 ·have:=nz e h0 hs
  exact⟨⟨by omega,by omega⟩,e- 1,by omega,by omega,by omega⟩
 ·clear nz
  have hk0:(0:Int)<=k:=by omega
  refine⟨⟨λhle=>⟨⟨by omega,by omega⟩,by omega,⟨k,_⟩,rfl,rfl,hk0,by omega⟩,λhgt=>⟨⟨by omega,by omega⟩,⟨by omega,by omega⟩,by omega,by omega,?_,by omega,λ_=>⟨⟨k,_⟩,rfl,rfl,hk0,by omega⟩,λ_=>⟨λ_=>⟨by decide,λ_=>⟨⟨k,_⟩,rfl,rfl,hk0,by omega⟩,λ_=>⟨⟨k,_⟩,rfl,rfl,hk0,by omega⟩⟩,λ_=>⟨⟨k,_⟩,rfl,rfl,hk0,by omega⟩⟩⟩⟩,?_⟩
  ·obtain⟨m,hm⟩:=Int.eq_ofNat_of_zero_le (show 0<=(k:Int)- f by omega)
   rw[hm];exact zpm m (by omega)
  ·rintro⟨a,m⟩ ⟨ha1,ha2⟩
   simp only at ha1 ha2⊢
   exact⟨⟨by omega,by omega⟩,by omega,by omega,_,rfl,z28 _⟩
def zh3:q22 P 108 zc1:=by
 refine qlb mixed (qee qlq) (qf7 (qig qd1 qlp)) (W:=λ_=>{}) Go.Proofs.Tryz.func108 (by kernel_rfl) (show 1<=1 by decide) (show 1<=1 by decide) (λs=>by kernel_rfl) λ(v:Int)=>(zh2 v).mpr ?_
 rintro⟨hv1,hv2⟩
 simp only[sbS,exists_const,forall_const,Int.toNat_natCast]
 refine⟨λh=>⟨⟨by omega,by omega⟩,_,rfl,⟨_,23,127⟩,rfl,rfl,rfl,⟨z28 _,(by show(1:Int)<=23;decide),(by show(23:Int)<=62;decide),(by show(0:Int)<=127;decide),(by show(127:Int)<=2000;decide)⟩,λb hb=>⟨_,rfl,?_⟩⟩,λh=>⟨⟨_,23,127⟩,rfl,rfl,rfl,⟨z28 _,(by show(1:Int)<=23;decide),(by show(23:Int)<=62;decide),(by show(0:Int)<=127;decide),(by show(127:Int)<=2000;decide)⟩,λb hb=>⟨_,rfl,?_⟩⟩⟩
 ·show 0<=IntKind.u32.wrap _/\IntKind.u32.wrap _<4294967296
  rw[zew];omega
 ·rw[zew];omega
def zcf:q22 P 109 z7e:=by
 refine qlb mixed (qee qlq) (qf7 (qig qd1 qlp)) (W:=λ_=>{}) Go.Proofs.Tryz.func109 (by kernel_rfl) (show 1<=1 by decide) (show 1<=1 by decide) (λs=>by kernel_rfl) λ(v:Int)=>(zce v).mpr ?_
 rintro⟨hv1,hv2⟩
 simp only[sbS,exists_const,forall_const,Int.toNat_natCast]
 refine⟨λh=>⟨⟨by omega,by omega⟩,_,rfl,⟨_,52,1023⟩,rfl,rfl,rfl,⟨z28 _,(by show(1:Int)<=52;decide),(by show(52:Int)<=62;decide),(by show(0:Int)<=1023;decide),(by show(1023:Int)<=2000;decide)⟩,λb hb=>⟨_,rfl,?_⟩⟩,λh=>⟨⟨_,52,1023⟩,rfl,rfl,rfl,⟨z28 _,(by show(1:Int)<=52;decide),(by show(52:Int)<=62;decide),(by show(0:Int)<=1023;decide),(by show(1023:Int)<=2000;decide)⟩,λb hb=>⟨b,rfl,hb⟩⟩⟩
 exact z28 _
def zdg:q5k P 126 z35:=by
 refine qm5 mixed (qee (qih z9i qlq)) (W:=λ_=>{}) Go.Proofs.Tryz.func126 (by kernel_rfl) (by decide) (by decide) (λs=>by kernel_rfl) λ(s:ByteArray)=>(zdf s).mpr ?_
 intro h
 exact⟨rfl,h,rfl,rfl,trivial⟩
def zxd:q22 P 110 j3c:=by
 refine qlb mixed (qee (qih zdg qlq)) (qf7 qlp) (W:=j7s) Go.Proofs.Tryz.func110 (by kernel_rfl) (show 1<=1 by decide) (show 1<=1 by decide) (λs=>by kernel_rfl) λ(s:ByteArray)=>(zxc s).mpr ?_
 intro hs
 simp only[sbS,exists_const,forall_const,Int.toNat_natCast]
 refine⟨⟨⟨mkS [],s⟩,rfl,rfl,by show 0+s.size<=_;omega⟩,?_⟩
 rintro⟨q,u⟩ hq
 simp only at hq⊢
 refine⟨λh=>⟨by omega,λh0=>⟨⟨mkS [],false⟩,rfl,rfl,Nat.zero_le _⟩,λh0=>⟨λhp=>⟨⟨mkS [],false⟩,rfl,rfl,Nat.zero_le _⟩,λhp=> ?_⟩⟩,λh=>⟨⟨q,true⟩,rfl,rfl,by show q.size<=_;omega⟩⟩
 have hf:=zcn u
 have hc:IntKind.u8.wrap (ptV u:Int)=((ptV u:Nat):Int):=by rw[zjc];omega
 rw[hc]
 have hz:(mkS [ptV u]).size=1:=rfl
 refine⟨mkS [ptV u],rfl,?_,by omega,⟨by omega,by omega⟩,⟨q++mkS [ptV u],u.extract (frt u) u.size⟩,rfl,rfl,?_,?_⟩
 ·intro j w hj
  rw[jih _ (by omega)]at hj;rw[Nat.zero_add];exact hj
 ·show(q++mkS [ptV u]).size+(u.extract (frt u) u.size).size<=s.size
  rw[ByteArray.size_append,ByteArray.size_extract,hz];omega
 ·show(u.extract (frt u) u.size).size<u.size
  rw[ByteArray.size_extract];omega
section
def zgi{x:Addr} (h:x.spot=none) (k:Nat):(x.add k).spot=none:=by
 unfold Addr.add;split
 ·exact h
 ·rfl
variable {a:Option Addr}
def zwb(h:Pl a) (c l sz:Nat):Pl (slA a c l sz):=trivial
def z3w{p:Pub} {c l sz:Nat} {vs us:List Value} (h:qik p a vs) (hl:l<=c) (hlen:vs.length<=c*sz) (hu:∀(j:Nat) v,us[j]? =some v->vs[l*sz+j]? =some v):qik p (slA a c l sz) us:=by
  have hp:Pl a:=Sen.rowP_Pl h
  cases us with
  |nil=>exact .inl ⟨rfl,zwb hp c l sz⟩
  | cons u us=>
    have h0:=hu 0 u rfl
    rcases h with⟨rfl,_⟩|⟨x,rfl,hs,hc⟩
    · simp at h0
    · have hne:c≠l:=λe=>by
        subst e
        have:=(List.getElem?_eq_some_iff.mp h0).1
        omega
      refine .inr ⟨x.add (l*sz),?_,zgi hs _,λj v hj=> ?_⟩
      · unfold slA;rw[if_neg hne];rfl
      · have:=hc (l*sz+j) v (hu j v hj)
        rw[Addr.add_add];exact this
def GV.oks_iff:∀{l:List GV} {p:Pub},GV.oks l p↔∀v∈l,v.ok p
  | [],p=>by unfold GV.oks;simp
  | v::l,p=>by
    unfold GV.oks
    rw[GV.oks_iff (l:=l)]
    simp
variable {α:Type}
def z2w{f:α->List Value} (l:List α) (k:Nat):z00 f l=z00 f (l.take k)++z00 f (l.drop k):=by
 rw[←z04,List.take_append_drop]
def z9m{f:α->List Value} (l:List α) (k:Nat):∀(j:Nat) v,(z00 f (l.take k))[j]? =some v->(z00 f l)[j]? =some v:=λj v h=>by
 rw[z2w l k,List.getElem?_append_left (List.getElem?_eq_some_iff.mp h).1];exact h
def z9o{f:α->List Value} {e:Nat} (hf:∀x,(f x).length=e) (l:List α) (k:Nat) (hk:k<=l.length):∀(j:Nat) v,(z00 f (l.drop k))[j]? =some v->(z00 f l)[k*e+j]? =some v:=λj v h=>by
 rw[z2w l k]
 have:(z00 f (l.take k)).length=k*e:=by rw[z01 hf,List.length_take,Nat.min_eq_left hk]
 rw[←this,List.getElem?_append_right (Nat.le_add_right _ _),Nat.add_sub_cancel_left];exact h
def z26{α:Type} {f:α->List Value} (h:∀x,∀v∈f x,v.oneCell'=true):∀l,qmd (z00 f l)
  | []=>λv hv=>by cases hv
  | x::l=>λv hv=>by
    rcases List.mem_append.1 hv with hv|hv
    · exact h x v hv
    · exact z26 h l v hv
def zmi:∀(x:ByteArray),∀v∈txV x,v.oneCell'=true:=λx v hv=>by
 simp[txV]at hv;subst hv;rfl
def zd9:∀(x:GV),∀v∈x.cells,v.oneCell'=true:=λx v hv=>by
 simp[GV.cells]at hv
 rcases hv with rfl|rfl|rfl|rfl|rfl<;>rfl
def zme(k:ByteArray):∀l,kIx k l<=l.length
  | []=>Nat.zero_le _
  | a::l=>by
    rw[kIx];split
    · have:=zme k l;rw[List.length_cons];omega
    · exact Nat.zero_le _
def z7t:∀(xs A B C:List Value),B.length=xs.length->spl (A++(B++C)) A.length xs=A++(xs++C)
  | [],A,B,C,h=>by
    have:B=[]:=List.length_eq_zero_iff.mp h
    subst this;rfl
  |x::xs,A,[],C,h=>by simp at h
  | x ::xs,A,b::B,C,h=>by
    rw[spl]
    have e:(A++(b::B++C)).set A.length x=(A++[x])++(B++C):=by
      clear h
      induction A with
      |nil=>rfl
      |cons a A ih=>rw[List.cons_append,List.length_cons,List.set_cons_succ,ih];rfl
    rw[e,show A.length+1=(A++[x]).length by simp,z7t xs (A++[x]) B C (by simpa using h)]
    simp
def z9n{f:α->List Value} {e:Nat} (hf:∀x,(f x).length=e) (l:List α) (k:Nat) (hk:k<l.length) (x:α):z00 f (l.set k x)=spl (z00 f l) (0+k*e) (f x):=by
 rw[List.set_eq_take_append_cons_drop,if_pos hk,z04]
 show _++(f x++_)=_
 have h1:z00 f l=z00 f (l.take k)++(f l[k]++z00 f (l.drop (k+1))):=by
  conv=>lhs;rw[z2w l k,List.drop_eq_getElem_cons hk]
  rfl
 have h2:(z00 f (l.take k)).length=k*e:=by rw[z01 hf,List.length_take,Nat.min_eq_left (Nat.le_of_lt hk)]
 rw[h1,Nat.zero_add,←h2]
 exact(z7t _ _ _ _ ((hf _).trans (hf _).symm)).symm
def z9k:q22 P 24 znw:=by
 refine qlb mixed (qee qlq) (qf7 qlp) (W:=j7r) Go.Proofs.Tryz.func24 (by kernel_rfl) (show 1<=1 by decide) (show 1<=1 by decide) (λs=>by kernel_rfl) λ⟨v,k,w⟩=>(put_eq v k w).mpr ?_
 rintro⟨hkl,hl⟩ ⟨p,_,hp,hw⟩
 have hv:=hp
 have vo:=λq (h:v.ok q)=>(by rw[GV.ok_eq]at h;exact h:slP GV.cells v.x v.l q/\slP txV v.y v.ks q/\GV.oks v.l q)
 have xl:v.x.2.1=v.l.length:=(vo p hp).1.1
 have yl:v.y.2.1=v.ks.length:=(vo p hp).2.1.1
 have xc:v.l.length<=v.x.2.2:=by have:=(vo p hp).1.2.1;omega
 have yc:v.ks.length<=v.y.2.2:=by have:=(vo p hp).2.1.2.1;omega
 simp only[sbS,exists_const,forall_const,Int.toNat_natCast,xl,yl]
 have kd:∀s,s<v.ks.length->kIx k (v.ks.drop s)=if qfa (v.ks[s]!) k=true then kIx k (v.ks.drop (s+1))+1 else 0:=λs hs=>by
  rw[List.drop_eq_getElem_cons hs,kIx,getElem!_pos v.ks s hs]
 have kat:∀s (hs:s<v.ks.length),v.ks[s]! =v.ks[s]:=λs hs=>getElem!_pos v.ks s hs
 have txc:=λs (hs:s<v.ks.length) q (h:v.ok q)=>(show v.y.1≠noA/\q3p q (adr v.y.1 (s*1)) [.string v.ks[s]]from z0z z0t (by decide) (vo q h).2.1 hs)
 refine⟨⟨⟨0,rfl,Nat.zero_le _,Nat.zero_add _⟩,λs ⟨hs,hk⟩=>⟨λhlt=> ?_,λhge=>⟨s,rfl,?_,hs⟩⟩⟩,λs ⟨hs,hsl⟩=>⟨⟨λhlt=> ?_,λhge=> ?_⟩,λhno=> ?_⟩⟩
 ·have hlt:s<v.ks.length:=by omega
  have hd:=kd s hlt
  rw[kat s hlt]at hd
  refine⟨⟨by omega,by omega⟩,(txc s hlt p hp).1,v.ks[s],λq hq=>(txc s hlt q hq.1).2,λhl1=>⟨⟨by omega,by omega⟩,s+1,by omega,⟨by omega,by rw[if_pos hl1]at hd;omega⟩,by omega⟩,λhl1=>⟨s,rfl,by rw[if_neg (by rw[hl1];decide)]at hd;omega,hs⟩⟩
 ·rw[List.drop_of_length_le (by omega),kIx]at hk;omega
 ·have hlt:s<v.ks.length:=by omega
  have hll:s<v.l.length:=by omega
  refine⟨⟨by omega,by omega⟩,(txc s hlt p hp).1,v.ks[s],λq hq=>(txc s hlt q hq.1).2,λhe=> ?_,λhe=> ?_⟩
  ·have hh:z1f k v.ks=true:=by
    unfold z1f;rw[←hs,List.getElem?_eq_getElem hlt,he];exact decide_eq_true rfl
   refine⟨z00 GV.cells v.l,z01 z0c _,λq hq=>(vo q hq.1).1.2.2,z26 zd9 _,by omega,⟨by omega,by omega⟩,by rw[List.nil_append,z01 z0c];show 0+s*5+5<=_;omega,λa c _=>⟨.mk v.n v.s (a,0+v.l.length,c) (v.l.set s w) v.y v.ks v.b,rfl,rfl,rfl,rfl,rfl,rfl,yl,rfl,rfl,?_,λq hq=> ?_⟩⟩
   ·rw[GV.pv]
    show PV.mk v.n v.s (GV.pvs (v.l.set s w)) v.ks v.b=_
    unfold z2n qb3
    rw[hh,if_pos rfl,if_pos rfl,←hs,GV.pvs_map,GV.pvs_map,List.map_set]
   ·have h2:=hq.2.2
    rw[List.nil_append]at h2
    change qik q a (List.take ((0+v.l.length)*5) (spl (z00 GV.cells v.l) (0+s*5) w.cells))at h2
    rw[←z9n z0c v.l s hll w,List.take_of_length_le (by rw[z01 z0c,List.length_set];omega)]at h2
    unfold GV.ok
    refine⟨⟨by show 0+v.l.length=_;rw[List.length_set];omega,hq.2.1,h2⟩,(vo q hq.1.1).2.1,GV.oks_iff.2 λx hx=> ?_⟩
    rcases List.mem_or_eq_of_mem_set hx with hx|rfl
    ·exact GV.oks_iff.1 (vo q hq.1.1).2.2 x hx
    ·exact hq.1.2
  ·unfold z1f;rw[←hs,List.getElem?_eq_getElem hlt];exact decide_eq_false λh=>he (Option.some.inj h)
 ·unfold z1f;rw[←hs,List.getElem?_eq_none (by omega)];rfl
 ·have hsl2:s<=v.l.length:=by omega
  have tl:(v.ks.take s).length=s:=by rw[List.length_take];omega
  have tl2:(v.l.take s).length=s:=by rw[List.length_take];omega
  have r1:(z00 txV (v.ks.take s)).length=s*1:=by rw[z01 z0t,tl]
  have r2:(z00 txV (v.ks.drop s)).length=(v.ks.length- s)*1:=by rw[z01 z0t,List.length_drop]
  have r3:(z00 GV.cells (v.l.take s)).length=s*5:=by rw[z01 z0c,tl2]
  have r4:(z00 GV.cells (v.l.drop s)).length=(v.l.length- s)*5:=by rw[z01 z0c,List.length_drop]
  refine⟨yc,⟨by omega,by omega⟩,z00 txV (v.ks.take s),by rw[r1];omega,λq hq=>z3w (vo q hq.1).2.1.2.2 (Nat.zero_le _) (by rw[z01 z0t];omega) (λj x hj=>by rw[Nat.zero_mul,Nat.zero_add];exact z9m _ _ j x hj),z26 zmi _,by omega,by rw[List.nil_append,r1];omega,by omega,yc,⟨by omega,by omega⟩,by rw[List.length_append,List.nil_append,r1];show s*1+1=_;omega,z00 txV (v.ks.drop s),r2,λq hq=>z3w (vo q hq.1).2.1.2.2 (by omega) (by rw[z01 z0t];omega) (z9o z0t _ _ hsl),z26 zmi _,by omega,xc,⟨by omega,by omega⟩,z00 GV.cells (v.l.take s),by rw[r3];omega,λq hq=>z3w (vo q hq.1).1.2.2 (Nat.zero_le _) (by rw[z01 z0c];omega) (λj x hj=>by rw[Nat.zero_mul,Nat.zero_add];exact z9m _ _ j x hj),z26 zd9 _,by omega,by rw[List.nil_append,r3];omega,by omega,xc,⟨by omega,by omega⟩,by rw[List.length_append,List.nil_append,r3];show s*5+5=_;omega,z00 GV.cells (v.l.drop s),r4,λq hq=>z3w (vo q hq.1).1.2.2 (by omega) (by rw[z01 z0c];omega) (z9o z0c _ _ hsl2),z26 zd9 _,by omega,λa c _ a2 c2 _=> ?_⟩
  have hx:(v.l.take s++w::v.l.drop s).length=0+(s- 0)+1+(v.l.length- s):=by simp;omega
  have hy:(v.ks.take s++k::v.ks.drop s).length=0+(s- 0)+1+(v.ks.length- s):=by simp;omega
  refine⟨.mk v.n v.s (a,0+(s- 0)+1+(v.l.length- s),c) (v.l.take s++w::v.l.drop s) (a2,0+(s- 0)+1+(v.ks.length- s),c2) (v.ks.take s++k::v.ks.drop s) v.b,rfl,rfl,rfl,rfl,rfl,rfl,rfl,rfl,rfl,?_,λq hq=> ?_⟩
  ·rw[GV.pv]
   unfold z2n qb3
   rw[hno,if_neg (by decide),if_neg (by decide),←hs,GV.pvs_map,GV.pvs_map,List.map_append,List.map_cons,List.map_take,List.map_drop]
  ·unfold GV.ok
   refine⟨⟨hx.symm,hq.1.2.1,?_⟩,⟨hy.symm,hq.2.1,?_⟩,GV.oks_iff.2 λx hx=> ?_⟩
   ·have h2:=hq.1.2.2
    rw[List.take_of_length_le (by simp only[List.length_append,List.nil_append,r3,r4];show s*5+5+_<=_;omega)]at h2
    rw[z04]
    simp only[List.nil_append,List.append_assoc]at h2
    exact h2
   ·have h2:=hq.2.2
    rw[List.take_of_length_le (by simp only[List.length_append,List.nil_append,r1,r2];show s*1+1+_<=_;omega)]at h2
    rw[z04]
    simp only[List.nil_append,List.append_assoc]at h2
    exact h2
   ·have ho:=GV.oks_iff.1 (vo q hq.1.1.1).2.2
    rcases List.mem_append.1 hx with hx|hx
    ·exact ho x (List.mem_of_mem_take hx)
    ·rcases List.mem_cons.1 hx with rfl|hx
     ·exact hq.1.1.2
     ·exact ho x (List.mem_of_mem_drop hx)
end
abbrev VlS:=List AT×SV×Int×Int×GJ×Int
abbrev VlB:=Int×Int×GV
def vlO(x:SV) (all:Int):List (Nat×AO):=[(1, .cells 130 (some 0) false [svA x, .sv (.int .i64 all)])]
def z0l(all:Int):VlB->Prop:=λ⟨all',e,v⟩=>all<=all'/\all'<=2001/\(e=0->all'<=2000)
def sgM(S:List AT) (x:SV) (g:GJ):PF:=⟨true,λp=>z09 S x p/\g.ok p,λ_ _ h e=>⟨z0y h e.1,GJ.ok_mono h e.2⟩⟩
def jip(S:List AT) (x:SV) (a:AT) (g:GJ):PF:=⟨true,λp=>z09 S x p/\a.ok p/\g.ok p,λ_ _ h e=>⟨z0y h e.1,AT.ok_mono h e.2.1,GJ.ok_mono h e.2.2⟩⟩
def cVl:CtR where
 σ:=VlS
 args:=λ⟨S,x,all,t,g,d⟩=>[.ptr 1 0, .sv (.int .i64 t),g.av, .sv (.int .i64 d)]
 h:=λ⟨S,x,all,t,g,d⟩=>vlO x all
 m:=2
 pre:=λ⟨S,x,all,t,g,d⟩=>z0w S/\(0<=t/\t<S.length)/\g.wf/\(0<=all/\all<=2000)/\1<=d/\d<=21
 mem:=λ⟨S,x,all,t,g,d⟩=>sgM S x g
 β:=λ_=>VlB
 post:=λ⟨S,x,all,t,g,d⟩ b=>z0l all b
 pm:=λ_ ⟨all',e,v⟩=>vM v
 r:=λ_ ⟨all',e,v⟩=> .tup [v.av, .sv (.int .i64 e)]
 h':=λ⟨S,x,all,t,g,d⟩ ⟨all',e,v⟩=>vlO x all'
 m':=2
def z6m:VlS->Nat:=λ⟨S,x,all,t,g,d⟩=>2*(25- d).toNat
abbrev VqS:=List AT×SV×Int×AT×GJ×Int
def cVq(k:AT->GJ->Prop):CtR where
 σ:=VqS
 args:=λ⟨S,x,all,a,g,d⟩=>[.ptr 1 0,a.av,g.av, .sv (.int .i64 d)]
 h:=λ⟨S,x,all,a,g,d⟩=>vlO x all
 m:=2
 pre:=λ⟨S,x,all,a,g,d⟩=>z0w S/\a∈S/\k a g/\g.wf/\(0<=all/\all<=2000)/\1<=d/\d<=20
 mem:=λ⟨S,x,all,a,g,d⟩=>jip S x a g
 β:=λ_=>VlB
 post:=λ⟨S,x,all,a,g,d⟩ b=>z0l all b
 pm:=λ_ ⟨all',e,v⟩=>vM v
 r:=λ_ ⟨all',e,v⟩=> .tup [v.av, .sv (.int .i64 e)]
 h':=λ⟨S,x,all,a,g,d⟩ ⟨all',e,v⟩=>vlO x all'
 m':=2
def z9f:VqS->Nat:=λ⟨S,x,all,a,g,d⟩=>2*(25- d).toNat
def zof(a:AT) (g:GJ):Prop:=a.k=12
def isMap(a:AT) (g:GJ):Prop:=a.k=13/\g.k=6
def zhf(a:AT) (g:GJ):Prop:=a.k=12\/a.k=13/\g.k=6
def isRec(a:AT) (g:GJ):Prop:=a.k=9
def jim(t:T AV) (h:T AO):Option Int:=match t.get 10 with
  | some (.ptr b _)=>match h.get b with
    | some (.cells _ _ _ (v::_))=>match gi v with
      |some (_,k)=>some k
      |none=>none
    |_=>none
  |_=>none
def bq(a b gk k:Int):Bool:=decide (k=a)&&decide (gk=b)
def bI(gk gn k:Int):Bool:=decide (k=3)&&(decide (gk=3)&&(decide (-2147483648<=gn)&&decide (gn<2147483648)))
def bN(gk gn k:Int):Bool:=bI gk gn k||bq 4 3 gk k
def bT(gk k:Int):Bool:=(decide (k=7)||decide (k=11))&&decide (gk=4)
def bP(gk k:Int):Bool:=bq 12 5 gk k||bq 13 6 gk k
def cbK(f:Int->Bool) (i:Nat) (keep:List Nat) (t:T AV) (h:T AO):Option LT:=match jim t h with
 |some k=>some {σ:=Unit,t:=λ_=>[(i, .sv (.bool (f k)))],h:=λ_=>[],more:=0,μ:=λ_=>0,keep:=keep}
 |none=>none
def wVl:VlS->WayF:=λ⟨S,x,all,t,g,d⟩=>{
 ann:=λ_ _ _=>some {σ:=Nat,t:=λj=>[(14, .sv (.int .i64 (j:Int)))],h:=λ_=>[],more:=0,μ:=λj=>1000- j,keep:=[0,3,6,8,10,11]}
 pubE:=[250]
 spl:=λi=>match i with
  |35=>some 8
  |_=>none
 flo:=λi=>match i with
  |35=>some (12,[8])
  |_=>none
 cut:=λi t h=>match i with
  |7=>cbK (bq 1 1 g.k) 45 [0,3,6,8,10,11] t h
  |9=>cbK (bq 2 2 g.k) 55 [0,3,6,8,10,11] t h
  |11=>cbK (bI g.k g.n) 68 [0,3,6,8,10,11] t h
  |12=>cbK (bN g.k g.n) 68 [0,3,6,8,10,11] t h
  |14=>cbK (bq 5 3 g.k) 95 [0,3,6,8,10,11] t h
  |16=>cbK (bq 6 3 g.k) 107 [0,3,6,8,10,11] t h
  |18=>cbK (bq 8 4 g.k) 118 [0,3,6,8,10,11] t h
  |20=>cbK (bT g.k) 130 [0,3,6,8,10,11] t h
  |22=>some {σ:=Bool,t:=λb=>[(162, .sv (.bool b))],h:=λ_=>[],more:=0,μ:=λ_=>0,keep:=[8,12]}
  |24=>cbK (bq 10 4 g.k) 165 [0,3,6,8,10,11] t h
  |30=>cbK (bq 12 5 g.k) 192 [0,3,6,8,10,11] t h
  |31=>cbK (bP g.k) 192 [0,3,6,8,10,11] t h
  |33=>cbK (bq 9 6 g.k) 216 [0,3,6,8,10,11] t h
  |37=>some {σ:=Unit,t:=λ_=>[],h:=λ_=>[],more:=0,μ:=λ_=>0,keep:=[8]}
  |36=>some {σ:=VlB,t:=λ⟨all',e,v⟩=>[(16, .sv (.int .i64 e)),(15, .ptr 50 0)],h:=λ⟨all',e,v⟩=>[(50, .cells 36 (some 0) false [.sv (.int .u64 v.n), .sv (.string v.s),svA v.x,svA v.y, .sv (.int .i64 v.b)])]++vlO x all',pre:=z0l all,mem:=λ⟨all',e,v⟩=>vM v,more:=60,μ:=λ_=>0,keep:=[8]}
  |_=>none}
def avO(v:GV):AO:= .cells 36 (some 0) false [.sv (.int .u64 v.n), .sv (.string v.s),svA v.x,svA v.y, .sv (.int .i64 v.b)]
def rwO(r n k:Nat):AO:= .cells 36 (some 0) false [.int .u64 0, .str [], .ssl r 0 n 5 k, .nsl, .int .i64 0]
def gsM(fs:List GV):PF:=⟨true,GV.oks fs,λ_ _ h e=>GV.oks_mono h e⟩
def j7n(x:SV) (all:Int) (pt es:Nat) (keep:List Nat):LT:={σ:=VlB,t:=λ⟨all',e,v⟩=>[(es, .sv (.int .i64 e)),(pt, .ptr 50 0)],h:=λ⟨all',e,v⟩=>[(50,avO v)]++vlO x all',pre:=z0l all,mem:=λ⟨all',e,v⟩=>vM v,more:=60,μ:=λ_=>0,keep:=keep}
def zj8(h:T AO):Int:=match h.get 1 with
 |some (.cells _ _ _ [_, .sv (.int _ a)])=>a
 |_=>0
def wPa:VqS->WayF:=λ⟨S,x,all,a,g,d⟩=>{
 ann:=λ_ _ _=>some {σ:=Nat×Int×List GV,pre:=λ⟨j,all',fs⟩=>j<=g.l.length/\(all<=all'/\all'<=2000)/\fs.length=j,mem:=λ⟨j,all',fs⟩=>gsM fs,t:=λ⟨j,all',fs⟩=>[(11, .sv (.int .i64 (j:Int)))],h:=λ⟨j,all',fs⟩=>vlO x all'++[(5,rwO 6 fs.length 7),(6, .row 36 0 (z00 GV.cells fs))],more:=2,μ:=λ⟨j,all',fs⟩=>g.l.length- j,keep:=[0,3,5,6,8,10]}
 pubE:=[57]
 spl:=λi=>match i with
  |5=>some 10
  |10=>some 7
  |_=>none
 flo:=λi=>match i with
  |5=>some (14,[10])
  |_=>none
 cut:=λi _ h=>match i with
  |6=>some (j7n x (zj8 h) 12 13 [0,3,5,6,8,10,11])
  |_=>none}
def wPm:VqS->WayF:=λ⟨S,x,all,a,g,d⟩=>{
 ann:=λ_ _ _=>some {σ:=Nat×Int×GV,pre:=λ⟨j,all',v⟩=>j<=g.l.length/\(all<=all'/\all'<=2000)/\v.ks.length=v.l.length/\v.l.length<=j,mem:=λ⟨j,all',v⟩=>vM v,t:=λ⟨j,all',v⟩=>[(11, .sv (.int .i64 (j:Int)))],h:=λ⟨j,all',v⟩=>vlO x all'++[(5,avO v)],more:=0,μ:=λ⟨j,all',v⟩=>g.l.length- j,keep:=[0,3,5,6,8,10]}
 spl:=λi=>match i with
  |5=>some 10
  |10=>some 7
  |_=>none
 flo:=λi=>match i with
  |5=>some (14,[10])
  |_=>none
 cut:=λi _ h=>match i with
  |6=>some (j7n x (zj8 h) 12 13 [0,3,5,6,8,10,11])
  |_=>none}
def jnO(g:GJ):AO:= .cells 62 (some 0) false [.sv (.int .i64 g.k), .sv (.int .i64 g.n), .sv (.string g.s),svA g.y,svA g.x]
def wRe:VqS->WayF:=λ⟨S,x,all,a,g,d⟩=>{
 ann:=λ_ _ _=>some {σ:=Nat×Int×List GV,pre:=λ⟨j,all',fs⟩=>j<=a.fs.length/\(all<=all'/\all'<=2000)/\fs.length=j,mem:=λ⟨j,all',fs⟩=>gsM fs,t:=λ⟨j,all',fs⟩=>[(11, .sv (.int .i64 (j:Int)))],h:=λ⟨j,all',fs⟩=>vlO x all'++[(5,rwO 6 fs.length 7),(6, .row 36 0 (z00 GV.cells fs))],more:=2,μ:=λ⟨j,all',fs⟩=>a.fs.length- j,keep:=[0,3,5,6,8,10]}
 pubE:=[65]
 cut:=λi _ h=>match i with
  |11=>some {σ:=GJ,pre:=λc=>c.wf,mem:=gM,t:=λc=>[(13, .ptr 50 0)],h:=λc=>[(50,jnO c)],more:=60,μ:=λ_=>0,keep:=[0,3,5,6,8,10,11,12]}
  |_=>none}
def kIt(k:Int):Bool:=decide (k=3\/k=4)
def kBt(k:Int):Bool:=decide (k=7\/k=8)
def kPa(k:Int):Bool:=decide (k=12\/k=13)
def zw7(t:T AV) (k:Nat):Option Nat:=match t.get k with
 |some (.ptr b _)=>some b
 |_=>none
def zx9(h:T AO) (vb n:Nat):AO:=match h.get vb with
 |some (.cells ty fz g [a,b,_,d,e])=> .cells ty fz g [a,b, .ssl 40 0 n 5 41,d,e]
 |_=> .cells 0 none false []
abbrev RvS:=List AT×DcR×Int×Int
abbrev RvB:=GV×Int×Int×Int
def rvM(S:List AT) (x y:SV) (D:ByteArray):PF:=⟨true,λp=>z09 S x p/\(y.2.1=D.size/\qil p y.1 y.2.1 y.2.2 (q1h D)),λ_ _ h e=>⟨z0y h e.1,e.2.1,q5g h e.2.2⟩⟩
def lmX(all dp e:Int):Int:=if e=0/\(20<dp\/2000<all)then 3 else e
def z0v(R:RdT) (D:ByteArray) (n all e:Int):RvB->Prop:=λ⟨r,n',all',e'⟩=>(if e=0 then agD R r.pv n' all' e' else e'=e)/\z0x D n'/\(all<=all'/\all'<=2001)/\(e'=0->all'<=2000)/\n<=n'
def cRv:CtR where
 σ:=RvS
 args:=λ⟨S,⟨x,y,D,n,all,e⟩,t,dp⟩=>[.ptr 1 0, .sv (.int .i64 t), .sv (.int .i64 dp)]
 h:=λ⟨S,⟨x,y,D,n,all,e⟩,t,dp⟩=>dcO x y n all e
 m:=2
 pre:=λ⟨S,⟨x,y,D,n,all,e⟩,t,dp⟩=>okS S/\z0x D n/\(0<=all/\all<=2000)/\0<=e/\(0<=t/\t<S.length)/\1<=dp/\dp<=21
 mem:=λ⟨S,⟨x,y,D,n,all,e⟩,t,dp⟩=>rvM S x y D
 β:=λ_=>RvB
 post:=λ⟨S,⟨x,y,D,n,all,e⟩,t,dp⟩ b=>z0v (dvX S D (21- dp).toNat t n.toNat all.toNat) D n (all+1) e b
 pm:=λ_ ⟨r,n',all',e'⟩=>vM r
 r:=λ_ ⟨r,n',all',e'⟩=>r.av
 h':=λ⟨S,⟨x,y,D,n,all,e⟩,t,dp⟩ ⟨r,n',all',e'⟩=>dcO x y n' all' e'
 m':=2
def z7q:RvS->Nat:=λ⟨S,_,t,dp⟩=>(25- dp).toNat
abbrev RbS:=List AT×DcR×AT×Int
def rbM(S:List AT) (a:AT) (x y:SV) (D:ByteArray):PF:=⟨true,λp=>z09 S x p/\a.ok p/\(y.2.1=D.size/\qil p y.1 y.2.1 y.2.2 (q1h D)),λ_ _ h e=>⟨z0y h e.1,AT.ok_mono h e.2.1,e.2.2.1,q5g h e.2.2.2⟩⟩
def gvX(S:List AT) (D:ByteArray) (dp:Int):Int->Nat->Nat->RdT:=λt n c=>dvX S D (20- dp).toNat t n c
def cRb(κ:AT->Prop):CtR where
 σ:=RbS
 args:=λ⟨S,⟨x,y,D,n,all,e⟩,a,dp⟩=>[.ptr 1 0,a.av, .sv (.int .i64 dp)]
 h:=λ⟨S,⟨x,y,D,n,all,e⟩,a,dp⟩=>dcO x y n all e
 m:=2
 pre:=λ⟨S,⟨x,y,D,n,all,e⟩,a,dp⟩=>okS S/\a∈S/\κ a/\z0x D n/\(0<=all/\all<=2000)/\e=0/\1<=dp/\dp<=20
 mem:=λ⟨S,⟨x,y,D,n,all,e⟩,a,dp⟩=>rbM S a x y D
 β:=λ_=>RvB
 post:=λ⟨S,⟨x,y,D,n,all,e⟩,a,dp⟩ b=>z0v (bvX (gvX S D dp) D a n.toNat all.toNat) D n all 0 b
 pm:=λ_ ⟨r,n',all',e'⟩=>vM r
 r:=λ_ ⟨r,n',all',e'⟩=>r.av
 h':=λ⟨S,⟨x,y,D,n,all,e⟩,a,dp⟩ ⟨r,n',all',e'⟩=>dcO x y n' all' e'
 m':=2
def zgd:RbS->Nat:=λ⟨S,_,a,dp⟩=>(25- dp).toNat
def j4u(a:AT):Prop:=a.k=12
def j4v(a:AT):Prop:=a.k=13
def kdP(a:AT):Prop:=a.k=12\/a.k=13
def thn{α:Type} (R0:Rs α) (e:Int) (q:Prop):Prop:=(e=0/\q)\/∃k:Nat,e=k+1/\R0= .no k
def rrI(S:List AT) (t dp:Int) (D:ByteArray) (n all:Int) (j:Nat) (n1 all1 e1:Int) (fs:List GV):Prop:=
 j<=(atS S t).fs.length/\fs.length=j/\z0x D n1/\(all<=all1/\all1<=2001)/\(e1=0->all1<=2000)/\n<=n1/\
 thn (z6c (gvX S D dp) ((atS S t).fs.map AF.ty) [] n.toNat all.toNat) e1 (z6c (gvX S D dp) (((atS S t).fs.map AF.ty).drop j) (GV.pvs fs) n1.toNat all1.toNat=z6c (gvX S D dp) ((atS S t).fs.map AF.ty) [] n.toNat all.toNat)
def wRv:RvS->WayF:=λ⟨S,⟨x,y,D,n,all,e⟩,t,dp⟩=>{
 pubE:=[183]
 spl:=λi=>match i with
  |40=>some 11
  |_=>none
 flo:=λi=>match i with
  |40=>some (11,[0,1])
  |_=>none
 cut:=λi tt _=>match i with
  |4=>some {σ:=Unit,t:=λ_=>[],h:=λ_=>dcO x y n (all+1) (lmX (all+1) dp e),more:=0,μ:=λ_=>0,keep:=[0,1,2,6]}
  |15=>swc kIt 56 45 [0,1,2,6,7,8,45] tt
  |25=>swc kBt 87 45 [0,1,2,6,7,8,45] tt
  |43=>swc kPa 176 45 [0,1,2,6,7,8,45] tt
  |_=>none
 ann:=λid tt hh=>match zw7 tt 7 with
  |some vb=>some {σ:=Nat×Int×Int×Int×List GV,pre:=λ⟨j,n1,all1,e1,fs⟩=>rrI S t dp D n (all+1) j n1 all1 e1 fs,mem:=λ⟨j,n1,all1,e1,fs⟩=>gsM fs,t:=λ⟨j,n1,all1,e1,fs⟩=>[(10, .sv (.int .i64 (j:Int)))],h:=λ⟨j,n1,all1,e1,fs⟩=>dcO x y n1 all1 e1++[(vb,zx9 hh vb fs.length),(40, .row 36 0 (z00 GV.cells fs))],more:=60,μ:=λ⟨j,n1,all1,e1,fs⟩=>(atS S t).fs.length- j,keep:=[0,1,2,6,7,8]}
  |none=>none}
def j7o(h:T AO):Option Int:=match h.get 1 with
  | some (.cells _ _ _ [_,_,_,a,_])=>match gi a with
    |some (_,k)=>some k
    |none=>none
  |_=>none
abbrev RsB:=Rs (StI×Nat×Nat)
def rbR(S:List AT) (a:AT) (dp:Int) (D:ByteArray) (n all:Int):RsB:=bkX (gvX S D dp a.it) D (decide (a.k=13)) (D.size+1- n.toNat) ([],[]) n.toNat all.toNat
def rbK(S:List AT) (a:AT) (dp:Int) (D:ByteArray) (F:Nat) (st:Int) (sz:Int) (r:StI×Nat×Nat):RsB:=if bkE st.toNat sz r.2.1=true then .no 1 else bkX (gvX S D dp a.it) D (decide (a.k=13)) F r.1 r.2.1 r.2.2
def rbC(D:ByteArray) (n all:Int) (n1 all1 e1:Int) (st:StI):Prop:=(z0x D n1/\n<=n1)/\(all<=all1/\all1<=2001)/\(e1=0->all1<=2000)/\st.2.length<=all1
def rbO(S:List AT) (a:AT) (dp:Int) (D:ByteArray) (n all:Int) (F:Nat) (n1 all1 e1:Int) (st:StI):Prop:=rbC D n all n1 all1 e1 st/\D.size<F+n1/\thn (rbR S a dp D n all) e1 (bkX (gvX S D dp a.it) D (decide (a.k=13)) F st n1.toNat all1.toNat=rbR S a dp D n all)
def rbH(S:List AT) (a:AT) (dp:Int) (D:ByteArray) (n all:Int) (F:Nat) (cnt sz n1 all1 e1:Int) (st:StI):Prop:=rbC D n all n1 all1 e1 st/\cnt<=9223372036854775807/\D.size<F+n1/\thn (rbR S a dp D n all) e1 (1<=cnt/\(z47 (gvX S D dp a.it) D (decide (a.k=13)) cnt.toNat st n1.toNat all1.toNat).bind (rbK S a dp D F n1 sz)=rbR S a dp D n all)
def rbN(S:List AT) (a:AT) (dp:Int) (D:ByteArray) (n all:Int) (F:Nat) (al cnt sz st0:Int) (i:Nat) (n1 all1 e1:Int) (st:StI):Prop:=((i=0\/(i:Int)<=cnt)/\al<=all1/\(e1=0->al+i<=all1))/\rbC D n all n1 all1 e1 st/\(0<=st0/\st0<=n1)/\D.size<F+st0/\thn (rbR S a dp D n all) e1 (1<=cnt/\(z47 (gvX S D dp a.it) D (decide (a.k=13)) (cnt- i).toNat st n1.toNat all1.toNat).bind (rbK S a dp D F st0 sz)=rbR S a dp D n all)
def uK(u:GV):Prop:=u.n=0/\u.s=mkS []/\u.b=0/\u.ks.length=u.l.length
def wRb (arr:Bool):RbS->WayF:=λ⟨S,⟨x,y,D,n,all,e⟩,a,dp⟩=>{
  pubE:=[31,120]
  spl:=λi=>match i with
    |19=>some 7
    |_=>none
  flo:=λi=>match i with
    |19=>some (7,[0,1])
    |_=>none
  cut :=λi tt hh=>match i,zw7 tt 7,j7o hh with
    | 14,some vb,some al=>match arr with
      |true=>some {σ:=Nat×Int×Int×Int×Int×List GV,pre:=λ⟨F,cnt,sz,n1,e1,fs⟩=>rbH S a dp D n all F cnt sz n1 al e1 ([],GV.pvs fs),mem:=λ⟨F,cnt,sz,n1,e1,fs⟩=>gsM fs,t:=λ⟨F,cnt,sz,n1,e1,fs⟩=>[(8, .sv (.int .i64 cnt)),(9, .sv (.int .i64 sz))],h:=λ⟨F,cnt,sz,n1,e1,fs⟩=>dcO x y n1 al e1++[(vb,zx9 hh vb fs.length),(40, .row 36 0 (z00 GV.cells fs))],more:=60,μ:=λ_=>0,keep:=[0,2,4,6,7]}
      |false=>some {σ:=Nat×Int×Int×Int×Int×GV,pre:=λ⟨F,cnt,sz,n1,e1,u⟩=>uK u/\rbH S a dp D n all F cnt sz n1 al e1 (u.ks,GV.pvs u.l),mem:=λ⟨F,cnt,sz,n1,e1,u⟩=>vM u,t:=λ⟨F,cnt,sz,n1,e1,u⟩=>[(8, .sv (.int .i64 cnt)),(9, .sv (.int .i64 sz))],h:=λ⟨F,cnt,sz,n1,e1,u⟩=>dcO x y n1 al e1++[(vb,avO u)],more:=0,μ:=λ_=>0,keep:=[0,2,4,6,7]}
    |_,_,_=>none
  ann :=λid tt hh=>match zw7 tt 7 with
    | some vb=>match id with
      | 0=>match arr with
        |true=>some {σ:=Nat×Int×Int×Int×List GV,pre:=λ⟨F,n1,all1,e1,fs⟩=>rbO S a dp D n all F n1 all1 e1 ([],GV.pvs fs),mem:=λ⟨F,n1,all1,e1,fs⟩=>gsM fs,t:=λ_=>[],h:=λ⟨F,n1,all1,e1,fs⟩=>dcO x y n1 all1 e1++[(vb,zx9 hh vb fs.length),(40, .row 36 0 (z00 GV.cells fs))],more:=60,μ:=λ⟨F,n1,all1,e1,fs⟩=>2*(2001- all1).toNat+(if e1=0 then 1 else 0),keep:=[0,2,4,6,7]}
        |false=>some {σ:=Nat×Int×Int×Int×GV,pre:=λ⟨F,n1,all1,e1,u⟩=>uK u/\rbO S a dp D n all F n1 all1 e1 (u.ks,GV.pvs u.l),mem:=λ⟨F,n1,all1,e1,u⟩=>vM u,t:=λ_=>[],h:=λ⟨F,n1,all1,e1,u⟩=>dcO x y n1 all1 e1++[(vb,avO u)],more:=0,μ:=λ⟨F,n1,all1,e1,u⟩=>2*(2001- all1).toNat+(if e1=0 then 1 else 0),keep:=[0,2,4,6,7]}
      | _=>match arr,slI tt 8,slI tt 9,slI tt 10,j7o hh with
        |true,some cn,some zz,some st,some al=>some {σ:=Nat×Nat×Int×Int×Int×List GV,pre:=λ⟨F,i,n1,all1,e1,fs⟩=>rbN S a dp D n all F al cn zz st i n1 all1 e1 ([],GV.pvs fs),mem:=λ⟨F,i,n1,all1,e1,fs⟩=>gsM fs,t:=λ⟨F,i,n1,all1,e1,fs⟩=>[(11, .sv (.int .i64 (i:Int)))],h:=λ⟨F,i,n1,all1,e1,fs⟩=>dcO x y n1 all1 e1++[(vb,zx9 hh vb fs.length),(40, .row 36 0 (z00 GV.cells fs))],more:=60,μ:=λ⟨F,i,n1,all1,e1,fs⟩=>cn.toNat- i,keep:=[0,2,4,6,7,8,9,10]}
        |false,some cn,some zz,some st,some al=>some {σ:=Nat×Nat×Int×Int×Int×GV,pre:=λ⟨F,i,n1,all1,e1,u⟩=>uK u/\rbN S a dp D n all F al cn zz st i n1 all1 e1 (u.ks,GV.pvs u.l),mem:=λ⟨F,i,n1,all1,e1,u⟩=>vM u,t:=λ⟨F,i,n1,all1,e1,u⟩=>[(11, .sv (.int .i64 (i:Int)))],h:=λ⟨F,i,n1,all1,e1,u⟩=>dcO x y n1 all1 e1++[(vb,avO u)],more:=0,μ:=λ⟨F,i,n1,all1,e1,u⟩=>cn.toNat- i,keep:=[0,2,4,6,7,8,9,10]}
        |_,_,_,_,_=>none
    |none=>none}
section
variable (x0 x1:Int) (x2 x3:SV) (x4 x5 x6:Int) (x7:List AT) (x8:ByteArray) (x9:Nat) (x10:Int) (x11:Option Addr) (x12:Nat) (x13:Int) (x14:Option Addr) (x15 x16:Nat) (x17:Bool) (x18:ByteArray) (x19:Int) (x20:Option Addr) (x21 x22:Nat) (x23:Option Addr) (x24 x25:Nat) (x26:ByteArray) (x27:Nat) (x28:Nat×Int×Int×Int×List GV) (x29:Nat->Option Obj) (x30:RvS) (x31:RvB) (x32:DcR) (x33:DcR×Int) (x34:Prop) (x35:(Option Addr×Nat×Nat)×(Option Addr×Nat×Nat)×Int×Int×Int×Int) (x36:RbS)
 abbrev z12:=True/\z09 x7 x2 x29/\x3.2.1=size x8/\qil x29 x3.1 x3.2.1 x3.2.2 (q1h x8)
 abbrev zkf:=Jb (x0+1)
 def zs7:=x2.1=x35.1.1/\x2.2.1=x35.1.2.1/\x2.2.2=x35.1.2.2/\x3.1=x35.2.1.1/\x3.2.1=x35.2.1.2.1/\x3.2.2=x35.2.1.2.2/\x34
 def zfs:=(∀i0,z12 x2 x3 x7 x8 i0->z12 x2 x3 x7 x8 i0)
 abbrev zsb:=∃(i0:(Option Addr×Nat×Nat)×(Option Addr×Nat×Nat)×Int×Int×Int×Int),i0.2.2.2.2.2=3/\i0.1.1=x2.1/\i0.1.2.1=x2.2.1/\i0.1.2.2=x2.2.2/\i0.2.1.1=x3.1/\i0.2.1.2.1=x3.2.1/\i0.2.1.2.2=x3.2.2/\i0.2.2.1=x0/\i0.2.2.2.1=x1+1/\i0.2.2.2.2.1=x4/\True/\∃(i1:Unit),x5=x5/\x6=x6/\zs7 x2 x3 (x0=i0.2.2.1/\x1+1=i0.2.2.2.1/\(lmX (x1+1) x6 x4=if i0.2.2.2.2.1=0 then i0.2.2.2.2.2 else i0.2.2.2.2.1)/\zfs x2 x3 x7 x8/\True/\True) i0
 def zsm:=x2.1=x2.1/\x2.2.1=x2.2.1/\x2.2.2=x2.2.2/\x34
 abbrev zbf:=zsm x2 (zsm x3 x34)
 def j11:=Ji (2000<x0+1) (zsb x1 x0 x2 x3 x4 x5 x6 x7 x8) (∃(i3:Unit),x5=x5/\x6=x6/\zbf x2 x3 (x1=x1/\x0+1=x0+1/\lmX (x0+1) x6 x4=x4/\zfs x2 x3 x7 x8/\True/\True))
 def zft:=GV.n x31.1=0/\GV.s x31.1=mkS []/\x34
 def zsn:=(GV.x x31.1).1=noA/\(GV.x x31.1).2.1=0/\(GV.x x31.1).2.2=0/\x34
 def zfq:=(GV.y x31.1).1=noA/\(GV.y x31.1).2.1=0/\(GV.y x31.1).2.2=0/\x34
 def z86:=zsn x31 (zfq x31 (GV.b x31.1=0/\x34))
 abbrev zfr:=z0v (dvX x7 x8 (toNat ((21:Int)- x0)) x1 (toNat x4) (toNat x5)) x8 x4 (x5+1) x6 x31
 def z73:=zfr x0 x1 x4 x5 x6 x7 x8 x31/\(∀i0,z12 x2 x3 x7 x8 i0->GV.ok x31.1 i0)/\True
 def zsq:=∃(i0:RvB),zft i0 (z86 i0 (zbf x2 x3 (i0.2.1=x0/\i0.2.2.1=x1+1/\i0.2.2.2=lmX (x1+1) x4 x5/\z73 x4 x6 x2 x3 x0 x1 x5 x7 x8 i0)))
 def zbg:=x33.1.1.1=x2.1/\x33.1.1.2.1=x2.2.1/\x33.1.1.2.2=x2.2.2/\x33.1.2.1.1=x3.1/\x33.1.2.1.2.1=x3.2.1/\x33.1.2.1.2.2=x3.2.2/\x33.1.2.2.2.1=x0/\x33.1.2.2.2.2.1=x1+1/\x33.1.2.2.2.2.2=lmX (x1+1) x4 x5/\x34
 def zkd:=z0x x33.1.2.2.1 x33.1.2.2.2.1/\0<=x33.2/\x34
 def zka:=x33.1.2.1.2.1=size x33.1.2.2.1/\qil x29 x33.1.2.1.1 x33.1.2.1.2.1 x33.1.2.1.2.2 (q1h x33.1.2.2.1)
 abbrev z88:=tkF x33.1.2.2.1 x33.1.2.2.2.1 x33.1.2.2.2.2.2 x33.2
 abbrev zfp:=(↑(loL (Array.toList (ByteArray.data (z88 x33).1))):Int)
 abbrev zke:=z86 x31 (zs7 x2 x3 (x31.2.1=x35.2.2.1/\x31.2.2.1=x35.2.2.2.1/\(x31.2.2.2=if x35.2.2.2.2.1=0 then x35.2.2.2.2.2 else x35.2.2.2.2.1)/\z73 x0 x1 x2 x3 x4 x5 x6 x7 x8 x31) x35)
 def zkc:=x2.1=x33.1.1.1/\x2.2.1=x33.1.1.2.1/\x2.2.2=x33.1.1.2.2/\x3.1=x33.1.2.1.1/\x3.2.1=x33.1.2.1.2.1/\x3.2.2=x33.1.2.1.2.2/\x34
 def zkb:=z86 x31 (zkc x2 x3 x33 (x31.2.1=(z88 x33).2.1/\x31.2.2.1=x33.1.2.2.2.2.1/\x31.2.2.2=(z88 x33).2.2/\z73 x0 x1 x2 x3 x4 x5 x6 x7 x8 x31))
 def z87:=zbf x2 x3 (x0=x0/\x1+1=x1+1/\lmX (x1+1) x4 x5=lmX (x1+1) x4 x5/\x6=x6/\x8=x8/\x11=x11/\x9=x9/\x12=x12/\x10=x10/\x14=x14/\x15=x15/\x16=x16/\x17=x17/\x18=x18/\x13=x13/\x20=x20/\x21=x21/\x22=x22/\x23=x23/\x24=x24/\x25=x25/\zfs x2 x3 x7 x26/\True/\True)
 def j13:=x32.2.1.2.1=size x32.2.2.1/\qil x29 x32.2.1.1 x32.2.1.2.1 x32.2.1.2.2 (q1h x32.2.2.1)
 def zsd:=x32.1.1=x2.1/\x32.1.2.1=x2.2.1/\x32.1.2.2=x2.2.2/\x32.2.1.1=x3.1/\x32.2.1.2.1=x3.2.1/\x32.2.1.2.2=x3.2.2/\x32.2.2.2.1=x0/\x32.2.2.2.2.1=x1+1/\x32.2.2.2.2.2=lmX (x1+1) x4 x5/\z0x x32.2.2.1 x32.2.2.2.1/\(∀i0,z12 x2 x3 x7 x8 i0->j13 i0 x32)/\x34
 abbrev z65:=lnF x32.2.2.1 x32.2.2.2.1 x32.2.2.2.2.2
 def zsg:=x35.2.2.2.2.2=2/\x35.1.1=x32.1.1/\x35.1.2.1=x32.1.2.1/\x35.1.2.2=x32.1.2.2/\x35.2.1.1=x32.2.1.1/\x35.2.1.2.1=x32.2.1.2.1/\x35.2.1.2.2=x32.2.1.2.2/\x34
 def zs9:=∃(i0:(Option Addr×Nat×Nat)×(Option Addr×Nat×Nat)×Int×Int×Int×Int),zsg x32 (i0.2.2.1=(z65 x32).2.1/\i0.2.2.2.1=x32.2.2.2.2.1/\i0.2.2.2.2.1=(z65 x32).2.2/\True/\∃(i1:RvB),GV.n i1.1=IntKind.wrap u64 (z65 x32).1/\GV.s i1.1=mkS []/\zke x0 x1 x2 x3 x4 x5 x6 x7 x8 i1 i0) i0
 def zsa:=x2.1=x32.1.1/\x2.2.1=x32.1.2.1/\x2.2.2=x32.1.2.2/\x3.1=x32.2.1.1/\x3.2.1=x32.2.1.2.1/\x3.2.2=x32.2.1.2.2/\x34
 def zsk:=∃(i0:RvB),GV.n i0.1=IntKind.wrap u64 (z65 x32).1/\GV.s i0.1=mkS []/\z86 i0 (zsa x2 x3 x32 (i0.2.1=(z65 x32).2.1/\i0.2.2.1=x32.2.2.2.2.1/\i0.2.2.2=(z65 x32).2.2/\z73 x0 x1 x2 x3 x4 x5 x6 x7 x8 i0))
 def j10:=Ji (2147483648<=(z65 x32).1) (zs9 x0 x1 x2 x3 x4 x5 x6 x7 x8 x32) (zsk x0 x1 x2 x3 x4 x5 x6 x7 x8 x32)
 def j0w:=Ji ((z65 x32).1< -2147483648) (zs9 x0 x1 x2 x3 x4 x5 x6 x7 x8 x32) (j10 x0 x1 x2 x3 x4 x5 x6 x7 x8 x32)
 def zsi:=(Jt (x0=x13)->∃(i0:DcR×Int),i0.2=x19/\zbg x1 x4 x2 x3 x5 x6 i0 ((zkd i0 (i0.2<=8))/\(∀i1,z12 x2 x3 x7 x8 i1->zka i1 i0)/\∃(i2:RvB),GV.n i2.1=(zfp i0)/\GV.s i2.1=mkS []/\zkb x5 x10 x2 x3 x1 x4 x6 x7 x8 i2 i0))
 abbrev z3o:=txF x32.2.2.1 x32.2.2.2.1 x32.2.2.2.2.2
 def zsl:=∃(i0:RvB),GV.n i0.1=0/\GV.s i0.1=(z3o x32).1/\z86 i0 (zsa x2 x3 x32 (i0.2.1=(z3o x32).2.1/\i0.2.2.1=x32.2.2.2.2.1/\i0.2.2.2=(z3o x32).2.2/\z73 x0 x1 x2 x3 x4 x5 x6 x7 x8 i0))
 def j0z:=(z3o x32).1=(z3o x32).1/\size (z3o x32).1<9223372036854775808/\((!vld (z3o x32).1)=true->∃(i0:(Option Addr×Nat×Nat)×(Option Addr×Nat×Nat)×Int×Int×Int×Int),zsg x32 (i0.2.2.1=(z3o x32).2.1/\i0.2.2.2.1=x32.2.2.2.2.1/\i0.2.2.2.2.1=(z3o x32).2.2/\True/\∃(i1:RvB),GV.n i1.1=0/\GV.s i1.1=(z3o x32).1/\zke x0 x1 x2 x3 x4 x5 x6 x7 x8 i1 i0) i0)/\((!vld (z3o x32).1)=false->zsl x0 x1 x2 x3 x4 x5 x6 x7 x8 x32)
 def zkg:=(zkd x33 (x33.2<9223372036854775808))/\(∀i0,z12 x2 x3 x7 x8 i0->zka i0 x33)/\x34
 abbrev z3n:=ixF x33.1.2.2.1 x33.1.2.2.2.1 x33.1.2.2.2.2.2 x33.2
 def zso:=x31.2.1=(z3n x33).2.1/\x31.2.2.1=x33.1.2.2.2.2.1/\x31.2.2.2=(z3n x33).2.2/\x34
 def zse:=(z7q x30<x9/\okS x30.1/\z0x x30.2.1.2.2.1 x30.2.1.2.2.2.1/\(0<=x30.2.1.2.2.2.2.1/\x30.2.1.2.2.2.2.1<=2000)/\0<=x30.2.1.2.2.2.2.2/\(0<=x30.2.2.1/\x30.2.2.1<(↑(length x30.1):Int))/\1<=x30.2.2.2/\x30.2.2.2<=21)
 def zsc:=z09 x30.1 x30.2.1.1 x29/\x30.2.1.2.1.2.1=size x30.2.1.2.2.1/\qil x29 x30.2.1.2.1.1 x30.2.1.2.1.2.1 x30.2.1.2.1.2.2 (q1h x30.2.1.2.2.1)
 abbrev zsj:=dvX x30.1 x30.2.1.2.2.1 (toNat ((21:Int)- x30.2.2.2)) x30.2.2.1 (toNat x30.2.1.2.2.2.1) (toNat x30.2.1.2.2.2.2.1)
 abbrev zsf:=q3p x29 (Addr.mk x9 x12 none) [int u64 (GV.n x31.1),string (GV.s x31.1),slice (GV.x x31.1).1 (GV.x x31.1).2.1 (GV.x x31.1).2.2,slice (GV.y x31.1).1 (GV.y x31.1).2.1 (GV.y x31.1).2.2,int i64 (GV.b x31.1)]
 def zsh:=x2.1=x30.2.1.1.1/\x2.2.1=x30.2.1.1.2.1/\x2.2.2=x30.2.1.1.2.2/\x3.1=x30.2.1.2.1.1/\x3.2.1=x30.2.1.2.1.2.1/\x3.2.2=x30.2.1.2.1.2.2/\x34
 def j0y:=(0<=(z3n x33).1/\(z3n x33).1<(↑x9:Int))/\x11≠noA/\∃(i0:Int),(∀i1,z12 x2 x3 x7 x8 i1->q3p i1 (adr x11 (toNat (z3n x33).1*1)) [int i64 i0])/\zkf x0/\∃(i2:RvS),i2.2.2.1=i0/\i2.2.2.2=x0+1/\i2.2.1.1.1=x33.1.1.1/\i2.2.1.1.2.1=x33.1.1.2.1/\i2.2.1.1.2.2=x33.1.1.2.2/\i2.2.1.2.1.1=x33.1.2.1.1/\i2.2.1.2.1.2.1=x33.1.2.1.2.1/\i2.2.1.2.1.2.2=x33.1.2.1.2.2/\i2.2.1.2.2.2.1=(z3n x33).2.1/\i2.2.1.2.2.2.2.1=x33.1.2.2.2.2.1/\i2.2.1.2.2.2.2.2=(z3n x33).2.2/\zse x12 i2/\(∀i3,z12 x2 x3 x7 x8 i3->zsc i3 i2)/\∀(i4:RvB),z0v (zsj i2) i2.2.1.2.2.1 i2.2.1.2.2.2.1 (i2.2.1.2.2.2.2.1+1) i2.2.1.2.2.2.2.2 i4->(∃i5,(z12 x2 x3 x7 x8 i5)/\GV.ok i4.1 i5)->∀(i6 i7 i8:Nat),(∃i9,((z12 x2 x3 x7 x8 i9)/\GV.ok i4.1 i9)/\zsf i6 i7 i9 i4)->∃(i10:RvB),zft i10 ((GV.x i10.1).1=some (Addr.mk i6 (i7+nat_lit 0) none)/\(GV.x i10.1).2.1=nat_lit 1/\(GV.x i10.1).2.2=nat_lit 1/\zfq i10 (GV.b i10.1=(z3n x33).1/\zsh x2 x3 i2 (i10.2.1=i4.2.1/\i10.2.2.1=i4.2.2.1/\i10.2.2.2=i4.2.2.2/\zfr x0 x1 x4 x5 x6 x7 x8 i10/\(∀i11,((z12 x2 x3 x7 x8 i11)/\GV.ok i4.1 i11)/\zsf i6 i7 i11 i4->GV.ok i10.1 i11)/\True)))
 def j0u:=length (z00 GV.cells x28.2.2.2.2)=length x28.2.2.2.2*5/\(length x28.2.2.2.2+nat_lit 1)*80<=140737488355328/\Jb ((↑x28.1:Int)+1)/\∃(i0:Nat×Int×Int×Int×List GV),x0=x0/\x1=x1/\(↑i0.1:Int)=(↑x28.1:Int)+1/\zsh x2 x3 x30 (i0.2.1=x31.2.1/\i0.2.2.1=x31.2.2.1/\i0.2.2.2.1=x31.2.2.2/\length i0.2.2.2.2=length x28.2.2.2.2+nat_lit 1/\x4=x4/\x8=x8/\x11=x11/\x9=x9/\x12=x12/\x5=x5/\x14=x14/\x15=x15/\x16=x16/\x17=x17/\x18=x18/\x6=x6/\x20=x20/\x21=x21/\x22=x22/\x23=x23/\x24=x24/\x25=x25/\z00 GV.cells i0.2.2.2.2=z00 GV.cells x28.2.2.2.2++[int u64 (GV.n x31.1),string (GV.s x31.1),slice (GV.x x31.1).1 (GV.x x31.1).2.1 (GV.x x31.1).2.2,slice (GV.y x31.1).1 (GV.y x31.1).2.1 (GV.y x31.1).2.2,int i64 (GV.b x31.1)]/\(∀i1,((z12 x2 x3 x7 x26 i1)/\GV.oks x28.2.2.2.2 i1)/\GV.ok x31.1 i1->z12 x2 x3 x7 x26 i1)/\(∀i2,((z12 x2 x3 x7 x26 i2)/\GV.oks x28.2.2.2.2 i2)/\GV.ok x31.1 i2->GV.oks i0.2.2.2.2 i2)/\rrI x7 x0 x1 x26 x10 (x13+1) i0.1 i0.2.1 i0.2.2.1 i0.2.2.2.1 i0.2.2.2.2/\length (AT.fs (atS x7 x0))- i0.1<length (AT.fs (atS x7 x0))- x28.1/\True)
 def zk9:=(0<=(↑x28.1:Int)/\(↑x28.1:Int)<(↑x9:Int))/\x11≠noA/\∃(i0:Int),(∀i1,(z12 x2 x3 x7 x8 i1)/\GV.oks x28.2.2.2.2 i1->q3p i1 (Addr.add (adr x11 (toNat (↑x28.1:Int)*9)) 2) [int i64 i0])/\zkf x0/\∃(i2:RvS),i2.2.2.1=i0/\i2.2.2.2=x0+1/\i2.2.1.1.1=x2.1/\i2.2.1.1.2.1=x2.2.1/\i2.2.1.1.2.2=x2.2.2/\i2.2.1.2.1.1=x3.1/\i2.2.1.2.1.2.1=x3.2.1/\i2.2.1.2.1.2.2=x3.2.2/\i2.2.1.2.2.2.1=x28.2.1/\i2.2.1.2.2.2.2.1=x28.2.2.1/\i2.2.1.2.2.2.2.2=x28.2.2.2.1/\zse x12 i2/\(∀i3,(z12 x2 x3 x7 x8 i3)/\GV.oks x28.2.2.2.2 i3->zsc i3 i2)/\∀(i4:RvB),z0v (zsj i2) i2.2.1.2.2.1 i2.2.1.2.2.2.1 (i2.2.1.2.2.2.2.1+1) i2.2.1.2.2.2.2.2 i4->(∃i5,((z12 x2 x3 x7 x8 i5)/\GV.oks x28.2.2.2.2 i5)/\GV.ok i4.1 i5)->j0u x1 x0 x2 x3 x4 x5 x6 x7 x18 x15 x10 x14 x16 x13 x20 x21 x22 x17 x26 x11 x9 x24 x23 x25 x27 x8 x28 i2 i4
 def j0t:=(zk9 x0 x1 x2 x3 x4 x5 x6 x7 x8 x9 x10 x11 x12 x13 x14 x15 x16 x17 x18 x20 x21 x22 x23 x24 x25 x26 x27 x28)/\(zk9 x0 x1 x2 x3 x4 x5 x6 x7 x8 x9 x10 x11 x12 x13 x14 x15 x16 x17 x18 x20 x21 x22 x23 x24 x25 x26 x27 x28)/\zk9 x0 x1 x2 x3 x4 x5 x6 x7 x8 x9 x10 x11 x12 x13 x14 x15 x16 x17 x18 x20 x21 x22 x23 x24 x25 x26 x27 x28
 def zsp:=((z12 x2 x3 x7 x8 x29)/\GV.oks x28.2.2.2.2 x29)/\length x28.2.2.2.2<=x9/\qik x29 x11 (take (length x28.2.2.2.2*nat_lit 5) (z00 GV.cells x28.2.2.2.2))
 def zs8:=∀(i0 i1 i2:Nat) (i3:Option Addr) (i4 i5:Nat),(∃i6,zsp x2 x3 x7 x8 i5 i3 x28 i6)->∃(i7:RvB),zft i7 ((GV.x i7.1).1=i3/\(GV.x i7.1).2.1=length x28.2.2.2.2/\(GV.x i7.1).2.2=i5/\zfq i7 (GV.b i7.1=0/\zbf x2 x3 (i7.2.1=x28.2.1/\i7.2.2.1=x28.2.2.1/\i7.2.2.2=x28.2.2.2.1/\zfr x0 x1 x4 x5 x6 x7 x8 i7/\(∀i8,zsp x2 x3 x7 x8 i5 i3 x28 i8->GV.ok i7.1 i8)/\True)))
 def j0s:=Ji (x28.2.2.2.1=0) (j0t x0 x1 x2 x3 x4 x5 x6 x7 x8 x9 x10 x11 x12 x13 x14 x15 x16 x17 x18 x20 x21 x22 x23 x24 x25 x26 x27 x28) (zs8 x0 x1 x2 x3 x10 x13 x19 x7 x8 x28)
 def j0r:=Ji ((↑x28.1:Int)<(↑x9:Int)) (j0s x0 x1 x2 x3 x4 x5 x6 x7 x8 x9 x10 x11 x12 x13 x14 x15 x16 x17 x18 x19 x20 x21 x22 x23 x24 x25 x26 x27 x28) (zs8 x0 x1 x2 x3 x10 x13 x19 x7 x8 x28)
 def j0q:=(∃(i0:Nat×Int×Int×Int×List GV),x0=x0/\x1=x1/\(↑i0.1:Int)=0/\zbf x2 x3 (i0.2.1=x4/\i0.2.2.1=x5+1/\i0.2.2.2.1=lmX (x5+1) x1 x6/\length i0.2.2.2.2=0/\x10=x10/\x8=x8/\x11=x11/\x9=x9/\x12=x12/\x13=x13/\x14=x14/\x15=x15/\x16=x16/\x17=x17/\x18=x18/\x19=x19/\x20=x20/\x21=x21/\x22=x22/\x23=x23/\x24=x24/\x25=x25/\zfs x2 x3 x7 x26/\(∀i2,z12 x2 x3 x7 x26 i2->GV.oks i0.2.2.2.2 i2)/\rrI x7 x0 x1 x26 x4 (x5+1) i0.1 i0.2.1 i0.2.2.1 i0.2.2.2.1 i0.2.2.2.2/\True))/\∀(i3:Nat×Int×Int×Int×List GV),rrI x7 x0 x1 x26 x4 (x5+1) i3.1 i3.2.1 i3.2.2.1 i3.2.2.2.1 i3.2.2.2.2->(∃i4,(z12 x2 x3 x7 x26 i4)/\GV.oks i3.2.2.2.2 i4)->j0r x1 x0 x2 x3 x10 x13 x19 x7 x26 x21 x4 x20 x27 x5 x11 x9 x12 x17 x8 x6 x14 x15 x16 x23 x22 x24 x18 x25 i3
 def j12:=z09 x36.1 x36.2.1.1 x29/\AT.ok x36.2.2.1 x29/\x36.2.1.2.1.2.1=size x36.2.1.2.2.1/\qil x29 x36.2.1.2.1.1 x36.2.1.2.1.2.1 x36.2.1.2.1.2.2 (q1h x36.2.1.2.2.1)
 def j0x:=(kPa x0=true->∃(i0:RbS),AT.k i0.2.2.1=x0/\AT.nm i0.2.2.1=x8/\(AT.al i0.2.2.1).1=x11/\(AT.al i0.2.2.1).2.1=x9/\(AT.al i0.2.2.1).2.2=x12/\AT.it i0.2.2.1=x1/\(AT.sy i0.2.2.1).1=x14/\(AT.sy i0.2.2.1).2.1=x15/\(AT.sy i0.2.2.1).2.2=x16/\AT.hd i0.2.2.1=x17/\AT.df i0.2.2.1=x18/\AT.sz i0.2.2.1=x4/\(AT.f i0.2.2.1).1=x20/\(AT.f i0.2.2.1).2.1=x21/\(AT.f i0.2.2.1).2.2=x22/\(AT.br i0.2.2.1).1=x23/\(AT.br i0.2.2.1).2.1=x24/\(AT.br i0.2.2.1).2.2=x25/\i0.2.2.2=x5/\i0.2.1.1.1=x2.1/\i0.2.1.1.2.1=x2.2.1/\i0.2.1.1.2.2=x2.2.2/\i0.2.1.2.1.1=x3.1/\i0.2.1.2.1.2.1=x3.2.1/\i0.2.1.2.1.2.2=x3.2.2/\i0.2.1.2.2.2.1=x6/\i0.2.1.2.2.2.2.1=x10+1/\i0.2.1.2.2.2.2.2=lmX (x10+1) x5 x13/\(zgd i0<x27+1/\okS i0.1/\i0.2.2.1∈i0.1/\kdP i0.2.2.1/\z0x i0.2.1.2.2.1 i0.2.1.2.2.2.1/\(0<=i0.2.1.2.2.2.2.1/\i0.2.1.2.2.2.2.1<=2000)/\i0.2.1.2.2.2.2.2=0/\1<=i0.2.2.2/\i0.2.2.2<=20)/\(∀i1,z12 x2 x3 x7 x26 i1->j12 i1 i0)/\∀(i2:RvB),z0v (bvX (gvX i0.1 i0.2.1.2.2.1 i0.2.2.2) i0.2.1.2.2.1 i0.2.2.1 (toNat i0.2.1.2.2.2.1) (toNat i0.2.1.2.2.2.2.1)) i0.2.1.2.2.1 i0.2.1.2.2.2.1 i0.2.1.2.2.2.2.1 0 i2->(∃i3,(z12 x2 x3 x7 x26 i3)/\GV.ok i2.1 i3)->∃(i4:RvB),GV.n i4.1=GV.n i2.1/\GV.s i4.1=GV.s i2.1/\(GV.x i4.1).1=(GV.x i2.1).1/\(GV.x i4.1).2.1=(GV.x i2.1).2.1/\(GV.x i4.1).2.2=(GV.x i2.1).2.2/\(GV.y i4.1).1=(GV.y i2.1).1/\(GV.y i4.1).2.1=(GV.y i2.1).2.1/\(GV.y i4.1).2.2=(GV.y i2.1).2.2/\GV.b i4.1=GV.b i2.1/\x2.1=i0.2.1.1.1/\x2.2.1=i0.2.1.1.2.1/\x2.2.2=i0.2.1.1.2.2/\x3.1=i0.2.1.2.1.1/\x3.2.1=i0.2.1.2.1.2.1/\x3.2.2=i0.2.1.2.1.2.2/\i4.2.1=i2.2.1/\i4.2.2.1=i2.2.2.1/\i4.2.2.2=i2.2.2.2/\zfr x5 x19 x6 x10 x13 x7 x26 i4/\(∀i5,(z12 x2 x3 x7 x26 i5)/\GV.ok i2.1 i5->GV.ok i4.1 i5)/\True)/\(kPa x0=false->zsq x6 x10 x2 x3 x5 x13 x19 x7 x26)
 def j0v:=(Ji (x0=12) (∃(i0:Unit),x1=x1/\x0=x0/\x4=x4/\kPa x0=decide (x0=12)/\z87 x5 x6 x2 x3 x4 x10 x0 x7 x8 x9 x13 x11 x12 x19 x14 x15 x16 x17 x18 x20 x21 x22 x23 x24 x25 x26) (∃(i2:Unit),x1=x1/\x0=x0/\x4=x4/\kPa x0=decide (x0=13)/\z87 x5 x6 x2 x3 x4 x10 x0 x7 x8 x9 x13 x11 x12 x19 x14 x15 x16 x17 x18 x20 x21 x22 x23 x24 x25 x26))/\∀(i4:Unit),True->j0x x0 x13 x2 x3 x19 x4 x5 x7 x8 x9 x6 x11 x12 x10 x14 x15 x16 x17 x18 x1 x20 x21 x22 x23 x24 x25 x26 x27
 def j0p:=Ji (x0=9) (j0q x1 x4 x2 x3 x5 x6 x10 x7 x8 x9 x0 x11 x12 x13 x14 x15 x16 x17 x18 x19 x20 x21 x22 x23 x24 x25 x26 x27) (j0v x0 x1 x2 x3 x4 x5 x6 x7 x8 x9 x10 x11 x12 x13 x14 x15 x16 x17 x18 x19 x20 x21 x22 x23 x24 x25 x26 x27)
 def j0o:=Ji (x0=14) (∃(i0:DcR×Int),i0.2=(↑x9:Int)/\zbg x1 x4 x2 x3 x5 x6 i0 (zkg x2 x3 x7 x8 i0 (Ji ((z3n i0).2.2=0) (j0y x5 x10 x2 x3 x1 x4 x6 x7 x8 x9 x11 x12 i0) (∃(i14:RvB),zft i14 (zsn i14 (zfq i14 (GV.b i14.1=(z3n i0).1/\zkc x2 x3 i0 (zso i14 i0 (z73 x5 x10 x2 x3 x1 x4 x6 x7 x8 i14))))))))) (j0p x0 x10 x2 x3 x5 x1 x4 x7 x18 x15 x6 x14 x16 x13 x20 x21 x22 x17 x26 x19 x23 x24 x25 x11 x9 x27 x8 x12)
 def j0n:=Ji (x0=11) (∃(i0:DcR×Int),i0.2=x1/\zbg x4 x5 x2 x3 x6 x10 i0 (zkg x2 x3 x7 x8 i0 (∃(i2:RvB),GV.n i2.1=0/\GV.s i2.1=(z88 i0).1/\zkb x6 x13 x2 x3 x4 x5 x10 x7 x8 i2 i0))) (j0o x0 x4 x2 x3 x5 x6 x10 x7 x8 x9 x13 x11 x12 x19 x14 x15 x16 x17 x18 x1 x20 x21 x22 x23 x24 x25 x26 x27)
 def jdq:=Ji (x0=10) (∃(i0:DcR×Int),i0.2=(↑x9:Int)/\zbg x1 x4 x2 x3 x5 x6 i0 (zkg x2 x3 x7 x8 i0 (∃(i2:RvB),GV.n i2.1=IntKind.wrap u64 (z3n i0).1/\GV.s i2.1=mkS []/\z86 i2 (zkc x2 x3 i0 (zso i2 i0 (z73 x5 x10 x2 x3 x1 x4 x6 x7 x8 i2)))))) (j0n x0 x13 x2 x3 x1 x4 x5 x7 x8 x12 x6 x11 x15 x10 x14 x16 x21 x17 x18 x19 x20 x9 x22 x23 x24 x25 x26 x27)
 def jdp:=(kBt x0=true->∃(i0:DcR),zsd x1 x4 x2 x3 x5 x6 x7 x8 i0 (Ji (x0=8) (j0z x5 x10 x2 x3 x1 x4 x6 x7 x8 i0) (zsl x5 x10 x2 x3 x1 x4 x6 x7 x8 i0)))/\(kBt x0=false->jdq x0 x1 x2 x3 x4 x5 x6 x7 x8 x9 x10 x11 x12 x13 x14 x15 x16 x17 x18 x19 x20 x21 x22 x23 x24 x25 x26 x27)
 def jdo:=(Ji (x0=7) (∃(i0:Unit),x1=x1/\kBt x0=decide (x0=7)/\x0=x0/\x4=x4/\z87 x5 x6 x2 x3 x4 x10 x0 x7 x8 x9 x13 x11 x12 x19 x14 x15 x16 x17 x18 x20 x21 x22 x23 x24 x25 x26) (∃(i2:Unit),x1=x1/\kBt x0=decide (x0=8)/\x0=x0/\x4=x4/\z87 x5 x6 x2 x3 x4 x10 x0 x7 x8 x9 x13 x11 x12 x19 x14 x15 x16 x17 x18 x20 x21 x22 x23 x24 x25 x26))/\∀(i4:Unit),True->jdp x0 x5 x2 x3 x6 x4 x10 x7 x26 x15 x1 x23 x24 x19 x11 x27 x9 x17 x8 x13 x14 x12 x16 x20 x21 x22 x18 x25
 def jdn:=zsi x0 x1 x2 x3 x4 x5 x6 x7 x8 x10 6 8/\(Jf (x0=6)->jdo x0 x10 x2 x3 x5 x1 x4 x7 x18 x9 x6 x11 x12 x13 x14 x15 x16 x17 x26 x19 x20 x21 x22 x23 x24 x25 x8 x27)
 def jdm:=zsi x0 x1 x2 x3 x4 x5 x6 x7 x8 x10 5 4/\(Jf (x0=5)->jdn x0 x1 x2 x3 x4 x5 x6 x7 x8 x9 x10 x11 x12 x13 x14 x15 x16 x17 x18 x19 x20 x21 x22 x23 x24 x25 x26 x27)
 def jdl:=(kIt x0=true->∃(i0:DcR),zsd x1 x4 x2 x3 x5 x6 x7 x8 i0 (Ji (x0=3) (j0w x5 x10 x2 x3 x1 x4 x6 x7 x8 i0) (zsk x5 x10 x2 x3 x1 x4 x6 x7 x8 i0)))/\(kIt x0=false->jdm x0 x1 x2 x3 x4 x5 x6 x7 x8 x9 x10 x11 x12 x13 x14 x15 x16 x17 x18 x19 x20 x21 x22 x23 x24 x25 x26 x27)
 def jdk:=(Ji (x0=3) (∃(i0:Unit),x1=x1/\x0=x0/\x4=x4/\kIt x0=decide (x0=3)/\z87 x5 x6 x2 x3 x4 x10 x0 x7 x8 x9 x13 x11 x12 x19 x14 x15 x16 x17 x18 x20 x21 x22 x23 x24 x25 x26) (∃(i2:Unit),x1=x1/\x0=x0/\x4=x4/\kIt x0=decide (x0=4)/\z87 x5 x6 x2 x3 x4 x10 x0 x7 x8 x9 x13 x11 x12 x19 x14 x15 x16 x17 x18 x20 x21 x22 x23 x24 x25 x26))/\∀(i4:Unit),True->jdl x0 x5 x2 x3 x6 x4 x10 x7 x26 x9 x1 x11 x12 x13 x14 x15 x16 x17 x8 x19 x20 x21 x22 x23 x24 x25 x18 x27
 def jdj:=(0<=x0/\x0<(↑x2.2.1:Int))/\x2.1≠noA/\∃(i0:Int),∃i1,∃i2,∃(i3:Nat),∃(i4:Nat),∃(i5:Int),∃i6,∃(i7:Nat),∃(i8:Nat),∃(i9:Bool),∃i10,∃(i11:Int),∃i12,∃(i13:Nat),∃(i14:Nat),∃i15,∃(i16:Nat),∃(i17:Nat),(∀i18,z12 x2 x3 x7 x8 i18->q3p i18 (adr x2.1 (toNat x0*10)) [int i64 i0,string i1,slice i2 i3 i4,int i64 i5,slice i6 i7 i8,bool i9,string i10,int i64 i11,slice i12 i13 i14,slice i15 i16 i17])/\Ji (i0=2) (∃(i19:DcR×Int),i19.2=1/\zbg x1 x4 x2 x3 x5 x6 i19 ((zkd i19 (i19.2<=8))/\(∀i20,z12 x2 x3 x7 x8 i20->zka i20 i19)/\Ji (1<(zfp i19)) (∃(i21:(Option Addr×Nat×Nat)×(Option Addr×Nat×Nat)×Int×Int×Int×Int),i21.2.2.2.2.2=2/\i21.1.1=i19.1.1.1/\i21.1.2.1=i19.1.1.2.1/\i21.1.2.2=i19.1.1.2.2/\i21.2.1.1=i19.1.2.1.1/\i21.2.1.2.1=i19.1.2.1.2.1/\i21.2.1.2.2=i19.1.2.1.2.2/\i21.2.2.1=(z88 i19).2.1/\i21.2.2.2.1=i19.1.2.2.2.2.1/\i21.2.2.2.2.1=(z88 i19).2.2/\True/\∃(i22:RvB),GV.n i22.1=(zfp i19)/\GV.s i22.1=mkS []/\zke x5 x0 x2 x3 x1 x4 x6 x7 x8 i22 i21) (∃(i24:RvB),GV.n i24.1=(zfp i19)/\GV.s i24.1=mkS []/\zkb x5 x0 x2 x3 x1 x4 x6 x7 x8 i24 i19))) (jdk i0 x0 x2 x3 x5 x1 x4 x7 i1 i3 x6 i2 i4 i5 i6 i7 i8 i9 i10 i11 i12 i13 i14 i15 i16 i17 x8 x9)
 def jdi:=((!decide (lmX (x0+1) x1 x4=0))=true->zsq x5 x0 x2 x3 x1 x4 x6 x7 x8)/\((!decide (lmX (x0+1) x1 x4=0))=false->jdj x6 x5 x2 x3 x0 x1 x4 x7 x8 x9)
 def jdh:=zkf x0/\(Ji (20<x1) (zsb x4 x0 x2 x3 x5 x6 x1 x7 x8) (j11 x0 x4 x2 x3 x5 x6 x1 x7 x8))/\∀(i8:Unit),True->jdi x0 x1 x2 x3 x5 x4 x6 x7 x8 x9
end
def zph(c:Nat) (S:List AT) (x y:SV) (D:ByteArray) (n all e t dp:Int):qm3 P (qh2 [(55,z34),(56,znu),(57,z43),(58,z6h),(60,z7f),(61,z6g),(59,z2h)]) (qi5 [(31,cRv.below z7q c),(62,(cRb kdP).below zgd (c+1))]) Go.Proofs.Tryz.f31 (cRv.below z7q (c+1)) (wRv) ⟨S,⟨x,y,D,n,all,e⟩,t,dp⟩=(z7q (S,(x,y,D,n,all,e),t,dp)<c+1/\okS S/\z0x D n/\(0<=all/\all<=2000)/\0<=e/\(0<=t/\t<(↑(length S):Int))/\1<=dp/\dp<=21->(∃(p:Pub),z12 x y S D p)->jdh all dp x y n e t S D c):=by kernel_rfl
def zxi:=λc S x y D n all e t dp=>Eq.trans (zph c S x y D n all e t dp) (by delta Ji Jb Jt Jf z12 zkf zs7 zfs zsb zsm zbf j11 zft zsn zfq z86 zfr z73 zsq zbg zkd zka z88 zfp zke zkc zkb z87 j13 zsd z65 zsg zs9 zsa zsk j10 j0w zsi z3o zsl j0z zkg z3n zso zse zsc zsj zsf zsh j0y j0u zk9 j0t zsp zs8 j0s j0r j0q j12 j0x j0v j0p j0o j0n jdq jdp jdo jdn jdm jdl jdk jdj jdi jdh;exact rfl)
section
variable (x0 x1:Int) (x2:SV) (x3:List AT) (x4:GJ) (x5:Int) (x6:Nat) (x7:ByteArray) (x8:Option Addr) (x9:Nat) (x10:Int) (x11:Option Addr) (x12 x13:Nat) (x14:Bool) (x15:ByteArray) (x16:Int) (x17:Option Addr) (x18 x19:Nat) (x20:Option Addr) (x21 x22 x23:Nat) (x24:Prop) (x25:VlB) (x26 x27:Int) (x28:ByteArray×Bool) (x29:VqS) (x30:VlB) (x31:Nat->Option Obj)
 abbrev z1m:=True/\z09 x3 x2 x31/\GJ.ok x4 x31
 abbrev zsz:=Jb (x0+1)
 def zbh:=GV.n x25.2.2=0/\GV.s x25.2.2=mkS []/\x24
 def zsy:=(GV.y x25.2.2).1=noA/\(GV.y x25.2.2).2.1=0/\(GV.y x25.2.2).2.2=0/\GV.b x25.2.2=0/\x24
 def zfu:=x2.1=x2.1/\x2.2.1=x2.2.1/\x2.2.2=x2.2.2/\x24
 def z4f:=(GV.x x25.2.2).1=noA/\(GV.x x25.2.2).2.1=0/\(GV.x x25.2.2).2.2=0/\zsy (x25.2.1=x1/\zfu x2 (x25.1=x0+1/\z0l x0 x25/\(∀i0,z1m x2 x3 x4 i0->GV.ok x25.2.2 i0)/\True)) x25
 def z1l:=decide (GJ.k x4=3)=decide (GJ.k x4=3)
 def z1k:=zfu x2 (x0+1=x0+1/\GJ.k x4=GJ.k x4/\GJ.n x4=GJ.n x4/\GJ.s x4=GJ.s x4/\(GJ.y x4).1=(GJ.y x4).1/\(GJ.y x4).2.1=(GJ.y x4).2.1/\(GJ.y x4).2.2=(GJ.y x4).2.2/\(GJ.x x4).1=(GJ.x x4).1/\(GJ.x x4).2.1=(GJ.x x4).2.1/\(GJ.x x4).2.2=(GJ.x x4).2.2/\x1=x1/\x7=x7/\x8=x8/\x6=x6/\x9=x9/\x5=x5/\x11=x11/\x12=x12/\x13=x13/\x14=x14/\x15=x15/\x10=x10/\x17=x17/\x18=x18/\x19=x19/\x20=x20/\x21=x21/\x22=x22/\(∀i0,z1m x2 x3 x4 i0->z1m x2 x3 x4 i0)/\True/\x24)
 def z89:=(Ji (x0=x26) (∃(i0:Unit),x1=x1/\z1l x4/\bq x26 x27 (GJ.k x4) x0=decide (GJ.k x4=x27)/\z1k x5 x0 x2 x3 x4 x10 x6 x7 x8 x9 x16 x11 x12 x13 x14 x15 x17 x18 x19 x20 x21 x22 True) (∃(i1:Unit),x1=x1/\z1l x4/\bq x26 x27 (GJ.k x4) x0=false/\z1k x5 x0 x2 x3 x4 x10 x6 x7 x8 x9 x16 x11 x12 x13 x14 x15 x17 x18 x19 x20 x21 x22 True))
 def zsw:=(Ji (x0=x26) (∃(i0:Unit),x1=x1/\bq x26 x27 (GJ.k x4) x0=decide (GJ.k x4=x27)/\z1l x4/\z1k x5 x0 x2 x3 x4 x10 x6 x7 x8 x9 x16 x11 x12 x13 x14 x15 x17 x18 x19 x20 x21 x22 True) (∃(i1:Unit),x1=x1/\bq x26 x27 (GJ.k x4) x0=false/\z1l x4/\z1k x5 x0 x2 x3 x4 x10 x6 x7 x8 x9 x16 x11 x12 x13 x14 x15 x17 x18 x19 x20 x21 x22 True))
 def zt0:=∃(i0:VlB),GV.n i0.2.2=IntKind.wrap u64 (GJ.n x4)/\GV.s i0.2.2=mkS []/\z4f x0 0 x2 x3 x4 i0
 def j1p:=Ji ((-2147483648:Int)<=GJ.n x4) (∃(i0:Unit),x0=x0/\z1l x4/\bI (GJ.k x4) (GJ.n x4) x1=decide (GJ.n x4<2147483648)/\z1k x5 x1 x2 x3 x4 x10 x6 x7 x8 x9 x16 x11 x12 x13 x14 x15 x17 x18 x19 x20 x21 x22 True) (∃(i1:Unit),x0=x0/\z1l x4/\bI (GJ.k x4) (GJ.n x4) x1=false/\z1k x5 x1 x2 x3 x4 x10 x6 x7 x8 x9 x16 x11 x12 x13 x14 x15 x17 x18 x19 x20 x21 x22 True)
 def j1l:=Ji (GJ.k x4=3) (j1p x0 x1 x2 x3 x4 x5 x6 x7 x8 x9 x10 x11 x12 x13 x14 x15 x16 x17 x18 x19 x20 x21 x22) (∃(i2:Unit),x0=x0/\z1l x4/\bI (GJ.k x4) (GJ.n x4) x1=false/\z1k x5 x1 x2 x3 x4 x10 x6 x7 x8 x9 x16 x11 x12 x13 x14 x15 x17 x18 x19 x20 x21 x22 True)
 def j1q:=Ji (x0=4) (∃(i0:Unit),x1=x1/\z1l x4/\bN (GJ.k x4) (GJ.n x4) x0=decide (GJ.k x4=3)/\z1k x5 x0 x2 x3 x4 x10 x6 x7 x8 x9 x16 x11 x12 x13 x14 x15 x17 x18 x19 x20 x21 x22 True) (∃(i1:Unit),x1=x1/\z1l x4/\bN (GJ.k x4) (GJ.n x4) x0=false/\z1k x5 x0 x2 x3 x4 x10 x6 x7 x8 x9 x16 x11 x12 x13 x14 x15 x17 x18 x19 x20 x21 x22 True)
 def j1o:=(bI (GJ.k x4) (GJ.n x4) x0=true->∃(i0:Unit),x1=x1/\z1l x4/\bN (GJ.k x4) (GJ.n x4) x0=bI (GJ.k x4) (GJ.n x4) x0/\z1k x5 x0 x2 x3 x4 x10 x6 x7 x8 x9 x16 x11 x12 x13 x14 x15 x17 x18 x19 x20 x21 x22 True)/\(bI (GJ.k x4) (GJ.n x4) x0=false->j1q x0 x1 x2 x3 x4 x5 x6 x7 x8 x9 x10 x11 x12 x13 x14 x15 x16 x17 x18 x19 x20 x21 x22)
 def j1s:=Ji (x0=11) (∃(i0:Unit),x1=x1/\z1l x4/\bT (GJ.k x4) x0=decide (GJ.k x4=4)/\z1k x5 x0 x2 x3 x4 x10 x6 x7 x8 x9 x16 x11 x12 x13 x14 x15 x17 x18 x19 x20 x21 x22 True) (∃(i1:Unit),x1=x1/\z1l x4/\bT (GJ.k x4) x0=false/\z1k x5 x0 x2 x3 x4 x10 x6 x7 x8 x9 x16 x11 x12 x13 x14 x15 x17 x18 x19 x20 x21 x22 True)
 def z8a:=zfu x2 (x0+1=x0+1/\(∀i0,z1m x2 x3 x4 i0->z1m x2 x3 x4 i0)/\True/\True)
 def j1r:=Ji (x0=7) (∃(i0:Bool),x28.1=x28.1/\i0=true/\z8a x1 x2 x3 x4) (∃(i1:Bool),x28.1=x28.1/\i1=decide ((↑(size x28.1):Int)=x5)/\z8a x1 x2 x3 x4)
 def j1u:=(x14=true->∃(i0:VlB),GV.n i0.2.2=0/\GV.s i0.2.2=x28.1/\z4f x0 0 x2 x3 x4 i0)/\(x14=false->∃(i1:Unit),z8a x0 x2 x3 x4)
 def j1i:=((x28.2=true->j1r x0 x1 x2 x3 x4 x5 x28)/\(x28.2=false->∃(i4:Bool),x28.1=x28.1/\i4=false/\z8a x1 x2 x3 x4))/\∀(i6:Bool),True->j1u x1 x2 x3 x4 i6 x28
 def j1m:=(0<=(↑x6:Int)/\(↑x6:Int)<(↑x9:Int))/\x8≠noA/\∃i0,(∀i1,z1m x2 x3 x4 i1->q3p i1 (adr x8 (toNat (↑x6:Int)*1)) [string i0])/\Ji (i0=GJ.s x4) (∃(i2:VlB),GV.n i2.2.2=IntKind.wrap u64 (↑x6:Int)/\GV.s i2.2.2=mkS []/\z4f x0 0 x2 x3 x4 i2) (Jb ((↑x6:Int)+1)/\∃(i3:Nat),x1=x1/\z1l x4/\(↑i3:Int)=(↑x6:Int)+1/\z1k x0 x5 x2 x3 x4 x10 x12 x7 x11 x13 x16 x8 x9 x18 x14 x15 x17 x19 x21 x20 x22 x23 ((1000:Nat)- i3<1000- x6/\True))
 def j1k:=Ji ((↑x6:Int)<(↑x9:Int)) (j1m x0 x1 x2 x3 x4 x5 x6 x7 x8 x9 x10 x11 x12 x13 x14 x15 x16 x17 x18 x19 x20 x21 x22 x23) (∃(i4:Unit),z8a x0 x2 x3 x4)
 def j1j:=(∃(i0:Nat),x0=x0/\z1l x4/\(↑i0:Int)=0/\z1k x1 x5 x2 x3 x4 x10 x6 x7 x8 x9 x16 x11 x12 x13 x14 x15 x17 x18 x19 x20 x21 x22 True)/\∀(i1:Nat),True->j1k x1 x0 x2 x3 x4 x5 i1 x7 x11 x12 x10 x8 x6 x9 x14 x15 x16 x17 x13 x18 x20 x19 x21 x22
 def j1t:=Ji (x0=13) (∃(i0:Unit),x1=x1/\z1l x4/\bP (GJ.k x4) x0=decide (GJ.k x4=6)/\z1k x5 x0 x2 x3 x4 x10 x6 x7 x8 x9 x16 x11 x12 x13 x14 x15 x17 x18 x19 x20 x21 x22 True) (∃(i1:Unit),x1=x1/\z1l x4/\bP (GJ.k x4) x0=false/\z1k x5 x0 x2 x3 x4 x10 x6 x7 x8 x9 x16 x11 x12 x13 x14 x15 x17 x18 x19 x20 x21 x22 True)
 def j1n:=(bq 12 5 (GJ.k x4) x0=true->∃(i0:Unit),x1=x1/\z1l x4/\bP (GJ.k x4) x0=bq 12 5 (GJ.k x4) x0/\z1k x5 x0 x2 x3 x4 x10 x6 x7 x8 x9 x16 x11 x12 x13 x14 x15 x17 x18 x19 x20 x21 x22 True)/\(bq 12 5 (GJ.k x4) x0=false->j1t x0 x1 x2 x3 x4 x5 x6 x7 x8 x9 x10 x11 x12 x13 x14 x15 x16 x17 x18 x19 x20 x21 x22)
 def zss:=AT.k x29.2.2.2.1=x0/\AT.nm x29.2.2.2.1=x7/\(AT.al x29.2.2.2.1).1=x8/\(AT.al x29.2.2.2.1).2.1=x6/\(AT.al x29.2.2.2.1).2.2=x9/\AT.it x29.2.2.2.1=x1/\(AT.sy x29.2.2.2.1).1=x11/\(AT.sy x29.2.2.2.1).2.1=x12/\(AT.sy x29.2.2.2.1).2.2=x13/\AT.hd x29.2.2.2.1=x14/\AT.df x29.2.2.2.1=x15/\AT.sz x29.2.2.2.1=x5/\(AT.f x29.2.2.2.1).1=x17/\(AT.f x29.2.2.2.1).2.1=x18/\(AT.f x29.2.2.2.1).2.2=x19/\(AT.br x29.2.2.2.1).1=x20/\(AT.br x29.2.2.2.1).2.1=x21/\(AT.br x29.2.2.2.1).2.2=x22/\GJ.k x29.2.2.2.2.1=GJ.k x4/\GJ.n x29.2.2.2.2.1=GJ.n x4/\GJ.s x29.2.2.2.2.1=GJ.s x4/\(GJ.y x29.2.2.2.2.1).1=(GJ.y x4).1/\(GJ.y x29.2.2.2.2.1).2.1=(GJ.y x4).2.1/\(GJ.y x29.2.2.2.2.1).2.2=(GJ.y x4).2.2/\(GJ.x x29.2.2.2.2.1).1=(GJ.x x4).1/\(GJ.x x29.2.2.2.2.1).2.1=(GJ.x x4).2.1/\(GJ.x x29.2.2.2.2.1).2.2=(GJ.x x4).2.2/\x29.2.2.2.2.2=x10/\x29.2.1.1=x2.1/\x29.2.1.2.1=x2.2.1/\x29.2.1.2.2=x2.2.2/\x29.2.2.1=x16+1/\x24
 def zsx:=GJ.wf x29.2.2.2.2.1/\(0<=x29.2.2.1/\x29.2.2.1<=2000)/\1<=x29.2.2.2.2.2/\x29.2.2.2.2.2<=20
 def zsu:=GV.n x25.2.2=GV.n x30.2.2/\GV.s x25.2.2=GV.s x30.2.2/\(GV.x x25.2.2).1=(GV.x x30.2.2).1/\(GV.x x25.2.2).2.1=(GV.x x30.2.2).2.1/\(GV.x x25.2.2).2.2=(GV.x x30.2.2).2.2/\(GV.y x25.2.2).1=(GV.y x30.2.2).1/\(GV.y x25.2.2).2.1=(GV.y x30.2.2).2.1/\(GV.y x25.2.2).2.2=(GV.y x30.2.2).2.2/\GV.b x25.2.2=GV.b x30.2.2/\x24
 def zst:=(∀i0,z1m x2 x3 x4 i0->z09 x29.1 x29.2.1 i0/\AT.ok x29.2.2.2.1 i0/\GJ.ok x29.2.2.2.2.1 i0)/\∀(i1:VlB),z0l x29.2.2.1 i1->(∃i2,(z1m x2 x3 x4 i2)/\GV.ok i1.2.2 i2)->∃(i3:VlB),zsu (i3.2.1=i1.2.1/\x2.1=x29.2.1.1/\x2.2.1=x29.2.1.2.1/\x2.2.2=x29.2.1.2.2/\i3.1=i1.1/\z0l x0 i3/\(∀i4,(z1m x2 x3 x4 i4)/\GV.ok i1.2.2 i4->GV.ok i3.2.2 i4)/\True) i3 i1
 def zsr:=((0:Int)<=0/\0<(↑x6:Int))/\x8≠noA/\∃(i0:Int),(∀i1,z1m x2 x3 x4 i1->q3p i1 (adr x8 ((0:Nat)*1)) [int i64 i0])/\zsz x0/\∃(i2:VlS),i2.2.2.2.1=i0/\GJ.k i2.2.2.2.2.1=GJ.k x4/\GJ.n i2.2.2.2.2.1=GJ.n x4/\GJ.s i2.2.2.2.2.1=GJ.s x4/\(GJ.y i2.2.2.2.2.1).1=(GJ.y x4).1/\(GJ.y i2.2.2.2.2.1).2.1=(GJ.y x4).2.1/\(GJ.y i2.2.2.2.2.1).2.2=(GJ.y x4).2.2/\(GJ.x i2.2.2.2.2.1).1=(GJ.x x4).1/\(GJ.x i2.2.2.2.2.1).2.1=(GJ.x x4).2.1/\(GJ.x i2.2.2.2.2.1).2.2=(GJ.x x4).2.2/\i2.2.2.2.2.2=x0+1/\i2.2.1.1=x2.1/\i2.2.1.2.1=x2.2.1/\i2.2.1.2.2=x2.2.2/\i2.2.2.1=x1+1/\(z6m i2<x9/\z0w i2.1/\(0<=i2.2.2.2.1/\i2.2.2.2.1<(↑(length i2.1):Int))/\GJ.wf i2.2.2.2.2.1/\(0<=i2.2.2.1/\i2.2.2.1<=2000)/\1<=i2.2.2.2.2.2/\i2.2.2.2.2.2<=21)/\(∀i3,z1m x2 x3 x4 i3->z09 i2.1 i2.2.1 i3/\GJ.ok i2.2.2.2.2.1 i3)/\∀(i4:VlB),z0l i2.2.2.1 i4->(∃i5,(z1m x2 x3 x4 i5)/\GV.ok i4.2.2 i5)->∃(i6:VlB),i6.2.1=i4.2.1/\x2.1=i2.2.1.1/\x2.2.1=i2.2.1.2.1/\x2.2.2=i2.2.1.2.2/\i6.1=i4.1/\zsu ((∀i7,(z1m x2 x3 x4 i7)/\GV.ok i4.2.2 i7->z1m x2 x3 x4 i7)/\(∀i8,(z1m x2 x3 x4 i8)/\GV.ok i4.2.2 i8->GV.ok i6.2.2 i8)/\z0l x1 i6/\True) i6 i4
 def zsv:=((z1m x2 x3 x4 x31)/\GV.ok x25.2.2 x31)/\q3p x31 (Addr.mk x6 x9 none) [int u64 (GV.n x25.2.2),string (GV.s x25.2.2),slice (GV.x x25.2.2).1 (GV.x x25.2.2).2.1 (GV.x x25.2.2).2.2,slice (GV.y x25.2.2).1 (GV.y x25.2.2).2.1 (GV.y x25.2.2).2.2,int i64 (GV.b x25.2.2)]
 def j1h:=((zsr x0 x1 x2 x3 x4 x6 x8 x9)/\zsr x0 x1 x2 x3 x4 x6 x8 x9)/\∀(i18:VlB),z0l x1 i18->(∃i19,(z1m x2 x3 x4 i19)/\GV.ok i18.2.2 i19)->∀(i20 i21 i22:Nat),(∃i23,zsv x2 x3 x4 i20 i21 i18 i23)->∃(i24:VlB),zbh ((GV.x i24.2.2).1=some (Addr.mk i20 (i21+nat_lit 0) none)/\(GV.x i24.2.2).2.1=nat_lit 1/\(GV.x i24.2.2).2.2=nat_lit 1/\zsy (i24.2.1=i18.2.1/\zfu x2 (i24.1=i18.1/\z0l x1 i24/\(∀i25,zsv x2 x3 x4 i20 i21 i18 i25->GV.ok i24.2.2 i25)/\True)) i24) i24
 def j1g:=Ji (x0=14) (j1h x1 x5 x2 x3 x4 x6 x8 x9) (∃(i26:Unit),z8a x5 x2 x3 x4)
 def j1f:=(bq 9 6 (GJ.k x4) x0=true->∃(i0:VqS),zss x0 x1 x2 x4 x5 x6 x7 x8 x9 x10 x11 x12 x13 x14 x15 x16 x17 x18 x19 x20 x21 x22 ((z9f i0<x23+1/\z0w i0.1/\i0.2.2.2.1∈i0.1/\isRec i0.2.2.2.1 i0.2.2.2.2.1/\zsx i0)/\zst x16 x2 x3 x4 i0) i0)/\(bq 9 6 (GJ.k x4) x0=false->j1g x0 x10 x2 x3 x4 x16 x21 x20 x23)
 def j1e:=z89 x0 x1 x2 x3 x4 x5 x6 x7 x8 x9 x10 x11 x12 x13 x14 x15 x16 x17 x18 x19 x20 x21 x22 9 6/\∀(i2:Unit),True->j1f x0 x10 x2 x3 x4 x16 x6 x7 x8 x9 x1 x11 x12 x13 x14 x15 x5 x17 x18 x19 x20 x21 x22 x23
 def j1d:=(bP (GJ.k x4) x0=true->∃(i0:VqS),zss x0 x1 x2 x4 x5 x6 x7 x8 x9 x10 x11 x12 x13 x14 x15 x16 x17 x18 x19 x20 x21 x22 ((z9f i0<x23+1/\z0w i0.1/\i0.2.2.2.1∈i0.1/\zhf i0.2.2.2.1 i0.2.2.2.2.1/\zsx i0)/\zst x16 x2 x3 x4 i0) i0)/\(bP (GJ.k x4) x0=false->j1e x0 x10 x2 x3 x4 x16 x6 x7 x8 x9 x1 x11 x12 x13 x14 x15 x5 x17 x18 x19 x20 x21 x22 x23)
 def j1c:=(z89 x0 x1 x2 x3 x4 x5 x6 x7 x8 x9 x10 x11 x12 x13 x14 x15 x16 x17 x18 x19 x20 x21 x22 12 5/\∀(i2:Unit),True->j1n x0 x1 x2 x3 x4 x5 x6 x7 x8 x9 x10 x11 x12 x13 x14 x15 x16 x17 x18 x19 x20 x21 x22)/\∀(i6:Unit),True->j1d x0 x10 x2 x3 x4 x16 x6 x7 x8 x9 x1 x11 x12 x13 x14 x15 x5 x17 x18 x19 x20 x21 x22 x23
 def j1b:=(bq 10 4 (GJ.k x4) x0=true->j1j x1 x5 x2 x3 x4 x0 x6 x7 x8 x9 x10 x11 x12 x13 x14 x15 x16 x17 x18 x19 x20 x21 x22)/\(bq 10 4 (GJ.k x4) x0=false->j1c x0 x1 x2 x3 x4 x5 x6 x7 x8 x9 x10 x11 x12 x13 x14 x15 x16 x17 x18 x19 x20 x21 x22 x23)
 def j1a:=z89 x0 x1 x2 x3 x4 x5 x6 x7 x8 x9 x10 x11 x12 x13 x14 x15 x16 x17 x18 x19 x20 x21 x22 10 4/\∀(i4:Unit),True->j1b x0 x1 x2 x3 x4 x5 x6 x7 x8 x9 x10 x11 x12 x13 x14 x15 x16 x17 x18 x19 x20 x21 x22 x23
 def j19:=(bT (GJ.k x4) x0=true->∃i0,i0=GJ.s x4/\size i0<1000000/\∀(i1:ByteArray×Bool),size i1.1<=size i0->j1i x0 x1 x2 x3 x4 x5 i1)/\(bT (GJ.k x4) x0=false->j1a x0 x10 x2 x3 x4 x1 x6 x7 x8 x9 x16 x11 x12 x13 x14 x15 x5 x17 x18 x19 x20 x21 x22 x23)
 def j18:=(Ji (x0=7) (∃(i0:Unit),x1=x1/\z1l x4/\bT (GJ.k x4) x0=decide (GJ.k x4=4)/\z1k x5 x0 x2 x3 x4 x10 x6 x7 x8 x9 x16 x11 x12 x13 x14 x15 x17 x18 x19 x20 x21 x22 True) (j1s x0 x1 x2 x3 x4 x5 x6 x7 x8 x9 x10 x11 x12 x13 x14 x15 x16 x17 x18 x19 x20 x21 x22))/\∀(i6:Unit),True->j19 x0 x5 x2 x3 x4 x16 x6 x7 x8 x9 x1 x11 x12 x13 x14 x15 x10 x17 x18 x19 x20 x21 x22 x23
 def j17:=(bq 8 4 (GJ.k x4) x0=true->∃(i0:VlB),GV.n i0.2.2=0/\GV.s i0.2.2=GJ.s x4/\z4f x1 0 x2 x3 x4 i0)/\(bq 8 4 (GJ.k x4) x0=false->j18 x0 x5 x2 x3 x4 x1 x6 x7 x8 x9 x10 x11 x12 x13 x14 x15 x16 x17 x18 x19 x20 x21 x22 x23)
 def j16:=z89 x0 x1 x2 x3 x4 x5 x6 x7 x8 x9 x10 x11 x12 x13 x14 x15 x16 x17 x18 x19 x20 x21 x22 8 4/\∀(i4:Unit),True->j17 x0 x5 x2 x3 x4 x1 x6 x7 x8 x9 x10 x11 x12 x13 x14 x15 x16 x17 x18 x19 x20 x21 x22 x23
 def j15:=(bq 6 3 (GJ.k x4) x0=true->∃(i0:Int),i0=GJ.n x4/\zw1 i0/\∀(i1:Int),z6d i1->∃(i2:VlB),GV.n i2.2.2=i1/\GV.s i2.2.2=mkS []/\z4f x1 0 x2 x3 x4 i2)/\(bq 6 3 (GJ.k x4) x0=false->j16 x0 x5 x2 x3 x4 x1 x6 x7 x8 x9 x10 x11 x12 x13 x14 x15 x16 x17 x18 x19 x20 x21 x22 x23)
 def j14:=z89 x0 x1 x2 x3 x4 x5 x6 x7 x8 x9 x10 x11 x12 x13 x14 x15 x16 x17 x18 x19 x20 x21 x22 6 3/\∀(i4:Unit),True->j15 x0 x5 x2 x3 x4 x1 x6 x7 x8 x9 x10 x11 x12 x13 x14 x15 x16 x17 x18 x19 x20 x21 x22 x23
 def je0:=(bq 5 3 (GJ.k x4) x0=true->∃(i0:Int),i0=GJ.n x4/\zw1 i0/\∀(i1:Int),0<=i1/\i1<4294967296->(0<=i1/\i1<=18446744073709551615)/\∃(i2:VlB),GV.n i2.2.2=i1/\GV.s i2.2.2=mkS []/\z4f x1 0 x2 x3 x4 i2)/\(bq 5 3 (GJ.k x4) x0=false->j14 x0 x5 x2 x3 x4 x1 x6 x7 x8 x9 x10 x11 x12 x13 x14 x15 x16 x17 x18 x19 x20 x21 x22 x23)
 def jdz:=zsw x0 x1 x2 x3 x4 x5 x6 x7 x8 x9 x10 x11 x12 x13 x14 x15 x16 x17 x18 x19 x20 x21 x22 5 3/\∀(i4:Unit),True->je0 x0 x5 x2 x3 x4 x1 x6 x7 x8 x9 x10 x11 x12 x13 x14 x15 x16 x17 x18 x19 x20 x21 x22 x23
 def jdy:=(bN (GJ.k x4) (GJ.n x4) x0=true->zt0 x1 x2 x3 x4)/\(bN (GJ.k x4) (GJ.n x4) x0=false->jdz x0 x5 x2 x3 x4 x1 x6 x7 x8 x9 x10 x11 x12 x13 x14 x15 x16 x17 x18 x19 x20 x21 x22 x23)
 def jdx:=((Ji (x0=3) (j1l x1 x0 x2 x3 x4 x5 x6 x7 x8 x9 x10 x11 x12 x13 x14 x15 x16 x17 x18 x19 x20 x21 x22) (∃(i6:Unit),x1=x1/\z1l x4/\bI (GJ.k x4) (GJ.n x4) x0=false/\z1k x5 x0 x2 x3 x4 x10 x6 x7 x8 x9 x16 x11 x12 x13 x14 x15 x17 x18 x19 x20 x21 x22 True))/\∀(i8:Unit),True->j1o x0 x1 x2 x3 x4 x5 x6 x7 x8 x9 x10 x11 x12 x13 x14 x15 x16 x17 x18 x19 x20 x21 x22)/\∀(i15:Unit),True->jdy x0 x5 x2 x3 x4 x1 x6 x7 x8 x9 x10 x11 x12 x13 x14 x15 x16 x17 x18 x19 x20 x21 x22 x23
 def jdw:=(bq 2 2 (GJ.k x4) x0=true->zt0 x1 x2 x3 x4)/\(bq 2 2 (GJ.k x4) x0=false->jdx x0 x5 x2 x3 x4 x1 x6 x7 x8 x9 x10 x11 x12 x13 x14 x15 x16 x17 x18 x19 x20 x21 x22 x23)
 def jdv:=zsw x0 x1 x2 x3 x4 x5 x6 x7 x8 x9 x10 x11 x12 x13 x14 x15 x16 x17 x18 x19 x20 x21 x22 2 2/\∀(i4:Unit),True->jdw x0 x5 x2 x3 x4 x1 x6 x7 x8 x9 x10 x11 x12 x13 x14 x15 x16 x17 x18 x19 x20 x21 x22 x23
 def jdu:=(bq 1 1 (GJ.k x4) x0=true->∃(i0:VlB),zbh (z4f x1 0 x2 x3 x4 i0) i0)/\(bq 1 1 (GJ.k x4) x0=false->jdv x0 x5 x2 x3 x4 x1 x6 x7 x8 x9 x10 x11 x12 x13 x14 x15 x16 x17 x18 x19 x20 x21 x22 x23)
 def jdt:=(0<=x0/\x0<(↑x2.2.1:Int))/\x2.1≠noA/\∃(i0:Int),∃i1,∃i2,∃(i3:Nat),∃(i4:Nat),∃(i5:Int),∃i6,∃(i7:Nat),∃(i8:Nat),∃(i9:Bool),∃i10,∃(i11:Int),∃i12,∃(i13:Nat),∃(i14:Nat),∃i15,∃(i16:Nat),∃(i17:Nat),(∀i18,z1m x2 x3 x4 i18->q3p i18 (adr x2.1 (toNat x0*10)) [int i64 i0,string i1,slice i2 i3 i4,int i64 i5,slice i6 i7 i8,bool i9,string i10,int i64 i11,slice i12 i13 i14,slice i15 i16 i17])/\(z89 i0 x1 x2 x3 x4 x5 i3 i1 i2 i4 i5 i6 i7 i8 i9 i10 i11 i12 i13 i14 i15 i16 i17 1 1/\∀(i23:Unit),True->jdu i0 x5 x2 x3 x4 x1 i3 i1 i2 i4 i5 i6 i7 i8 i9 i10 i11 i12 i13 i14 i15 i16 i17 x6)/\∀(i169:Unit),True->∃(i170:VlB),zbh (z4f x5 7 x2 x3 x4 i170) i170
 def jds:=Ji (2000<x0+1) (∃(i0:VlB),zbh (z4f x0 3 x2 x3 x4 i0) i0) (jdt x1 x5 x2 x3 x4 x0 x6)
 def jdr:=zsz x0/\Ji (20<x1) (∃(i0:VlB),zbh (z4f x0 3 x2 x3 x4 i0) i0) (jds x0 x5 x2 x3 x4 x1 x6)
end
def zy0(n:Nat) (S:List AT) (x:SV) (all t:Int) (g:GJ) (d:Int):qm3 P (qh2 []) (qi5 [(74,cVl.below z6m n),(111,(cVq zhf).below z9f (n+1)),(112,(cVq isRec).below z9f (n+1)),(108,zc1),(109,z7e),(110,j3c)]) Go.Proofs.Tryz.f74 (cVl.below z6m (n+1)) (wVl) ⟨S,x,all,t,g,d⟩=(z6m (S,x,all,t,g,d)<n+1/\z0w S/\(0<=t/\t<(↑(length S):Int))/\GJ.wf g/\(0<=all/\all<=2000)/\1<=d/\d<=21->(∃(p:Pub),z1m x S g p)->jdr all d x S g t n):=by kernel_rfl
def j59:=λn S x all t g d=>Eq.trans (zy0 n S x all t g d) (by delta Ji Jb Jt Jf z1m zsz zbh zsy zfu z4f z1l z1k z89 zsw zt0 j1p j1l j1q j1o j1s z8a j1r j1u j1i j1m j1k j1j j1t j1n zss zsx zsu zst zsr zsv j1h j1g j1f j1e j1d j1c j1b j1a j19 j18 j17 j16 j15 j14 je0 jdz jdy jdx jdw jdv jdu jdt jds jdr;exact rfl)
section
variable (x0:Int) (x1:SV) (x2:Int) (x3:GJ) (x4:AT) (x5:List AT) (x6:Nat) (x7:Nat×Int×List GV) (x8:VlB) (x9:Prop) (x10:Nat->Option Obj)
 abbrev z8b:=True/\z09 x5 x1 x10/\AT.ok x4 x10/\GJ.ok x3 x10
 def zfv:=x1.1=x1.1/\x1.2.1=x1.2.1/\x1.2.2=x1.2.2/\x9
 def j49:=GJ.k x3=GJ.k x3/\GJ.n x3=GJ.n x3/\GJ.s x3=GJ.s x3/\(GJ.y x3).1=(GJ.y x3).1/\(GJ.y x3).2.1=(GJ.y x3).2.1/\(GJ.y x3).2.2=(GJ.y x3).2.2/\(GJ.x x3).1=(GJ.x x3).1/\(GJ.x x3).2.1=(GJ.x x3).2.1/\(GJ.x x3).2.2=(GJ.x x3).2.2/\x9
 def j48:=AT.k x4=AT.k x4/\AT.nm x4=AT.nm x4/\(AT.al x4).1=(AT.al x4).1/\(AT.al x4).2.1=(AT.al x4).2.1/\(AT.al x4).2.2=(AT.al x4).2.2/\AT.it x4=AT.it x4/\(AT.sy x4).1=(AT.sy x4).1/\(AT.sy x4).2.1=(AT.sy x4).2.1/\(AT.sy x4).2.2=(AT.sy x4).2.2/\AT.hd x4=AT.hd x4/\AT.df x4=AT.df x4/\AT.sz x4=AT.sz x4/\(AT.f x4).1=(AT.f x4).1/\(AT.f x4).2.1=(AT.f x4).2.1/\(AT.f x4).2.2=(AT.f x4).2.2/\(AT.br x4).1=(AT.br x4).1/\(AT.br x4).2.1=(AT.br x4).2.1/\(AT.br x4).2.2=(AT.br x4).2.2/\x9
 def zkh:=x7.1<=length (GJ.l x3)/\(x0<=x7.2.1/\x7.2.1<=2000)/\length x7.2.2=x7.1
 def z2m:=(z8b x1 x3 x4 x5 x10)/\GV.oks x7.2.2 x10
 abbrev zt2:=(↑x7.1:Int)<(↑(GJ.y x3).2.1:Int)
 abbrev j6k:=zj8 (T.n (T.n (T.n T.e (some (AO.cells 62 (some 0) false [AV.sv (int i64 (GJ.k x3)),AV.sv (int i64 (GJ.n x3)),AV.sv (string (GJ.s x3)),AV.sv (slice (GJ.y x3).1 (GJ.y x3).2.1 (GJ.y x3).2.2),AV.sv (slice (GJ.x x3).1 (GJ.x x3).2.1 (GJ.x x3).2.2)])) T.e) (some (AO.cells (130:TypeId) (some 0) false [AV.sv (slice x1.1 x1.2.1 x1.2.2),AV.sv (int i64 x7.2.1)])) (T.n T.e (some (AO.cells (36:TypeId) (some 0) false [AV.int u64 0,AV.str [],AV.ssl (nat_lit 6) (nat_lit 0) (length x7.2.2) (nat_lit 5) (nat_lit 7),AV.nsl,AV.int i64 0])) T.e)) none (T.n (T.n T.e (some (AO.cells 36 (some 0) false [AV.int u64 0,AV.str (List.map UInt8.toNat (Array.toList (ByteArray.data (mkS [])))),AV.nsl,AV.nsl,AV.int i64 0])) T.e) (some (AO.cells 55 (some 0) false [AV.sv (int i64 (AT.k x4)),AV.sv (string (AT.nm x4)),AV.sv (slice (AT.al x4).1 (AT.al x4).2.1 (AT.al x4).2.2),AV.sv (int i64 (AT.it x4)),AV.sv (slice (AT.sy x4).1 (AT.sy x4).2.1 (AT.sy x4).2.2),AV.sv (bool (AT.hd x4)),AV.sv (string (AT.df x4)),AV.sv (int i64 (AT.sz x4)),AV.sv (slice (AT.f x4).1 (AT.f x4).2.1 (AT.f x4).2.2),AV.sv (slice (AT.br x4).1 (AT.br x4).2.1 (AT.br x4).2.2)])) (T.n T.e (some (AO.row (36:TypeId) (nat_lit 0) (z00 GV.cells x7.2.2))) T.e)))
 def j6j:=(0<=(↑x7.1:Int)/\zt2 x3 x7)/\(GJ.y x3).1≠noA/\∃(i0:Int),∃(i1:Int),∃i2,∃i3,∃(i4:Nat),∃(i5:Nat),∃i6,∃(i7:Nat),∃(i8:Nat),(∀i9,z2m x1 x3 x4 x5 x7 i9->q3p i9 (adr (GJ.y x3).1 (toNat (↑x7.1:Int)*5)) [int i64 i0,int i64 i1,string i2,slice i3 i4 i5,slice i6 i7 i8])/\Jb (x0+1)/\∃(i10:VlS),i10.2.2.2.1=AT.it x4/\GJ.k i10.2.2.2.2.1=i0/\GJ.n i10.2.2.2.2.1=i1/\GJ.s i10.2.2.2.2.1=i2/\(GJ.y i10.2.2.2.2.1).1=i3/\(GJ.y i10.2.2.2.2.1).2.1=i4/\(GJ.y i10.2.2.2.2.1).2.2=i5/\(GJ.x i10.2.2.2.2.1).1=i6/\(GJ.x i10.2.2.2.2.1).2.1=i7/\(GJ.x i10.2.2.2.2.1).2.2=i8/\i10.2.2.2.2.2=x0+1/\i10.2.1.1=x1.1/\i10.2.1.2.1=x1.2.1/\i10.2.1.2.2=x1.2.2/\i10.2.2.1=x7.2.1/\(z6m i10<x6/\z0w i10.1/\(0<=i10.2.2.2.1/\i10.2.2.2.1<(↑(length i10.1):Int))/\GJ.wf i10.2.2.2.2.1/\(0<=i10.2.2.1/\i10.2.2.1<=2000)/\1<=i10.2.2.2.2.2/\i10.2.2.2.2.2<=21)/\(∀i11,z2m x1 x3 x4 x5 x7 i11->z09 i10.1 i10.2.1 i11/\GJ.ok i10.2.2.2.2.1 i11)/\∀(i12:VlB),z0l i10.2.2.1 i12->(∃i13,(z2m x1 x3 x4 x5 x7 i13)/\GV.ok i12.2.2 i13)->∃(i14:VlB),x0=x0/\(↑x7.1:Int)=(↑x7.1:Int)/\i14.2.1=i12.2.1/\x1.1=i10.2.1.1/\x1.2.1=i10.2.1.2.1/\x1.2.2=i10.2.1.2.2/\i14.1=i12.1/\j49 x3 (length x7.2.2=length x7.2.2/\j48 x4 (z00 GV.cells x7.2.2=z00 GV.cells x7.2.2/\GV.n i14.2.2=GV.n i12.2.2/\GV.s i14.2.2=GV.s i12.2.2/\(GV.x i14.2.2).1=(GV.x i12.2.2).1/\(GV.x i14.2.2).2.1=(GV.x i12.2.2).2.1/\(GV.x i14.2.2).2.2=(GV.x i12.2.2).2.2/\(GV.y i14.2.2).1=(GV.y i12.2.2).1/\(GV.y i14.2.2).2.1=(GV.y i12.2.2).2.1/\(GV.y i14.2.2).2.2=(GV.y i12.2.2).2.2/\GV.b i14.2.2=GV.b i12.2.2/\(∀i15,(z2m x1 x3 x4 x5 x7 i15)/\GV.ok i12.2.2 i15->z2m x1 x3 x4 x5 x7 i15)/\(∀i16,(z2m x1 x3 x4 x5 x7 i16)/\GV.ok i12.2.2 i16->GV.ok i14.2.2 i16)/\z0l (j6k x1 x3 x4 x7) i14/\True))
 def zt1:=(GV.y x8.2.2).1=noA/\(GV.y x8.2.2).2.1=0/\(GV.y x8.2.2).2.2=0/\GV.b x8.2.2=0/\x9
 def je6:=length (z00 GV.cells x7.2.2)=length x7.2.2*5/\(length x7.2.2+nat_lit 1)*80<=140737488355328/\Jb ((↑x7.1:Int)+1)/\∃(i0:Nat×Int×List GV),x0=x0/\(↑i0.1:Int)=(↑x7.1:Int)+1/\zfv x1 (i0.2.1=x8.1/\j49 x3 (length i0.2.2=length x7.2.2+nat_lit 1/\j48 x4 (z00 GV.cells i0.2.2=z00 GV.cells x7.2.2++[int u64 (GV.n x8.2.2),string (GV.s x8.2.2),slice (GV.x x8.2.2).1 (GV.x x8.2.2).2.1 (GV.x x8.2.2).2.2,slice (GV.y x8.2.2).1 (GV.y x8.2.2).2.1 (GV.y x8.2.2).2.2,int i64 (GV.b x8.2.2)]/\(∀i1,(z2m x1 x3 x4 x5 x7 i1)/\GV.ok x8.2.2 i1->z8b x1 x3 x4 x5 i1)/\(∀i2,(z2m x1 x3 x4 x5 x7 i2)/\GV.ok x8.2.2 i2->GV.oks i0.2.2 i2)/\(zkh x2 x3 i0)/\length (GJ.l x3)- i0.1<length (GJ.l x3)- x7.1/\True)))
 def j1v:=(0<=(↑x7.1:Int)/\(↑x7.1:Int)<(↑(GJ.x x3).2.1:Int))/\(GJ.x x3).1≠noA/\∃i0,(∀i1,(z2m x1 x3 x4 x5 x7 i1)/\GV.ok x8.2.2 i1->q3p i1 (adr (GJ.x x3).1 (toNat (↑x7.1:Int)*1)) [string i0])/\∃(i2:GV×ByteArray×GV),GV.n i2.1=0/\GV.s i2.1=mkS []/\False
 def je5:=Ji (AT.k x4=12) (je6 x0 x1 x2 x3 x4 x5 x7 x8) (j1v x1 x3 x4 x5 x7 x8)
 def je4:=((!decide (x8.2.1=0))=true->∃(i0:VlB),GV.n i0.2.2=0/\GV.s i0.2.2=mkS []/\(GV.x i0.2.2).1=noA/\(GV.x i0.2.2).2.1=0/\(GV.x i0.2.2).2.2=0/\zt1 i0 (i0.2.1=x8.2.1/\zfv x1 (i0.1=x8.1/\z0l x0 i0/\(∀i1,(z2m x1 x3 x4 x5 x7 i1)/\GV.ok x8.2.2 i1->GV.ok i0.2.2 i1)/\True)))/\((!decide (x8.2.1=0))=false->je5 x2 x1 x0 x3 x4 x5 x7 x8)
 def je3:=((j6j x0 x1 x3 x4 x5 x6 x7)/\j6j x0 x1 x3 x4 x5 x6 x7)/\∀(i34:VlB),z0l (j6k x1 x3 x4 x7) i34->(∃i35,(z2m x1 x3 x4 x5 x7 i35)/\GV.ok i34.2.2 i35)->je4 x2 x1 x0 x3 x4 x5 x7 i34
 def je2:=Ji (zt2 x3 x7) (je3 x0 x1 x2 x3 x4 x5 x6 x7) (∀(i44 i45 i46:Nat) (i47:Option Addr) (i48 i49:Nat),(∃i50,(z2m x1 x3 x4 x5 x7 i50)/\length x7.2.2<=i49/\qik i50 i47 (take (length x7.2.2*nat_lit 5) (z00 GV.cells x7.2.2)))->∃(i51:VlB),GV.n i51.2.2=0/\GV.s i51.2.2=mkS []/\(GV.x i51.2.2).1=i47/\(GV.x i51.2.2).2.1=length x7.2.2/\(GV.x i51.2.2).2.2=i49/\zt1 i51 (i51.2.1=0/\zfv x1 (i51.1=x7.2.1/\z0l x2 i51/\(∀i52,(z2m x1 x3 x4 x5 x7 i52)/\length x7.2.2<=i49/\qik i52 i47 (take (length x7.2.2*nat_lit 5) (z00 GV.cells x7.2.2))->GV.ok i51.2.2 i52)/\True)))
 def je1:=(∃(i0:Nat×Int×List GV),x0=x0/\(↑i0.1:Int)=0/\zfv x1 (i0.2.1=x2/\j49 x3 (length i0.2.2=0/\j48 x4 ((∀i1,z8b x1 x3 x4 x5 i1->z8b x1 x3 x4 x5 i1)/\(∀i2,z8b x1 x3 x4 x5 i2->GV.oks i0.2.2 i2)/\(zkh x2 x3 i0)/\True))))/\∀(i3:Nat×Int×List GV),zkh x2 x3 i3->(∃i4,z2m x1 x3 x4 x5 i3 i4)->je2 x0 x1 x2 x3 x4 x5 x6 i3
end
def zda(n:Nat) (S:List AT) (x:SV) (all:Int) (a:AT) (g:GJ) (d:Int):qm3 P (qh2 []) (qi5 [(74,cVl.below z6m n),(24,znw)]) Go.Proofs.Tryz.f111 ((cVq zof).below z9f (n+1)) (wPa) ⟨S,x,all,a,g,d⟩=(z9f (S,x,all,a,g,d)<n+1/\z0w S/\a∈S/\zof a g/\GJ.wf g/\(0<=all/\all<=2000)/\1<=d/\d<=20->(∃(p:Pub),z8b x g a S p)->je1 d x all g a S n):=by kernel_rfl
def zhz:=λn S x all a g d=>Eq.trans (zda n S x all a g d) (by delta Ji Jb Jt Jf z8b zfv j49 j48 zkh z2m zt2 j6k j6j zt1 je6 j1v je5 je4 je3 je2 je1;exact rfl)
section
variable (x0:Int) (x1:SV) (x2:Int) (x3:GJ) (x4:AT) (x5:List AT) (x6:Nat) (x7:Nat×Int×GV) (x8:VlB) (x9:GV) (x10:Prop) (x11:Nat->Option Obj)
 abbrev z8c:=True/\z09 x5 x1 x11/\AT.ok x4 x11/\GJ.ok x3 x11
 def zfw:=x1.1=x1.1/\x1.2.1=x1.2.1/\x1.2.2=x1.2.2/\x10
 def zki:=GJ.k x3=GJ.k x3/\GJ.n x3=GJ.n x3/\GJ.s x3=GJ.s x3/\(GJ.y x3).1=(GJ.y x3).1/\(GJ.y x3).2.1=(GJ.y x3).2.1/\(GJ.y x3).2.2=(GJ.y x3).2.2/\(GJ.x x3).1=(GJ.x x3).1/\(GJ.x x3).2.1=(GJ.x x3).2.1/\(GJ.x x3).2.2=(GJ.x x3).2.2/\x10
 def j4a:=AT.k x4=AT.k x4/\AT.nm x4=AT.nm x4/\(AT.al x4).1=(AT.al x4).1/\(AT.al x4).2.1=(AT.al x4).2.1/\(AT.al x4).2.2=(AT.al x4).2.2/\AT.it x4=AT.it x4/\(AT.sy x4).1=(AT.sy x4).1/\(AT.sy x4).2.1=(AT.sy x4).2.1/\(AT.sy x4).2.2=(AT.sy x4).2.2/\AT.hd x4=AT.hd x4/\AT.df x4=AT.df x4/\AT.sz x4=AT.sz x4/\(AT.f x4).1=(AT.f x4).1/\(AT.f x4).2.1=(AT.f x4).2.1/\(AT.f x4).2.2=(AT.f x4).2.2/\(AT.br x4).1=(AT.br x4).1/\(AT.br x4).2.1=(AT.br x4).2.1/\(AT.br x4).2.2=(AT.br x4).2.2/\x10
 def zkj:=x7.1<=length (GJ.l x3)/\(x0<=x7.2.1/\x7.2.1<=2000)/\length (GV.ks x7.2.2)=length (GV.l x7.2.2)/\length (GV.l x7.2.2)<=x7.1
 def z2e:=(z8c x1 x3 x4 x5 x11)/\GV.ok x7.2.2 x11
 abbrev zt3:=(↑x7.1:Int)<(↑(GJ.y x3).2.1:Int)
 abbrev j6m:=zj8 (T.n (T.n (T.n T.e (some (AO.cells 62 (some 0) false [AV.sv (int i64 (GJ.k x3)),AV.sv (int i64 (GJ.n x3)),AV.sv (string (GJ.s x3)),AV.sv (slice (GJ.y x3).1 (GJ.y x3).2.1 (GJ.y x3).2.2),AV.sv (slice (GJ.x x3).1 (GJ.x x3).2.1 (GJ.x x3).2.2)])) T.e) (some (AO.cells (130:TypeId) (some 0) false [AV.sv (slice x1.1 x1.2.1 x1.2.2),AV.sv (int i64 x7.2.1)])) (T.n T.e (some (AO.cells (36:TypeId) (some 0) false [AV.sv (int u64 (GV.n x7.2.2)),AV.sv (string (GV.s x7.2.2)),AV.sv (slice (GV.x x7.2.2).1 (GV.x x7.2.2).2.1 (GV.x x7.2.2).2.2),AV.sv (slice (GV.y x7.2.2).1 (GV.y x7.2.2).2.1 (GV.y x7.2.2).2.2),AV.sv (int i64 (GV.b x7.2.2))])) T.e)) none (T.n (T.n T.e (some (AO.cells 36 (some 0) false [AV.int u64 0,AV.str (List.map UInt8.toNat (Array.toList (ByteArray.data (mkS [])))),AV.nsl,AV.nsl,AV.int i64 0])) T.e) (some (AO.cells 55 (some 0) false [AV.sv (int i64 (AT.k x4)),AV.sv (string (AT.nm x4)),AV.sv (slice (AT.al x4).1 (AT.al x4).2.1 (AT.al x4).2.2),AV.sv (int i64 (AT.it x4)),AV.sv (slice (AT.sy x4).1 (AT.sy x4).2.1 (AT.sy x4).2.2),AV.sv (bool (AT.hd x4)),AV.sv (string (AT.df x4)),AV.sv (int i64 (AT.sz x4)),AV.sv (slice (AT.f x4).1 (AT.f x4).2.1 (AT.f x4).2.2),AV.sv (slice (AT.br x4).1 (AT.br x4).2.1 (AT.br x4).2.2)])) T.e))
 def j6l:=(0<=(↑x7.1:Int)/\zt3 x3 x7)/\(GJ.y x3).1≠noA/\∃(i0:Int),∃(i1:Int),∃i2,∃i3,∃(i4:Nat),∃(i5:Nat),∃i6,∃(i7:Nat),∃(i8:Nat),(∀i9,z2e x1 x3 x4 x5 x7 i9->q3p i9 (adr (GJ.y x3).1 (toNat (↑x7.1:Int)*5)) [int i64 i0,int i64 i1,string i2,slice i3 i4 i5,slice i6 i7 i8])/\Jb (x0+1)/\∃(i10:VlS),i10.2.2.2.1=AT.it x4/\GJ.k i10.2.2.2.2.1=i0/\GJ.n i10.2.2.2.2.1=i1/\GJ.s i10.2.2.2.2.1=i2/\(GJ.y i10.2.2.2.2.1).1=i3/\(GJ.y i10.2.2.2.2.1).2.1=i4/\(GJ.y i10.2.2.2.2.1).2.2=i5/\(GJ.x i10.2.2.2.2.1).1=i6/\(GJ.x i10.2.2.2.2.1).2.1=i7/\(GJ.x i10.2.2.2.2.1).2.2=i8/\i10.2.2.2.2.2=x0+1/\i10.2.1.1=x1.1/\i10.2.1.2.1=x1.2.1/\i10.2.1.2.2=x1.2.2/\i10.2.2.1=x7.2.1/\(z6m i10<x6/\z0w i10.1/\(0<=i10.2.2.2.1/\i10.2.2.2.1<(↑(length i10.1):Int))/\GJ.wf i10.2.2.2.2.1/\(0<=i10.2.2.1/\i10.2.2.1<=2000)/\1<=i10.2.2.2.2.2/\i10.2.2.2.2.2<=21)/\(∀i11,z2e x1 x3 x4 x5 x7 i11->z09 i10.1 i10.2.1 i11/\GJ.ok i10.2.2.2.2.1 i11)/\∀(i12:VlB),z0l i10.2.2.1 i12->(∃i13,(z2e x1 x3 x4 x5 x7 i13)/\GV.ok i12.2.2 i13)->∃(i14:VlB),x0=x0/\(↑x7.1:Int)=(↑x7.1:Int)/\i14.2.1=i12.2.1/\x1.1=i10.2.1.1/\x1.2.1=i10.2.1.2.1/\x1.2.2=i10.2.1.2.2/\i14.1=i12.1/\zki x3 (GV.n x7.2.2=GV.n x7.2.2/\GV.s x7.2.2=GV.s x7.2.2/\(GV.x x7.2.2).1=(GV.x x7.2.2).1/\(GV.x x7.2.2).2.1=(GV.x x7.2.2).2.1/\(GV.x x7.2.2).2.2=(GV.x x7.2.2).2.2/\(GV.y x7.2.2).1=(GV.y x7.2.2).1/\(GV.y x7.2.2).2.1=(GV.y x7.2.2).2.1/\(GV.y x7.2.2).2.2=(GV.y x7.2.2).2.2/\GV.b x7.2.2=GV.b x7.2.2/\j4a x4 (GV.n i14.2.2=GV.n i12.2.2/\GV.s i14.2.2=GV.s i12.2.2/\(GV.x i14.2.2).1=(GV.x i12.2.2).1/\(GV.x i14.2.2).2.1=(GV.x i12.2.2).2.1/\(GV.x i14.2.2).2.2=(GV.x i12.2.2).2.2/\(GV.y i14.2.2).1=(GV.y i12.2.2).1/\(GV.y i14.2.2).2.1=(GV.y i12.2.2).2.1/\(GV.y i14.2.2).2.2=(GV.y i12.2.2).2.2/\GV.b i14.2.2=GV.b i12.2.2/\(∀i15,(z2e x1 x3 x4 x5 x7 i15)/\GV.ok i12.2.2 i15->z2e x1 x3 x4 x5 x7 i15)/\(∀i16,(z2e x1 x3 x4 x5 x7 i16)/\GV.ok i12.2.2 i16->GV.ok i14.2.2 i16)/\z0l (j6m x1 x3 x4 x7) i14/\True))
 def jed:=Jb ((↑x7.1:Int)+1)/\∃(i0:Nat×Int×GV),x0=x0/\(↑i0.1:Int)=(↑x7.1:Int)+1/\zfw x1 (i0.2.1=x8.1/\zki x3 (GV.n i0.2.2=GV.n x9/\GV.s i0.2.2=GV.s x9/\(GV.x i0.2.2).1=(GV.x x9).1/\(GV.x i0.2.2).2.1=(GV.x x9).2.1/\(GV.x i0.2.2).2.2=(GV.x x9).2.2/\(GV.y i0.2.2).1=(GV.y x9).1/\(GV.y i0.2.2).2.1=(GV.y x9).2.1/\(GV.y i0.2.2).2.2=(GV.y x9).2.2/\GV.b i0.2.2=GV.b x9/\j4a x4 ((∀i1,((z2e x1 x3 x4 x5 x7 i1)/\GV.ok x8.2.2 i1)/\GV.ok x9 i1->z8c x1 x3 x4 x5 i1)/\(∀i2,((z2e x1 x3 x4 x5 x7 i2)/\GV.ok x8.2.2 i2)/\GV.ok x9 i2->GV.ok i0.2.2 i2)/\(zkj x2 x3 i0)/\length (GJ.l x3)- i0.1<length (GJ.l x3)- x7.1/\True)))
 def jec:=(0<=(↑x7.1:Int)/\(↑x7.1:Int)<(↑(GJ.x x3).2.1:Int))/\(GJ.x x3).1≠noA/\∃i0,(∀i1,(z2e x1 x3 x4 x5 x7 i1)/\GV.ok x8.2.2 i1->q3p i1 (adr (GJ.x x3).1 (toNat (↑x7.1:Int)*1)) [string i0])/\∃(i2:GV×ByteArray×GV),GV.n i2.1=GV.n x7.2.2/\GV.s i2.1=GV.s x7.2.2/\(GV.x i2.1).1=(GV.x x7.2.2).1/\(GV.x i2.1).2.1=(GV.x x7.2.2).2.1/\(GV.x i2.1).2.2=(GV.x x7.2.2).2.2/\(GV.y i2.1).1=(GV.y x7.2.2).1/\(GV.y i2.1).2.1=(GV.y x7.2.2).2.1/\(GV.y i2.1).2.2=(GV.y x7.2.2).2.2/\GV.b i2.1=GV.b x7.2.2/\i2.2.1=i0/\GV.n i2.2.2=GV.n x8.2.2/\GV.s i2.2.2=GV.s x8.2.2/\(GV.x i2.2.2).1=(GV.x x8.2.2).1/\(GV.x i2.2.2).2.1=(GV.x x8.2.2).2.1/\(GV.x i2.2.2).2.2=(GV.x x8.2.2).2.2/\(GV.y i2.2.2).1=(GV.y x8.2.2).1/\(GV.y i2.2.2).2.1=(GV.y x8.2.2).2.1/\(GV.y i2.2.2).2.2=(GV.y x8.2.2).2.2/\GV.b i2.2.2=GV.b x8.2.2/\(length (GV.ks i2.1)=length (GV.l i2.1)/\length (GV.l i2.1)<1000000)/\(∀i3,(z2e x1 x3 x4 x5 x7 i3)/\GV.ok x8.2.2 i3->GV.ok i2.1 i3/\GV.ok i2.2.2 i3)/\∀(i4:GV),GV.pv i4=PV.mk (GV.n i2.1) (GV.s i2.1) (z2n i2.2.1 (GV.ks i2.1) (GV.pvs (GV.l i2.1)) (GV.pv i2.2.2)) (qb3 i2.2.1 (GV.ks i2.1)) (GV.b i2.1)->(∃i5,((z2e x1 x3 x4 x5 x7 i5)/\GV.ok x8.2.2 i5)/\GV.ok i4 i5)->jed x0 x1 x2 x3 x4 x5 x7 x8 i4
 def jeb:=Ji (AT.k x4=12) (False) (jec x0 x1 x2 x3 x4 x5 x7 x8)
 def jea:=((!decide (x8.2.1=0))=true->∃(i0:VlB),GV.n i0.2.2=0/\GV.s i0.2.2=mkS []/\(GV.x i0.2.2).1=noA/\(GV.x i0.2.2).2.1=0/\(GV.x i0.2.2).2.2=0/\(GV.y i0.2.2).1=noA/\(GV.y i0.2.2).2.1=0/\(GV.y i0.2.2).2.2=0/\GV.b i0.2.2=0/\i0.2.1=x8.2.1/\zfw x1 (i0.1=x8.1/\z0l x0 i0/\(∀i1,(z2e x1 x3 x4 x5 x7 i1)/\GV.ok x8.2.2 i1->GV.ok i0.2.2 i1)/\True))/\((!decide (x8.2.1=0))=false->jeb x2 x1 x0 x3 x4 x5 x7 x8)
 def je9:=((j6l x0 x1 x3 x4 x5 x6 x7)/\j6l x0 x1 x3 x4 x5 x6 x7)/\∀(i34:VlB),z0l (j6m x1 x3 x4 x7) i34->(∃i35,(z2e x1 x3 x4 x5 x7 i35)/\GV.ok i34.2.2 i35)->jea x2 x1 x0 x3 x4 x5 x7 i34
 def je8:=Ji (zt3 x3 x7) (je9 x0 x1 x2 x3 x4 x5 x6 x7) (∃(i47:VlB),GV.n i47.2.2=GV.n x7.2.2/\GV.s i47.2.2=GV.s x7.2.2/\(GV.x i47.2.2).1=(GV.x x7.2.2).1/\(GV.x i47.2.2).2.1=(GV.x x7.2.2).2.1/\(GV.x i47.2.2).2.2=(GV.x x7.2.2).2.2/\(GV.y i47.2.2).1=(GV.y x7.2.2).1/\(GV.y i47.2.2).2.1=(GV.y x7.2.2).2.1/\(GV.y i47.2.2).2.2=(GV.y x7.2.2).2.2/\GV.b i47.2.2=GV.b x7.2.2/\i47.2.1=0/\zfw x1 (i47.1=x7.2.1/\z0l x2 i47/\(∀i48,z2e x1 x3 x4 x5 x7 i48->GV.ok i47.2.2 i48)/\True))
 def je7:=(∃(i0:Nat×Int×GV),x0=x0/\(↑i0.1:Int)=0/\zfw x1 (i0.2.1=x2/\zki x3 (GV.n i0.2.2=0/\GV.s i0.2.2=mkS []/\(GV.x i0.2.2).1=noA/\(GV.x i0.2.2).2.1=0/\(GV.x i0.2.2).2.2=0/\(GV.y i0.2.2).1=noA/\(GV.y i0.2.2).2.1=0/\(GV.y i0.2.2).2.2=0/\GV.b i0.2.2=0/\j4a x4 ((∀i1,z8c x1 x3 x4 x5 i1->z8c x1 x3 x4 x5 i1)/\(∀i2,z8c x1 x3 x4 x5 i2->GV.ok i0.2.2 i2)/\(zkj x2 x3 i0)/\True))))/\∀(i3:Nat×Int×GV),zkj x2 x3 i3->(∃i4,z2e x1 x3 x4 x5 i3 i4)->je8 x0 x1 x2 x3 x4 x5 x6 i3
end
def zdb(n:Nat) (S:List AT) (x:SV) (all:Int) (a:AT) (g:GJ) (d:Int):qm3 P (qh2 []) (qi5 [(74,cVl.below z6m n),(24,znw)]) Go.Proofs.Tryz.f111 ((cVq isMap).below z9f (n+1)) (wPm) ⟨S,x,all,a,g,d⟩=(z9f (S,x,all,a,g,d)<n+1/\z0w S/\a∈S/\isMap a g/\GJ.wf g/\(0<=all/\all<=2000)/\1<=d/\d<=20->(∃(p:Pub),z8c x g a S p)->je7 d x all g a S n):=by kernel_rfl
def zi1:=λn S x all a g d=>Eq.trans (zdb n S x all a g d) (by delta Ji Jb Jt Jf z8c zfw zki j4a zkj z2e zt3 j6m j6l jed jec jeb jea je9 je8 je7;exact rfl)
section
variable (x0:Int) (x1:SV) (x2:Int) (x3:GJ) (x4:AT) (x5:List AT) (x6:Nat) (x7:Nat×Int×List GV) (x8:GJ) (x9:Int) (x10:VlB) (x11:VlS) (x12:Bool) (x13:ByteArray) (x14:Option Addr) (x15:Nat) (x16 x17:Int) (x18:ByteArray) (x19:Option Addr) (x20 x21:Nat) (x22:Option Addr) (x23 x24:Nat) (x25:Prop) (x26:Nat->Option Obj) (x27:GJ×ByteArray)
 abbrev z8d:=True/\z09 x5 x1 x26/\AT.ok x4 x26/\GJ.ok x3 x26
 def zbi:=x1.1=x1.1/\x1.2.1=x1.2.1/\x1.2.2=x1.2.2/\x25
 def j1x:=GJ.k x3=GJ.k x3/\GJ.n x3=GJ.n x3/\GJ.s x3=GJ.s x3/\(GJ.y x3).1=(GJ.y x3).1/\(GJ.y x3).2.1=(GJ.y x3).2.1/\(GJ.y x3).2.2=(GJ.y x3).2.2/\(GJ.x x3).1=(GJ.x x3).1/\(GJ.x x3).2.1=(GJ.x x3).2.1/\(GJ.x x3).2.2=(GJ.x x3).2.2/\x25
 def j1w:=AT.k x4=AT.k x4/\AT.nm x4=AT.nm x4/\(AT.al x4).1=(AT.al x4).1/\(AT.al x4).2.1=(AT.al x4).2.1/\(AT.al x4).2.2=(AT.al x4).2.2/\AT.it x4=AT.it x4/\(AT.sy x4).1=(AT.sy x4).1/\(AT.sy x4).2.1=(AT.sy x4).2.1/\(AT.sy x4).2.2=(AT.sy x4).2.2/\AT.hd x4=AT.hd x4/\AT.df x4=AT.df x4/\AT.sz x4=AT.sz x4/\(AT.f x4).1=(AT.f x4).1/\(AT.f x4).2.1=(AT.f x4).2.1/\(AT.f x4).2.2=(AT.f x4).2.2/\(AT.br x4).1=(AT.br x4).1/\(AT.br x4).2.1=(AT.br x4).2.1/\(AT.br x4).2.2=(AT.br x4).2.2/\x25
 def zkk:=x7.1<=length (AT.fs x4)/\(x0<=x7.2.1/\x7.2.1<=2000)/\length x7.2.2=x7.1
 def z7b:=(z8d x1 x3 x4 x5 x26)/\GV.oks x7.2.2 x26
 abbrev zt8:=(↑x7.1:Int)<(↑(AT.f x4).2.1:Int)
 def zt5:=(GV.y x10.2.2).1=noA/\(GV.y x10.2.2).2.1=0/\(GV.y x10.2.2).2.2=0/\GV.b x10.2.2=0/\x25
 def zt4:=GV.n x10.2.2=0/\GV.s x10.2.2=mkS []/\(GV.x x10.2.2).1=noA/\(GV.x x10.2.2).2.1=0/\(GV.x x10.2.2).2.2=0/\zt5 x10 x25
 def zt7:=(∀i0,z7b x1 x3 x4 x5 x7 i0->z7b x1 x3 x4 x5 x7 i0)/\(∀i1,z7b x1 x3 x4 x5 x7 i1->GJ.ok x8 i1)/\GJ.wf x8/\True
 def jej:=((!x12)=true->∃(i0:VlB),zt4 i0 (i0.2.1=7/\zbi x1 (i0.1=x7.2.1/\z0l x0 i0/\(∀i1,z7b x1 x3 x4 x5 x7 i1->GV.ok i0.2.2 i1)/\True)))/\((!x12)=false->∃(i2:GJ),x2=x2/\(↑x7.1:Int)=(↑x7.1:Int)/\zbi x1 (x7.2.1=x7.2.1/\j1x x3 (length x7.2.2=length x7.2.2/\j1w x4 (x13=x13/\x14=x14/\x6=x6/\x15=x15/\x9=x9/\x12=x12/\x16=x16/\x17=x17/\x18=x18/\x19=x19/\x20=x20/\x21=x21/\x22=x22/\x23=x23/\x24=x24/\z00 GV.cells x7.2.2=z00 GV.cells x7.2.2/\GJ.k i2=x16/\GJ.n i2=x17/\GJ.s i2=x18/\(GJ.y i2).1=x19/\(GJ.y i2).2.1=x20/\(GJ.y i2).2.2=x21/\(GJ.x i2).1=x22/\(GJ.x i2).2.1=x23/\(GJ.x i2).2.2=x24/\zt7 x1 x3 x4 x5 x7 i2))))
 abbrev z4t:=Option.getD (z0b x27.2 x27.1) zJ
 def zt6:=x1.1=x11.2.1.1/\x1.2.1=x11.2.1.2.1/\x1.2.2=x11.2.1.2.2/\x25
 def jek:=length (z00 GV.cells x7.2.2)=length x7.2.2*5/\(length x7.2.2+nat_lit 1)*80<=140737488355328/\Jb ((↑x7.1:Int)+1)/\∃(i0:Nat×Int×List GV),x0=x0/\(↑i0.1:Int)=(↑x7.1:Int)+1/\zt6 x1 x11 (i0.2.1=x10.1/\j1x x3 (length i0.2.2=length x7.2.2+nat_lit 1/\j1w x4 (z00 GV.cells i0.2.2=z00 GV.cells x7.2.2++[int u64 (GV.n x10.2.2),string (GV.s x10.2.2),slice (GV.x x10.2.2).1 (GV.x x10.2.2).2.1 (GV.x x10.2.2).2.2,slice (GV.y x10.2.2).1 (GV.y x10.2.2).2.1 (GV.y x10.2.2).2.2,int i64 (GV.b x10.2.2)]/\(∀i1,((z7b x1 x3 x4 x5 x7 i1)/\GJ.ok x8 i1)/\GV.ok x10.2.2 i1->z8d x1 x3 x4 x5 i1)/\(∀i2,((z7b x1 x3 x4 x5 x7 i2)/\GJ.ok x8 i2)/\GV.ok x10.2.2 i2->GV.oks i0.2.2 i2)/\(zkk x2 x4 i0)/\length (AT.fs x4)- i0.1<length (AT.fs x4)- x7.1/\True)))
 def jei:=((!decide (x10.2.1=0))=true->∃(i0:VlB),zt4 i0 (i0.2.1=x10.2.1/\zt6 x1 x11 (i0.1=x10.1/\z0l x0 i0/\(∀i1,((z7b x1 x3 x4 x5 x7 i1)/\GJ.ok x8 i1)/\GV.ok x10.2.2 i1->GV.ok i0.2.2 i1)/\True)))/\((!decide (x10.2.1=0))=false->jek x2 x1 x0 x3 x4 x5 x7 x8 x10 x11)
 def jeh:=Jb (x0+1)/\∃(i0:VlS),i0.2.2.2.1=x2/\GJ.k i0.2.2.2.2.1=GJ.k x3/\GJ.n i0.2.2.2.2.1=GJ.n x3/\GJ.s i0.2.2.2.2.1=GJ.s x3/\(GJ.y i0.2.2.2.2.1).1=(GJ.y x3).1/\(GJ.y i0.2.2.2.2.1).2.1=(GJ.y x3).2.1/\(GJ.y i0.2.2.2.2.1).2.2=(GJ.y x3).2.2/\(GJ.x i0.2.2.2.2.1).1=(GJ.x x3).1/\(GJ.x i0.2.2.2.2.1).2.1=(GJ.x x3).2.1/\(GJ.x i0.2.2.2.2.1).2.2=(GJ.x x3).2.2/\i0.2.2.2.2.2=x0+1/\i0.2.1.1=x1.1/\i0.2.1.2.1=x1.2.1/\i0.2.1.2.2=x1.2.2/\i0.2.2.1=x7.2.1/\(z6m i0<x6/\z0w i0.1/\(0<=i0.2.2.2.1/\i0.2.2.2.1<(↑(length i0.1):Int))/\GJ.wf i0.2.2.2.2.1/\(0<=i0.2.2.1/\i0.2.2.1<=2000)/\1<=i0.2.2.2.2.2/\i0.2.2.2.2.2<=21)/\(∀i1,(z7b x1 x8 x4 x5 x7 i1)/\GJ.ok x3 i1->z09 i0.1 i0.2.1 i1/\GJ.ok i0.2.2.2.2.1 i1)/\∀(i2:VlB),z0l i0.2.2.1 i2->(∃i3,((z7b x1 x8 x4 x5 x7 i3)/\GJ.ok x3 i3)/\GV.ok i2.2.2 i3)->jei x9 x1 x0 x8 x4 x5 x7 x3 i2 i0
 def jeg:=(0<=(↑x7.1:Int)/\zt8 x4 x7)/\(AT.f x4).1≠noA/\∃i0,∃i1,∃(i2:Nat),∃(i3:Nat),∃(i4:Int),∃(i5:Bool),∃(i6:Int),∃(i7:Int),∃i8,∃i9,∃(i10:Nat),∃(i11:Nat),∃i12,∃(i13:Nat),∃(i14:Nat),(∀i15,z7b x1 x3 x4 x5 x7 i15->q3p i15 (adr (AT.f x4).1 (toNat (↑x7.1:Int)*9)) [string i0,slice i1 i2 i3,int i64 i4,bool i5,int i64 i6,int i64 i7,string i8,slice i9 i10 i11,slice i12 i13 i14])/\∃(i16:GJ×ByteArray),GJ.k i16.1=GJ.k x3/\GJ.n i16.1=GJ.n x3/\GJ.s i16.1=GJ.s x3/\(GJ.y i16.1).1=(GJ.y x3).1/\(GJ.y i16.1).2.1=(GJ.y x3).2.1/\(GJ.y i16.1).2.2=(GJ.y x3).2.2/\(GJ.x i16.1).1=(GJ.x x3).1/\(GJ.x i16.1).2.1=(GJ.x x3).2.1/\(GJ.x i16.1).2.2=(GJ.x x3).2.2/\i16.2=i0/\GJ.wf i16.1/\(∀i17,z7b x1 x3 x4 x5 x7 i17->GJ.ok i16.1 i17)/\(((!Option.isSome (z0b i16.2 i16.1))=true->jej x0 x1 x2 x3 x4 x5 i2 x7 i4 i5 i0 i1 i3 i6 i7 i8 i9 i10 i11 i12 i13 i14)/\((!Option.isSome (z0b i16.2 i16.1))=false->∃(i23:GJ),x2=x2/\(↑x7.1:Int)=(↑x7.1:Int)/\zbi x1 (x7.2.1=x7.2.1/\j1x x3 (length x7.2.2=length x7.2.2/\j1w x4 (i0=i0/\i1=i1/\i2=i2/\i3=i3/\i4=i4/\i5=i5/\i6=i6/\i7=i7/\i8=i8/\i9=i9/\i10=i10/\i11=i11/\i12=i12/\i13=i13/\i14=i14/\z00 GV.cells x7.2.2=z00 GV.cells x7.2.2/\GJ.k i23=GJ.k (z4t i16)/\GJ.n i23=GJ.n (z4t i16)/\GJ.s i23=GJ.s (z4t i16)/\(GJ.y i23).1=(GJ.y (z4t i16)).1/\(GJ.y i23).2.1=(GJ.y (z4t i16)).2.1/\(GJ.y i23).2.2=(GJ.y (z4t i16)).2.2/\(GJ.x i23).1=(GJ.x (z4t i16)).1/\(GJ.x i23).2.1=(GJ.x (z4t i16)).2.1/\(GJ.x i23).2.2=(GJ.x (z4t i16)).2.2/\zt7 x1 x3 x4 x5 x7 i23)))))/\∀(i26:GJ),GJ.wf i26->(∃i27,(z7b x1 x3 x4 x5 x7 i27)/\GJ.ok i26 i27)->jeh x2 x1 i4 i26 x4 x5 x6 x7 x3 x0
 def jef:=Ji (zt8 x4 x7) (jeg x0 x1 x2 x3 x4 x5 x6 x7) (∀(i37 i38 i39:Nat) (i40:Option Addr) (i41 i42:Nat),(∃i43,(z7b x1 x3 x4 x5 x7 i43)/\length x7.2.2<=i42/\qik i43 i40 (take (length x7.2.2*nat_lit 5) (z00 GV.cells x7.2.2)))->∃(i44:VlB),GV.n i44.2.2=0/\GV.s i44.2.2=mkS []/\(GV.x i44.2.2).1=i40/\(GV.x i44.2.2).2.1=length x7.2.2/\(GV.x i44.2.2).2.2=i42/\zt5 i44 (i44.2.1=0/\zbi x1 (i44.1=x7.2.1/\z0l x0 i44/\(∀i45,(z7b x1 x3 x4 x5 x7 i45)/\length x7.2.2<=i42/\qik i45 i40 (take (length x7.2.2*nat_lit 5) (z00 GV.cells x7.2.2))->GV.ok i44.2.2 i45)/\True)))
 def jee:=(∃(i0:Nat×Int×List GV),x0=x0/\(↑i0.1:Int)=0/\zbi x1 (i0.2.1=x2/\j1x x3 (length i0.2.2=0/\j1w x4 ((∀i1,z8d x1 x3 x4 x5 i1->z8d x1 x3 x4 x5 i1)/\(∀i2,z8d x1 x3 x4 x5 i2->GV.oks i0.2.2 i2)/\(zkk x2 x4 i0)/\True))))/\∀(i3:Nat×Int×List GV),zkk x2 x4 i3->(∃i4,z7b x1 x3 x4 x5 i3 i4)->jef x2 x1 x0 x3 x4 x5 x6 i3
end
def zih(n:Nat) (S:List AT) (x:SV) (all:Int) (a:AT) (g:GJ) (d:Int):qm3 P (qh2 [(66,z4l)]) (qi5 [(74,cVl.below z6m n)]) Go.Proofs.Tryz.f112 ((cVq isRec).below z9f (n+1)) (wRe) ⟨S,x,all,a,g,d⟩=(z9f (S,x,all,a,g,d)<n+1/\z0w S/\a∈S/\isRec a g/\GJ.wf g/\(0<=all/\all<=2000)/\1<=d/\d<=20->(∃(p:Pub),z8d x g a S p)->jee d x all g a S n):=by kernel_rfl
def zpf:=λn S x all a g d=>Eq.trans (zih n S x all a g d) (by delta Ji Jb Jt Jf z8d zbi j1x j1w zkk z7b zt8 zt5 zt4 zt7 jej z4t zt6 jek jei jeh jeg jef jee;exact rfl)
section
variable {p:Pub}
def z1p{a:AT} (h:a.ok p):a.al.2.1=a.als.length/\a.sy.2.1=a.sys.length/\a.f.2.1=a.fs.length/\a.br.2.1=a.brs.length:=⟨h.1.1,h.2.1.1,h.2.2.1.1,h.2.2.2.1.1⟩
variable {g:GJ}
def z3r(h:g.ok p):g.y.2.1=g.l.length/\g.x.2.1=g.nm.length:=by rw[GJ.ok_eq]at h;exact⟨h.1.1,h.2.1.1⟩
def z50(h:g.ok p) {j:Nat} (hj:j<g.l.length):(g.y.1≠noA/\q3p p (adr g.y.1 (j*5)) g.l[j].cells)/\g.l[j].ok p:=by
 rw[GJ.ok_eq]at h;exact⟨z0z z37 (by decide) h.1 hj,GJ.oks_at h.2.2 hj⟩
def zm9(h:g.ok p) {j:Nat} (hj:j<g.nm.length):g.x.1≠noA/\q3p p (adr g.x.1 (j*1)) [.string g.nm[j]]:=by
 rw[GJ.ok_eq]at h;exact z0z z0t (by decide) h.2.1 hj
def z1z:∀{l m:List GV} {p:Pub},GV.oks l p->GV.oks m p->GV.oks (l++m) p:=λh1 h2=>GV.oks_iff.2 λv hv=>(List.mem_append.1 hv).elim (GV.oks_iff.1 h1 v) (GV.oks_iff.1 h2 v)
def z1a{v:GV} (h:v.ok p):GV.oks [v] p:=GV.oks_iff.2 λw hw=>by simp at hw;subst hw;exact h
def zV:GV:= .mk 0 (mkS []) (none,0,0) [] (none,0,0) [] 0
def z17(p:Pub):zV.ok p:=by unfold zV GV.ok;exact⟨z05,z05,by unfold GV.oks;trivial⟩
def zdj(k:ByteArray) (ks:List ByteArray) (l:List PV) (w:PV) (h:ks.length=l.length):(qb3 k ks).length=(z2n k ks l w).length/\(z2n k ks l w).length<=l.length+1:=by
 have hi:=zme k ks
 unfold qb3 z2n
 split
 ·rw[List.length_set];omega
 ·simp only[List.length_append,List.length_take,List.length_cons,List.length_drop];omega
def zi0(n:Nat) (hv:q22 P 74 (cVl.below z6m n)):q22 P 111 ((cVq zof).below z9f (n+1)):=by
 refine qlb mixed (qee qlq) (qf7 (qig hv (qig z9k qlp))) (W:=wPa) Go.Proofs.Tryz.func111 (by kernel_rfl) (show 1<=2 by decide) (show 2<=2 by decide) (λs=>by kernel_rfl) λ⟨S,(x:SV),(all:Int),a,g,(d:Int)⟩=>(zhz n S x all a g d).mpr ?_
 rintro⟨hmu,hS,haS,hk,hg,⟨hal0,hal1⟩,hd1,hd2⟩ ⟨p,_,hx,ha,hgo⟩
 have hmu:2*(25- d).toNat<n+1:=hmu
 have hk:a.k=12:=hk
 obtain⟨gl,gnl⟩:=z3r hgo
 have hgw:=hg
 rw[GJ.wf_eq]at hgw
 obtain⟨_,hgl,_,_,_,_,hgs⟩:=hgw
 have hat:=(hS.2 a haS).2.1 (.inl hk)
 simp only[sbS,exists_const,forall_const,Int.toNat_natCast,gl,gnl]
 refine⟨⟨⟨0,all,[]⟩,rfl,rfl,rfl,λq hq=>GV.oks_iff.2 λv h=>(by cases h),Nat.zero_le _,⟨by show all<=all;omega,hal1⟩,rfl⟩,?_⟩
 rintro⟨j,al,fs⟩ ⟨hj,⟨hl0,hl1⟩,hfl⟩ ⟨p1,hp1,hfs1⟩
 simp only at hj hl0 hl1 hfl hfs1⊢
 refine⟨λhlt=>⟨⟨?xa,?xb⟩,?_⟩,λhge=> ?_⟩
 case xa|xb=>
  have hjl:j<g.l.length:=by omega
  have hw:g.l[j].wf:=GJ.wfs_at hgs hjl
  refine⟨⟨by omega,by omega⟩,(z50 hgo hjl).1.1,g.l[j].k,g.l[j].n,g.l[j].s,g.l[j].y.1,g.l[j].y.2.1,g.l[j].y.2.2,g.l[j].x.1,g.l[j].x.2.1,g.l[j].x.2.2,λq hq=>(z50 hq.1.2.2 hjl).1.2,⟨by omega,by omega⟩,⟨S,x,al,a.it,g.l[j],d+1⟩,rfl,rfl,rfl,rfl,rfl,rfl,rfl,rfl,rfl,rfl,rfl,rfl,rfl,rfl,rfl,⟨by show 2*(25- (d+1)).toNat<n;omega,hS,hat,hw,⟨by show 0<=al;omega,hl1⟩,by show 1<=d+1;omega,by show d+1<=21;omega⟩,λq hq=>⟨hq.1.1,(z50 hq.1.2.2 hjl).2⟩,?_⟩
  rintro⟨a2,e,w⟩ hb _
  exact⟨⟨a2,e,w⟩,rfl,rfl,rfl,rfl,rfl,rfl,rfl,rfl,rfl,rfl,rfl,rfl,rfl,rfl,λq hq=>hq.1,λq hq=>hq.2,hb⟩
 ·rintro⟨a2,e,w⟩ hb _
  have hb:al<=a2/\a2<=2001/\(e=0->a2<=2000):=hb
  simp only
  refine⟨λhe=>⟨⟨a2,e,zV⟩,rfl,rfl,rfl,rfl,rfl,rfl,rfl,rfl,rfl,rfl,rfl,⟨by show all<=a2;omega,hb.2⟩,λq hq=>z17 q⟩,λhe=>⟨λ_=>⟨z01 z0c fs,by omega,⟨by omega,by omega⟩,⟨j+1,a2,fs++[w]⟩,by show((j+1:Nat):Int)=_;omega,rfl,by simp,by rw[z04];rfl,λq hq=>hq.1.1,λq hq=>z1z hq.1.2 (z1a hq.2),⟨by show j+1<=_;omega,⟨by show all<=a2;omega,hb.2.2 he⟩,by show(fs++[w]).length=j+1;simp[hfl]⟩,by show _- (j+1)<_;omega⟩,λh=>absurd hk h⟩⟩
 ·intro a6 c _
  refine⟨⟨al,0, .mk 0 (mkS []) (a6,fs.length,c) fs (none,0,0) [] 0⟩,rfl,rfl,rfl,rfl,rfl,rfl,rfl,rfl,rfl,rfl,rfl,⟨by show all<=al;omega,by show al<=2001;omega,λ_=>hl1⟩,λq hq=> ?_⟩
  have h2:=hq.2.2
  rw[List.take_of_length_le (by rw[z01 z0c];exact Nat.le_refl _)]at h2
  show GV.ok _ q
  unfold GV.ok
  exact⟨⟨rfl,hq.2.1,h2⟩,z05,hq.1.2⟩
def zi2(n:Nat) (hv:q22 P 74 (cVl.below z6m n)):q22 P 111 ((cVq isMap).below z9f (n+1)):=by
 refine qlb mixed (qee qlq) (qf7 (qig hv (qig z9k qlp))) (W:=wPm) Go.Proofs.Tryz.func111 (by kernel_rfl) (show 1<=2 by decide) (show 2<=2 by decide) (λs=>by kernel_rfl) λ⟨S,(x:SV),(all:Int),a,g,(d:Int)⟩=>(zi1 n S x all a g d).mpr ?_
 rintro⟨hmu,hS,haS,hk,hg,⟨hal0,hal1⟩,hd1,hd2⟩ ⟨p,_,hx,ha,hgo⟩
 have hmu:2*(25- d).toNat<n+1:=hmu
 obtain⟨hk,hgk⟩:=hk
 obtain⟨gl,gnl⟩:=z3r hgo
 have hgw:=hg
 rw[GJ.wf_eq]at hgw
 obtain⟨_,hgl,_,hnsz,_,hnl,hgs⟩:=hgw
 have hnl:=hnl hgk
 have hat:=(hS.2 a haS).2.1 (.inr hk)
 simp only[sbS,exists_const,forall_const,Int.toNat_natCast,gl,gnl]
 refine⟨⟨⟨0,all,zV⟩,rfl,rfl,rfl,rfl,rfl,rfl,rfl,rfl,rfl,rfl,rfl,λq hq=>z17 q,Nat.zero_le _,⟨by show all<=all;omega,hal1⟩,rfl,Nat.zero_le _⟩,?_⟩
 rintro⟨j,al,v⟩ ⟨hj,⟨hl0,hl1⟩,hvk,hvl⟩ ⟨p1,hp1,hv1⟩
 simp only at hj hl0 hl1 hvk hvl hv1⊢
 refine⟨λhlt=>⟨⟨?xa,?xb⟩,?_⟩,λhge=> ?_⟩
 case xa|xb=>
  have hjl:j<g.l.length:=by omega
  have hw:g.l[j].wf:=GJ.wfs_at hgs hjl
  refine⟨⟨by omega,by omega⟩,(z50 hgo hjl).1.1,g.l[j].k,g.l[j].n,g.l[j].s,g.l[j].y.1,g.l[j].y.2.1,g.l[j].y.2.2,g.l[j].x.1,g.l[j].x.2.1,g.l[j].x.2.2,λq hq=>(z50 hq.1.2.2 hjl).1.2,⟨by omega,by omega⟩,⟨S,x,al,a.it,g.l[j],d+1⟩,rfl,rfl,rfl,rfl,rfl,rfl,rfl,rfl,rfl,rfl,rfl,rfl,rfl,rfl,rfl,⟨by show 2*(25- (d+1)).toNat<n;omega,hS,hat,hw,⟨by show 0<=al;omega,hl1⟩,by show 1<=d+1;omega,by show d+1<=21;omega⟩,λq hq=>⟨hq.1.1,(z50 hq.1.2.2 hjl).2⟩,?_⟩
  rintro⟨a2,e,w⟩ hb _
  exact⟨⟨a2,e,w⟩,rfl,rfl,rfl,rfl,rfl,rfl,rfl,rfl,rfl,rfl,rfl,rfl,rfl,rfl,λq hq=>hq.1,λq hq=>hq.2,hb⟩
 ·rintro⟨a2,e,w⟩ hb _
  have hb:al<=a2/\a2<=2001/\(e=0->a2<=2000):=hb
  simp only
  refine⟨λhe=>⟨⟨a2,e,zV⟩,rfl,rfl,rfl,rfl,rfl,rfl,rfl,rfl,rfl,rfl,rfl,⟨by show all<=a2;omega,hb.2⟩,λq hq=>z17 q⟩,λhe=>⟨λh=>by omega,λ_=> ?_⟩⟩
  have hjn:j<g.nm.length:=by omega
  refine⟨⟨by omega,by omega⟩,(zm9 hgo hjn).1,g.nm[j],λq hq=>(zm9 hq.1.1.2.2 hjn).2,⟨v,g.nm[j],w⟩,rfl,rfl,rfl,rfl,rfl,rfl,rfl,rfl,rfl,rfl,rfl,rfl,rfl,rfl,rfl,rfl,rfl,rfl,rfl,⟨hvk,by show v.l.length<_;omega⟩,λq hq=>⟨hq.1.2,hq.2⟩,?_⟩
  intro b hb2 _
  have hb2:b.pv=PV.mk v.n v.s (z2n g.nm[j] v.ks (GV.pvs v.l) w.pv) (qb3 g.nm[j] v.ks) v.b:=hb2
  rw[GV.pv_eq]at hb2
  injection hb2 with _ _ e1 e2 _
  have hpl:=zdj g.nm[j] v.ks (GV.pvs v.l) w.pv (by rw[GV.pvs_len];exact hvk)
  rw[←e1,←e2,GV.pvs_len,GV.pvs_len]at hpl
  exact⟨⟨by omega,by omega⟩,⟨j+1,a2,b⟩,by show((j+1:Nat):Int)=_;omega,rfl,rfl,rfl,rfl,rfl,rfl,rfl,rfl,rfl,rfl,λq hq=>hq.1.1.1,λq hq=>hq.2,⟨by show j+1<=_;omega,⟨by show all<=a2;omega,hb.2.2 he⟩,hpl.1,by show b.l.length<=j+1;omega⟩,by show _- (j+1)<_;omega⟩
 ·exact⟨⟨al,0,v⟩,rfl,rfl,rfl,rfl,rfl,rfl,rfl,rfl,rfl,rfl,rfl,⟨by show all<=al;omega,by show al<=2001;omega,λ_=>hl1⟩,λq hq=>hq.2⟩
def zpg(n:Nat) (hv:q22 P 74 (cVl.below z6m n)):q22 P 112 ((cVq isRec).below z9f (n+1)):=by
 refine qlb mixed (qee (qih z2k qlq)) (qf7 (qig hv qlp)) (W:=wRe) Go.Proofs.Tryz.func112 (by kernel_rfl) (show 1<=2 by decide) (show 2<=2 by decide) (λs=>by kernel_rfl) λ⟨S,(x:SV),(all:Int),a,g,(d:Int)⟩=>(zpf n S x all a g d).mpr ?_
 rintro⟨hmu,hS,haS,hk,hg,⟨hal0,hal1⟩,hd1,hd2⟩ ⟨p,_,hx,ha,hgo⟩
 have hmu:2*(25- d).toNat<n+1:=hmu
 obtain⟨gl,gnl⟩:=z3r hgo
 obtain⟨_,_,afl,_⟩:=z1p ha
 have hgf:=hS.2 a haS
 have hf30:=hgf.2.2.2.2.2.2.2.1
 have hfg:=hgf.2.2.2.2.1
 simp only[sbS,exists_const,forall_const,Int.toNat_natCast,gl,gnl,afl]
 refine⟨⟨⟨0,all,[]⟩,rfl,rfl,rfl,λq hq=>GV.oks_iff.2 λv h=>(by cases h),Nat.zero_le _,⟨by show all<=all;omega,hal1⟩,rfl⟩,?_⟩
 rintro⟨j,al,fs⟩ ⟨hj,⟨hl0,hl1⟩,hfl⟩ ⟨p1,hp1,hfs1⟩
 simp only at hj hl0 hl1 hfl hfs1⊢
 refine⟨λhlt=> ?_,λhge=> ?_⟩
 ·have hjf:j<a.fs.length:=by omega
  have hff:=hfg _ (List.getElem_mem hjf)
  have fok:=λq (h:a.ok q)=>h.2.2.2.2 a.fs[j] (List.getElem_mem hjf)
  generalize hfj:a.fs[j]=f at*
  have fat:=λq (h:a.ok q)=>(show a.f.1≠noA/\q3p q (adr a.f.1 (j*9)) f.cells by rw[←hfj];exact z6k h hjf)
  obtain⟨cw,cok⟩:=z16 f.nm hg
  refine⟨⟨by omega,by omega⟩,(fat p ha).1,f.nm,f.al.1,f.al.2.1,f.al.2.2,f.ty,f.hd,f.df.k,f.df.n,f.df.s,f.df.y.1,f.df.y.2.1,f.df.y.2.2,f.df.x.1,f.df.x.2.1,f.df.x.2.2,λq hq=>(fat q hq.1.2.1).2,⟨g,f.nm⟩,rfl,rfl,rfl,rfl,gl,rfl,rfl,gnl,rfl,rfl,hg,λq hq=>hq.1.2.2,?_⟩
  simp only
  generalize (z0b f.nm g).getD zJ=cj at*
  refine⟨⟨λhno=>⟨λ_=>⟨⟨al,7,zV⟩,rfl,rfl,rfl,rfl,rfl,rfl,rfl,rfl,rfl,rfl,rfl,⟨by show all<=al;omega,by show al<=2001;omega,λ_=>hl1⟩,λq hq=>z17 q⟩,λ_=>⟨f.df,rfl,rfl,rfl,rfl,rfl,rfl,rfl,rfl,rfl,λq hq=>(fok q hq.1.2.1).2,hff.2⟩⟩,λhyes=>⟨cj,rfl,rfl,rfl,rfl,rfl,rfl,rfl,rfl,rfl,λq hq=>cok q hq.1.2.2,cw⟩⟩,?_⟩
  intro c hcw _
  refine⟨⟨by omega,by omega⟩,⟨S,x,al,f.ty,c,d+1⟩,rfl,rfl,rfl,rfl,rfl,rfl,rfl,rfl,rfl,rfl,rfl,rfl,rfl,rfl,rfl,⟨by show 2*(25- (d+1)).toNat<n;omega,hS,hff.1,hcw,⟨by show 0<=al;omega,hl1⟩,by show 1<=d+1;omega,by show d+1<=21;omega⟩,λq hq=>⟨hq.1.1.1,hq.2⟩,?_⟩
  rintro⟨a2,e,w⟩ hb _
  have hb:al<=a2/\a2<=2001/\(e=0->a2<=2000):=hb
  simp only[true_and]
  refine⟨λhe=>⟨⟨a2,e,zV⟩,rfl,rfl,rfl,rfl,rfl,rfl,rfl,rfl,rfl,rfl,rfl,⟨by show all<=a2;omega,hb.2⟩,λq hq=>z17 q⟩,λhe=>⟨z01 z0c fs,by omega,⟨by omega,by omega⟩,⟨j+1,a2,fs++[w]⟩,by show((j+1:Nat):Int)=_;omega,rfl,by simp,by rw[z04];rfl,λq hq=>hq.1.1.1,λq hq=>z1z hq.1.1.2 (z1a hq.2),⟨by show j+1<=_;omega,⟨by show all<=a2;omega,hb.2.2 he⟩,by show(fs++[w]).length=j+1;simp[hfl]⟩,by show _- (j+1)<_;omega⟩⟩
 ·intro a6 c _
  refine⟨⟨al,0, .mk 0 (mkS []) (a6,fs.length,c) fs (none,0,0) [] 0⟩,rfl,rfl,rfl,rfl,rfl,rfl,rfl,rfl,rfl,rfl,rfl,⟨by show all<=al;omega,by show al<=2001;omega,λ_=>hl1⟩,λq hq=> ?_⟩
  have h2:=hq.2.2
  rw[List.take_of_length_le (by rw[z01 z0c];exact Nat.le_refl _)]at h2
  show GV.ok _ q
  unfold GV.ok
  exact⟨⟨rfl,hq.2.1,h2⟩,z05,hq.1.2⟩
end
section
variable {S:List AT}
def z3s{j:Nat} (hj:j<S.length):atS S ((j:Nat):Int)=S[j]:=by
 unfold atS;rw[Int.toNat_natCast,List.getElem?_eq_getElem hj];rfl
def zmf{all dp e:Int} (h:20<dp\/2000<all):lmX all dp e=if e=0 then 3 else e:=by unfold lmX;split<;>split<;>omega
def j4z{all dp e:Int} (h1:¬20<dp) (h2:¬2000<all):lmX all dp e=e:=by unfold lmX;rw[if_neg (by omega)]
def j50{all dp e:Int} (h:lmX all dp e=0):e=0/\¬20<dp/\¬2000<all:=by
 unfold lmX at h;split at h<;>omega
def zx3{all dp e:Int} (h:lmX all dp e≠0):e≠0/\lmX all dp e=e\/e=0/\lmX all dp e=3/\(20<dp\/2000<all):=by
 unfold lmX at*;split at h
 ·rename_i g;exact .inr ⟨g.1,by rw[if_pos g],g.2⟩
 ·rename_i g;exact .inl ⟨h,by rw[if_neg g]⟩
variable {D:ByteArray}
def zwp{t dp all:Int} {n:Nat} (h1:1<=dp) (h2:dp<=21) (h3:0<=all) (h:20<dp\/2000<all+1):dvX S D (21- dp).toNat t n all.toNat= .no 2:=by
 rcases h with h|h
 ·rw[show(21- dp).toNat=0 by omega];rfl
 ·cases(21- dp).toNat with
  |zero=>rfl
  |succ f=>rw[dvX,if_pos (by omega)]
def zm8{dp all:Int} {j n:Nat} (hj:j<S.length) (h1:1<=dp) (h2:¬20<dp) (h3:0<=all) (h:¬2000<all+1):dvX S D (21- dp).toNat ((j:Nat):Int) n all.toNat=vaX (gvX S D dp) D S[j] n (all+1).toNat:=by
 rw[show(21- dp).toNat=(20- dp).toNat+1 by omega,dvX,if_neg (by omega),Int.toNat_natCast,List.getElem?_eq_getElem hj,show(all+1).toNat=all.toNat+1 by omega]
 rfl
def jil{a:AT} {p:Pub} (h:a.ok p) {j:Nat} (hj:j<a.fs.length):q3p p ((adr a.f.1 (j*9)).add 2) [.int .i64 a.fs[j].ty]:=λi v hi=>by
  have hf:=(z6k h hj).2
  cases i with
  | zero=>
    simp at hi;subst hi
    have:=hf 2 _ (show a.fs[j].cells[2]? =some (.int .i64 a.fs[j].ty)from rfl)
    rw[Addr.add_add,Nat.add_zero];exact this
  |succ i=>simp at hi
def zxb(l:List GV) (v:GV):GV.pvs (l++[v])=GV.pvs l++[v.pv]:=by rw[GV.pvs_map,GV.pvs_map];simp
def z46{fs:List GV} {a:Option Addr} {c:Nat} {q:Pub} (h1:GV.oks fs q) (h2:fs.length<=c) (h3:qik q a (List.take (fs.length*5) (z00 GV.cells fs))):(GV.mk 0 (mkS []) (a,fs.length,c) fs (none,0,0) [] 0).ok q:=by
 rw[List.take_of_length_le (by rw[z01 z0c];exact Nat.le_refl _)]at h3
 unfold GV.ok
 exact⟨⟨rfl,h2,h3⟩,z05,h1⟩
variable {g:Int->Nat->Nat->RdT} {ts:List Int} {l:List PV}
def zmm{n c:Nat} {i:Nat} (h:ts.length<=i):z6c g (ts.drop i) l n c= .ok (l,n,c):=by rw[List.drop_of_length_le h];rfl
def zml{n c:Nat} {i:Nat} (h:i<ts.length):z6c g (ts.drop i) l n c=(g ts[i] n c).bind λr=>z6c g (ts.drop (i+1)) (l++[r.1]) r.2.1 r.2.2:=by rw[List.drop_eq_getElem_cons h,z6c]
def z57{α:Type} {R:RdT} {f:PV×Nat×Nat->Rs α} {R0:Rs α} {v:PV} {n c e:Int} (h:agD R v n c e) (hR:R.bind f=R0):thn R0 e (f (v,n.toNat,c.toNat)=R0):=by
  cases R with
  |no k=>exact .inr ⟨k,h,hR.symm⟩
  | ok r=>
    obtain⟨rfl,rfl,rfl,rfl⟩:=h
    exact .inl ⟨rfl,hR⟩
def rsL(N:Int) (s:ByteArray) (n e:Int):Rs (PV×Nat):=if e=0 then .ok (.mk N s [] [] 0,n.toNat)else .no (e- 1).toNat
def zoo{a:AT} {n n' all e' N:Int} {s:ByteArray} (Q:Pub->Prop) (hk:a.k≠9/\a.k≠14/\a.k≠12/\a.k≠13) (hR:lfX a D n.toNat=rsL N s n' e') (he:0<=e') (hd:z0x D n') (h0:0<=all) (ha:¬2000<all+1) (hn:n<=n'):∃b:RvB,b.1.n=N/\b.1.s=s/\b.1.x.1=noA/\b.1.x.2.1=0/\b.1.x.2.2=0/\b.1.y.1=noA/\b.1.y.2.1=0/\b.1.y.2.2=0/\b.1.b=0/\b.2.1=n'/\b.2.2.1=all+1/\b.2.2.2=e'/\z0v (vaX g D a n.toNat (all+1).toNat) D n (all+1) 0 b/\∀q,Q q->b.1.ok q:=by
 refine⟨(.mk N s (none,0,0) [] (none,0,0) [] 0,n',all+1,e'),rfl,rfl,rfl,rfl,rfl,rfl,rfl,rfl,rfl,rfl,rfl,rfl,⟨?_,hd,⟨by omega,by omega⟩,λ_=>by omega,hn⟩,λq _=> ?_⟩
 ·rw[if_pos rfl]
  unfold vaX
  rw[if_neg hk.1,if_neg hk.2.1,if_neg (by omega),hR]
  unfold rsL
  have:=hd.1
  split
  ·rw[z0j];exact⟨by assumption,rfl,by show n'=((n'.toNat:Nat):Int);omega,by show all+1=(((all+1).toNat:Nat):Int);omega⟩
  ·rw[z11];show e'=(((e'- 1).toNat:Nat):Int)+1;omega
 ·unfold GV.ok GV.oks;exact⟨z05,z05,trivial⟩
def zxj(c:Nat) (hv0:q22 P 31 (cRv.below z7q c)) (hb0:q22 P 62 ((cRb kdP).below zgd (c+1))):q22 P 31 (cRv.below z7q (c+1)):=by
 refine qlb mixed (qee (qih z25 (qih zos (qih z2o (qih z5p (qih zcr (qih z5o (qih z4c qlq)))))))) (qf7 (qig hv0 (qig hb0 qlp))) (W:=wRv) Go.Proofs.Tryz.func31 (by kernel_rfl) (show 1<=2 by decide) (show 2<=2 by decide) (λs=>by kernel_rfl) λ⟨S,⟨(x:SV),(y:SV),D,(n:Int),(all:Int),(e:Int)⟩,(t:Int),(dp:Int)⟩=>(zxi c S x y D n all e t dp).mpr ?_
 rintro⟨hmu,hok,hd,⟨ha0,ha1⟩,he,⟨t0,t1⟩,hp1,hp2⟩ ⟨p,_,hx,hyl,hy⟩
 have hS:=hok.1
 have hmu:(25- dp).toNat<c+1:=hmu
 have xs:x.2.1=S.length:=hx.1.1
 simp only[sbS,exists_const,forall_const,Int.toNat_natCast]
 refine⟨⟨by omega,by omega⟩,⟨λh20=>⟨⟨x,y,n,all+1,e,3⟩,rfl,rfl,rfl,rfl,rfl,rfl,rfl,rfl,rfl,rfl,rfl,rfl,rfl,rfl,rfl,rfl,rfl,rfl,zmf (.inl h20)⟩,λh20=>⟨λhA=>⟨⟨x,y,n,all+1,e,3⟩,rfl,rfl,rfl,rfl,rfl,rfl,rfl,rfl,rfl,rfl,rfl,rfl,rfl,rfl,rfl,rfl,rfl,rfl,zmf (.inr hA)⟩,λhA=>j4z h20 hA⟩⟩,λhne=> ?_,λhE=> ?_⟩
 ·refine⟨⟨zV,n,all+1,lmX (all+1) dp e⟩,rfl,rfl,rfl,rfl,rfl,rfl,rfl,rfl,rfl,rfl,rfl,rfl,⟨?_,hd,⟨by omega,by omega⟩,λh=>absurd h hne,Int.le_refl _⟩,λq _=>z17 q⟩
  rcases zx3 hne with⟨h1,h2⟩|⟨h1,h2,h3⟩
  ·rw[if_neg h1,h2]
  ·rw[if_pos h1,h2,zwp hp1 hp2 ha0 h3];rfl
 obtain⟨rfl,l1,l2⟩:=j50 hE
 rw[hE]
 obtain⟨j,rfl⟩:=Int.eq_ofNat_of_zero_le t0
 have hj:j<S.length:=by omega
 rw[zm8 hj hp1 l1 ha0 l2]
 have htp:=λq (hq:z09 S x q)=>z9w hq hj
 have hao:=λq (hq:z09 S x q)=>hq.2 S[j] (List.getElem_mem hj)
 refine⟨⟨by omega,by omega⟩,(htp p hx).1,S[j].k,S[j].nm,S[j].al.1,S[j].al.2.1,S[j].al.2.2,S[j].it,S[j].sy.1,S[j].sy.2.1,S[j].sy.2.2,S[j].hd,S[j].df,S[j].sz,S[j].f.1,S[j].f.2.1,S[j].f.2.2,S[j].br.1,S[j].br.2.1,S[j].br.2.2,λq hq=>(htp q hq.1).2,?_⟩
 have hn0:=hd.1
 have hn1:=hd.2.1
 have hkd:=hok.2.1 S[j] (List.getElem_mem hj)
 have hrg:=hok.2.2 S[j] (List.getElem_mem hj)
 have fin:∀(n' e' N:Int) (s:ByteArray),(S[j].k≠9/\S[j].k≠14/\S[j].k≠12/\S[j].k≠13)->lfX S[j] D n.toNat=rsL N s n' e'->0<=e'->z0x D n'->n<=n'->_:=λn' e' N s hk hR he hd=>zoo (g:=gvX S D dp) (λq=>z09 S x q/\y.2.1=D.size/\qil q y.1 y.2.1 y.2.2 (q1h D)) hk hR he hd ha0 l2
 clear hE
 refine⟨λk2=> ?_,λk2=> ?_⟩
 ·refine⟨⟨⟨x,y,D,n,all+1,0⟩,1⟩,rfl,rfl,rfl,rfl,rfl,rfl,rfl,rfl,rfl,rfl,⟨hd,by show(0:Int)<=1;decide,by show(1:Int)<=8;decide⟩,λq hq=>hq.2,?_⟩
  simp only[ziw hd (show(0:Int)<=1 by decide)]
  have hf:=z1e (D:=D) (i:=n.toNat) (k:=1) (by omega)
  have hl:lfX S[j] D n.toNat=(btX D n.toNat 1).bind λr=>if 1<loS r.1 then .no 1 else .ok (pvN (loS r.1),r.2):=by unfold lfX;rw[if_neg (by omega),if_pos k2]
  unfold btX rsT loS at hl
  generalize btP D n.toNat 1=T at*
  obtain⟨s,e1,m⟩:=T
  simp only at hf hl⊢
  have hd2:z0x D m:=⟨by omega,by omega,hd.2.2⟩
  by_cases h1:e1=0
  ·rw[if_pos h1,z0j]at hl
   refine⟨λh=>⟨⟨x,y,m,all+1,e1,2⟩,rfl,rfl,rfl,rfl,rfl,rfl,rfl,rfl,rfl,rfl,?_⟩,λh=> ?_⟩
   ·simp only[true_and,and_true,h1,if_true]
    exact fin m 2 _ _ (by omega) (by rw[hl,if_pos h];rfl) (by decide) hd2 (by omega)
   ·simp only[true_and,and_true]
    exact fin m e1 _ _ (by omega) (by rw[hl,if_neg h,h1];rfl) (by omega) hd2 (by omega)
  ·rw[if_neg h1,z11]at hl
   refine⟨λh=>⟨⟨x,y,m,all+1,e1,2⟩,rfl,rfl,rfl,rfl,rfl,rfl,rfl,rfl,rfl,rfl,?_⟩,λh=> ?_⟩
   ·simp only[true_and,and_true,h1,if_false]
    exact fin m e1 _ _ (by omega) (by rw[hl];unfold rsL;rw[if_neg h1]) (by omega) hd2 (by omega)
   ·simp only[true_and,and_true]
    exact fin m e1 _ _ (by omega) (by rw[hl];unfold rsL;rw[if_neg h1]) (by omega) hd2 (by omega)
 refine⟨⟨λh=>by unfold kIt;exact z19 (by omega),λh=>by unfold kIt;exact z19 (by omega)⟩,λhI=> ?_,λhI=> ?_⟩
 ·unfold kIt at hI
  rw[decide_eq_true_eq]at hI
  refine⟨⟨x,y,D,n,all+1,0⟩,rfl,rfl,rfl,rfl,rfl,rfl,rfl,rfl,rfl,hd,λq hq=>hq.2,?_⟩
  simp only[z7p hd]
  have hf:=z0m D n.toNat (by omega)
  have h3:S[j].k=3->lfX S[j] D n.toNat=(lgX D n.toNat).bind λr=>if r.1< -2147483648\/2147483648<=r.1 then .no 1 else .ok (pvN (r.1 % 18446744073709551616),r.2):=λh=>by unfold lfX;rw[if_neg (by omega),if_neg (by omega),if_pos h]
  have h4:¬S[j].k=3->lfX S[j] D n.toNat=(lgX D n.toNat).bind λr=> .ok (pvN (r.1 % 18446744073709551616),r.2):=λh=>by unfold lfX;rw[if_neg (by omega),if_neg (by omega),if_neg h,if_pos (by omega)]
  unfold lgX at h3 h4
  generalize lgR D n.toNat=T at*
  obtain⟨v,e1,m⟩:=T
  simp only at hf h3 h4⊢
  have hd2:z0x D (m:Int):=⟨by omega,by omega,hd.2.2⟩
  simp only[wrap_u64]
  by_cases h1:e1=0
  ·rw[if_pos h1]at h3 h4
   refine⟨λk3=>⟨λh=>⟨⟨x,y,m,all+1,e1,2⟩,rfl,rfl,rfl,rfl,rfl,rfl,rfl,rfl,rfl,rfl,?_⟩,λh=>⟨λh'=>⟨⟨x,y,m,all+1,e1,2⟩,rfl,rfl,rfl,rfl,rfl,rfl,rfl,rfl,rfl,rfl,?_⟩,λh'=> ?_⟩⟩,λk3=> ?_⟩
   ·simp only[true_and,and_true,h1,if_true]
    exact fin m 2 _ _ (by omega) (by rw[h3 k3,z0j,if_pos (.inl h)];rfl) (by decide) hd2 (by omega)
   ·simp only[true_and,and_true,h1,if_true]
    exact fin m 2 _ _ (by omega) (by rw[h3 k3,z0j,if_pos (.inr h')];rfl) (by decide) hd2 (by omega)
   ·simp only[true_and,and_true]
    exact fin m e1 _ _ (by omega) (by rw[h3 k3,z0j,if_neg (by omega),h1];rfl) (by omega) hd2 (by omega)
   ·simp only[true_and,and_true]
    exact fin m e1 _ _ (by omega) (by rw[h4 k3,z0j,h1];rfl) (by omega) hd2 (by omega)
  ·rw[if_neg h1]at h3 h4
   have hno:∀(N:Int) (s:ByteArray),lfX S[j] D n.toNat=rsL N s m e1:=λN s=>by
    have hz:∀k:Nat,rsL N s (m:Int) (e1:Int)= .no (e1- 1):=λ_=>by unfold rsL;rw[if_neg (by omega)];congr 1;omega
    by_cases h:S[j].k=3
    ·rw[h3 h,z11,hz 0]
    ·rw[h4 h,z11,hz 0]
   have fin2:=λ(N:Int) (s:ByteArray)=>fin m e1 N s (by omega) (hno N s) (by omega) hd2 (by omega)
   have h1':¬(e1:Int)=0:=by omega
   refine⟨λk3=>⟨λh=>⟨⟨x,y,m,all+1,e1,2⟩,rfl,rfl,rfl,rfl,rfl,rfl,rfl,rfl,rfl,rfl,?_⟩,λh=>⟨λh'=>⟨⟨x,y,m,all+1,e1,2⟩,rfl,rfl,rfl,rfl,rfl,rfl,rfl,rfl,rfl,rfl,?_⟩,λh'=> ?_⟩⟩,λk3=> ?_⟩
   all_goals simp only[true_and,and_true,h1',if_false]
   all_goals exact fin2 _ _
 unfold kIt at hI
 rw[decide_eq_false_iff_not]at hI
 have low:∀k:Int,(k=4\/k=8)->(S[j].k=5\/S[j].k=6)->(lfX S[j] D n.toNat=(btX D n.toNat k).bind λr=> .ok (pvN (loS r.1),r.2))->_:=λk hk h56 hl=>(by
  have hf:=z1e (D:=D) (i:=n.toNat) (k:=k) (by omega)
  unfold btX rsT loS at hl
  exact fin (btP D n.toNat k).2.2 (btP D n.toNat k).2.1 (loL (btP D n.toNat k).1.data.toList:Nat) (mkS []) (by omega) (by
   rw[hl];unfold rsL
   by_cases h:(btP D n.toNat k).2.1=0
   ·rw[if_pos h,if_pos h];rfl
   ·rw[if_neg h,if_neg h];rfl) hf.1.1 ⟨by omega,by omega,hd.2.2⟩ (by omega))
 refine⟨λk5=> ?_,λk5=>⟨λk6=> ?_,λk6=>⟨⟨λh=>by unfold kBt;exact z19 (by omega),λh=>by unfold kBt;exact z19 (by omega)⟩,λhb=> ?_,λhb=> ?_⟩⟩⟩
 ·refine⟨⟨⟨x,y,D,n,all+1,0⟩,4⟩,rfl,rfl,rfl,rfl,rfl,rfl,rfl,rfl,rfl,rfl,⟨hd,by show(0:Int)<=4;decide,by show(4:Int)<=8;decide⟩,λq hq=>hq.2,?_⟩
  simp only[ziw hd (show(0:Int)<=4 by decide),true_and,and_true]
  exact low 4 (.inl rfl) (.inl k5) (by unfold lfX;rw[if_neg (by omega),if_neg k2,if_neg (by omega),if_neg (by omega),if_pos k5])
 ·refine⟨⟨⟨x,y,D,n,all+1,0⟩,8⟩,rfl,rfl,rfl,rfl,rfl,rfl,rfl,rfl,rfl,rfl,⟨hd,by show(0:Int)<=8;decide,by show(8:Int)<=8;decide⟩,λq hq=>hq.2,?_⟩
  simp only[ziw hd (show(0:Int)<=8 by decide),true_and,and_true]
  exact low 8 (.inr rfl) (.inr k6) (by unfold lfX;rw[if_neg (by omega),if_neg k2,if_neg (by omega),if_neg (by omega),if_neg k5,if_pos k6])
 ·unfold kBt at hb
  rw[decide_eq_true_eq]at hb
  refine⟨⟨x,y,D,n,all+1,0⟩,rfl,rfl,rfl,rfl,rfl,rfl,rfl,rfl,rfl,hd,λq hq=>hq.2,?_⟩
  simp only[zxx hd,true_and,and_true]
  have hf:=z27 (D:=D) (i:=n.toNat) (by omega)
  have h7:S[j].k=7->lfX S[j] D n.toNat=(txX D n.toNat).bind λr=> .ok (pvS r.1,r.2):=λh=>by unfold lfX;rw[if_neg (by omega),if_neg (by omega),if_neg (by omega),if_neg (by omega),if_neg (by omega),if_neg (by omega),if_pos h]
  have h8:S[j].k=8->lfX S[j] D n.toNat=(vlX D n.toNat).bind λr=> .ok (pvS r.1,r.2):=λh=>by unfold lfX;rw[if_neg (by omega),if_neg (by omega),if_neg (by omega),if_neg (by omega),if_neg (by omega),if_neg (by omega),if_neg (by omega),if_pos h]
  unfold txX rsT at h7
  unfold vlX rsT vlE at h8
  generalize txP D n.toNat=T at*
  obtain⟨s,e1,m⟩:=T
  simp only at hf h7 h8⊢
  have hd2:z0x D m:=⟨by omega,by omega,hd.2.2⟩
  by_cases h1:e1=0
  ·rw[if_pos h1]at h7
   refine⟨λk8=>⟨by omega,λhv=> ?_,λhv=> ?_⟩,λk8=> ?_⟩
   ·rw[if_neg (by rw[if_pos ⟨h1,hv⟩];decide),if_pos ⟨h1,hv⟩]at h8
    refine⟨⟨x,y,m,all+1,e1,2⟩,rfl,rfl,rfl,rfl,rfl,rfl,rfl,rfl,rfl,rfl,?_⟩
    simp only[true_and,and_true,h1,if_true]
    exact fin m 2 _ _ (by omega) (by rw[h8 k8];rfl) (by decide) hd2 (by omega)
   ·rw[if_neg (show¬(e1=0/\vld s=false)by rw[hv];simp),if_pos h1]at h8
    exact fin m e1 _ _ (by omega) (by rw[h8 k8,h1];rfl) (by omega) hd2 (by omega)
   ·exact fin m e1 _ _ (by omega) (by rw[h7 (by omega),h1];rfl) (by omega) hd2 (by omega)
  ·rw[if_neg h1]at h7
   rw[if_neg (show¬(e1=0/\vld s=false)by omega),if_neg h1]at h8
   refine⟨λk8=>⟨by omega,λhv=> ?_,λhv=> ?_⟩,λk8=> ?_⟩
   ·refine⟨⟨x,y,m,all+1,e1,2⟩,rfl,rfl,rfl,rfl,rfl,rfl,rfl,rfl,rfl,rfl,?_⟩
    simp only[true_and,and_true,h1,if_false]
    exact fin m e1 _ _ (by omega) (by rw[h8 k8];unfold rsL;rw[if_neg h1];rfl) (by omega) hd2 (by omega)
   ·exact fin m e1 _ _ (by omega) (by rw[h8 k8];unfold rsL;rw[if_neg h1];rfl) (by omega) hd2 (by omega)
   ·exact fin m e1 _ _ (by omega) (by rw[h7 (by omega)];unfold rsL;rw[if_neg h1];rfl) (by omega) hd2 (by omega)
 unfold kBt at hb
 rw[decide_eq_false_iff_not]at hb
 obtain⟨_,syl,fl,bl⟩:=z1p (hao p hx)
 have sm:=hS.2 S[j] (List.getElem_mem hj)
 refine⟨λk10=> ?_,λk10=>⟨λk11=> ?_,λk11=>⟨λk14=> ?_,λk14=> ?_⟩⟩⟩
 ·refine⟨⟨⟨x,y,D,n,all+1,0⟩,(S[j].sy.2.1:Int)⟩,rfl,rfl,rfl,rfl,rfl,rfl,rfl,rfl,rfl,rfl,⟨hd,by show(0:Int)<=(S[j].sy.2.1:Int);omega,by show(S[j].sy.2.1:Int)<_;omega⟩,λq hq=>hq.2,?_⟩
  simp only[zwy hd,true_and,and_true,wrap_u64]
  have hf:=z0m D n.toNat (by omega)
  have hl:lfX S[j] D n.toNat=(ixX D n.toNat S[j].sys.length).bind λr=> .ok (pvN r.1,r.2):=by unfold lfX;rw[if_neg (by omega),if_neg k2,if_neg (by omega),if_neg (by omega),if_neg k5,if_neg k6,if_neg (by omega),if_neg (by omega),if_pos k10]
  unfold ixX at hl
  rw[←syl]at hl
  have hd2:z0x D ((lgR D n.toNat).2.2:Nat):=⟨by omega,by omega,hd.2.2⟩
  refine fin _ _ _ _ (by omega) ?_ (by omega) hd2 (by omega)
  rw[hl]
  unfold rsL
  by_cases h1:chE D n.toNat S[j].sy.2.1=0
  ·have hrr:0<=(lgR D n.toNat).1:=by unfold chE at h1;split at h1<;>omega
   rw[if_pos h1,if_pos (by omega),if_pos h1,z0j,Int.emod_eq_of_lt hrr (by omega),Int.toNat_natCast]
   rfl
  ·rw[if_neg h1,if_neg (by omega),z11]
   congr 1;omega
 ·have hz:=hrg.2.2.2 k11
  refine⟨⟨⟨x,y,D,n,all+1,0⟩,S[j].sz⟩,rfl,rfl,rfl,rfl,rfl,rfl,rfl,rfl,rfl,rfl,⟨hd,by show(0:Int)<=S[j].sz;omega,by show S[j].sz<_;omega⟩,λq hq=>hq.2,?_⟩
  simp only[ziw hd hz.1,true_and,and_true]
  have hf:=z1e (D:=D) (i:=n.toNat) (k:=S[j].sz) (by omega)
  have hl:lfX S[j] D n.toNat=(btX D n.toNat S[j].sz).bind λr=> .ok (pvS r.1,r.2):=by unfold lfX;rw[if_neg (by omega),if_neg k2,if_neg (by omega),if_neg (by omega),if_neg k5,if_neg k6,if_neg (by omega),if_neg (by omega),if_neg k10,if_pos k11]
  unfold btX rsT at hl
  refine fin _ _ _ _ (by omega) ?_ (by omega) ⟨by omega,by omega,hd.2.2⟩ (by omega)
  rw[hl]
  unfold rsL
  by_cases h1:(btP D n.toNat S[j].sz).2.1=0
  ·rw[if_pos h1,if_pos h1];rfl
  ·rw[if_neg h1,if_neg h1];rfl
 ·have hva:vaX (gvX S D dp) D S[j] n.toNat (all+1).toNat=unX (gvX S D dp) D S[j] n.toNat (all+1).toNat:=by unfold vaX;rw[if_neg (by omega),if_pos k14]
  refine⟨⟨⟨x,y,D,n,all+1,0⟩,(S[j].br.2.1:Int)⟩,rfl,rfl,rfl,rfl,rfl,rfl,rfl,rfl,rfl,rfl,⟨hd,by show(0:Int)<=(S[j].br.2.1:Int);omega,by show(S[j].br.2.1:Int)<_;omega⟩,λq hq=>hq.2,?_⟩
  have hf:=z0m D n.toNat (by omega)
  have hd2:z0x D ((lgR D n.toNat).2.2:Nat):=⟨by omega,by omega,hd.2.2⟩
  rw[hva]
  unfold unX ixX
  rw[←bl]
  simp only[zwy hd,true_and,and_true]
  by_cases h1:chE D n.toNat S[j].br.2.1=0
  ·have hrr:0<=(lgR D n.toNat).1/\(lgR D n.toNat).1<S[j].br.2.1:=by unfold chE at h1;split at h1<;>omega
   rw[if_pos h1,if_pos h1,z0j]
   refine⟨λ_=>⟨hrr,?_⟩,λh=>absurd (by omega) h⟩
   obtain⟨b,hb⟩:=Int.eq_ofNat_of_zero_le hrr.1
   have hbl:b<S[j].brs.length:=by omega
   have hba:=λq (hq:z09 S x q)=>z8u (hao q hq) hbl
   have hbr:=hrg.2.1 S[j].brs[b] (List.getElem_mem hbl)
   have hgd:S[j].brs.getD b 0=S[j].brs[b]:=by rw[List.getD_eq_getElem?_getD,List.getElem?_eq_getElem hbl];rfl
   simp only[hb,Int.toNat_natCast,hgd]
   refine⟨(hba p hx).1,S[j].brs[b],λq hq=>(hba q hq.1).2,⟨by omega,by omega⟩,⟨S,⟨x,y,D,((lgR D n.toNat).2.2:Nat),all+1,0⟩,S[j].brs[b],dp+1⟩,rfl,rfl,rfl,rfl,rfl,rfl,rfl,rfl,rfl,rfl,(by show(0:Int)=((chE D n.toNat S[j].br.2.1:Nat):Int);omega),⟨by show(25- (dp+1)).toNat<c;omega,hok,hd2,⟨by show 0<=all+1;omega,by show all+1<=2000;omega⟩,Int.le_refl _,hbr,by show 1<=dp+1;omega,by show dp+1<=21;omega⟩,λq hq=>hq,?_⟩
   rintro⟨r,n',all',e'⟩ ⟨g1,g2,g3,g4,g6⟩ _ b2 s2 _
   have g6:((lgR D n.toNat).2.2:Nat)<=n':=g6
   have g3:all+1+1<=all'/\all'<=2001:=g3
   rw[if_pos rfl,show(21- (dp+1)).toNat=(20- dp).toNat by omega]at g1
   simp only[Int.toNat_natCast]at g1
   refine⟨⟨.mk 0 (mkS []) (some ⟨b2,s2+0,none⟩,1,1) [r] (none,0,0) [] b,n',all',e'⟩,rfl,rfl,rfl,rfl,rfl,rfl,rfl,rfl,rfl,rfl,rfl,rfl,rfl,rfl,rfl,rfl,rfl,rfl,⟨?_,g2,⟨by omega,by omega⟩,g4,by omega⟩,λq hq=> ?_⟩
   ·rw[if_pos rfl]
    show agD ((dvX S D (20- dp).toNat S[j].brs[b] (lgR D n.toNat).2.2 (all+1).toNat).bind _) _ _ _ _
    revert g1
    cases dvX S D (20- dp).toNat S[j].brs[b] (lgR D n.toNat).2.2 (all+1).toNat with
    |no k=>exactλg1=>g1
    |ok w=>exactλ⟨q1,q2,q3,q4⟩=>⟨q1,by rw[GV.pv,GV.pvs,GV.pvs,q2],q3,q4⟩
   ·unfold GV.ok
    exact⟨⟨rfl,Nat.le_refl _, .inr ⟨_,rfl,rfl,hq.2⟩⟩,z05,z1a hq.1.2⟩
  ·rw[if_neg h1,if_neg h1,z11]
   refine⟨λh=>absurd h (by omega),λ_=>⟨⟨zV,((lgR D n.toNat).2.2:Nat),all+1,(chE D n.toNat S[j].br.2.1:Nat)⟩,rfl,rfl,rfl,rfl,rfl,rfl,rfl,rfl,rfl,rfl,rfl,rfl,⟨?_,hd2,⟨by omega,by omega⟩,λ_=>by omega,by omega⟩,λq _=>z17 q⟩⟩
   rw[if_pos rfl]
   show((chE D n.toNat S[j].br.2.1:Nat):Int)=((chE D n.toNat S[j].br.2.1- 1:Nat):Int)+1
   omega
 refine⟨λk9=> ?_,λk9=>⟨⟨λh=>by unfold kPa;exact z19 (by omega),λh=>by unfold kPa;exact z19 (by omega)⟩,λhA=> ?_,λhA=> ?_⟩⟩
 ·have hva:vaX (gvX S D dp) D S[j] n.toNat (all+1).toNat=rcX (gvX S D dp) S[j] n.toNat (all+1).toNat:=by unfold vaX;rw[if_pos k9]
  rw[hva]
  refine⟨⟨⟨0,n,all+1,0,[]⟩,rfl,rfl,rfl,rfl,rfl,λq _=>GV.oks_iff.2 λw hw=>(by cases hw),⟨Nat.zero_le _,rfl,hd,⟨Int.le_refl _,by show all+1<=2001;omega⟩,λ_=>by show all+1<=2000;omega,Int.le_refl _, .inl ⟨rfl,rfl⟩⟩⟩,?_⟩
  rintro⟨i,n1,all1,e1,fs⟩ ⟨r1,r2,r3,⟨r4,r5⟩,r5',r7,r6⟩ ⟨p2,hp2,hfsok⟩
  rw[z3s hj]at r1 r6
  simp only at r1 r2 r3 r4 r5 r5' r6 r7 hfsok⊢
  have rc:∀(a:Option Addr) (cc:Nat),(e1≠0\/S[j].fs.length<=i)->z0v (rcX (gvX S D dp) S[j] n.toNat (all+1).toNat) D n (all+1) 0 (.mk 0 (mkS []) (a,fs.length,cc) fs (none,0,0) [] 0,n1,all1,e1):=λa cc hc=>by
   refine⟨?_,r3,⟨by omega,r5⟩,r5',r7⟩
   rw[if_pos rfl]
   unfold rcX
   rcases r6 with⟨q1,q2⟩|⟨k,q1,q2⟩
   ·rw[zmm (by rw[List.length_map];omega)]at q2
    rw[←q2,z0j]
    have:=r3.1
    exact⟨q1,by rw[GV.pv],by show n1=((n1.toNat:Nat):Int);omega,by show all1=((all1.toNat:Nat):Int);omega⟩
   ·rw[q2,z11];exact q1
  refine⟨λhlt=>⟨λhz0=> ?_,λhnz a cc _=>⟨⟨.mk 0 (mkS []) (a,fs.length,cc) fs (none,0,0) [] 0,n1,all1,e1⟩,rfl,rfl,rfl,rfl,rfl,rfl,rfl,rfl,rfl,rfl,rfl,rfl,rc a cc (.inl (by omega)),λq hq=>z46 hq.1.2 hq.2.1 hq.2.2⟩⟩,λhge a cc _=>⟨⟨.mk 0 (mkS []) (a,fs.length,cc) fs (none,0,0) [] 0,n1,all1,e1⟩,rfl,rfl,rfl,rfl,rfl,rfl,rfl,rfl,rfl,rfl,rfl,rfl,rc a cc (.inr (by omega)),λq hq=>z46 hq.1.2 hq.2.1 hq.2.2⟩⟩
  subst hz0
  have hif:i<S[j].fs.length:=by omega
  have r6:z6c (gvX S D dp) ((S[j].fs.map AF.ty).drop i) (GV.pvs fs) n1.toNat all1.toNat=z6c (gvX S D dp) (S[j].fs.map AF.ty) [] n.toNat (all+1).toNat:=by
   rcases r6 with⟨_,q⟩|⟨k,q,_⟩
   ·exact q
   ·omega
  rw[zml (by rw[List.length_map];exact hif),List.getElem_map]at r6
  have hft:=hrg.1 _ (List.getElem_mem hif)
  have hfty:=λq hq=>jil (hao q hq) hif
  have hne:=(z6k (hao p hx) hif).1
  have hr0:=r5' rfl
  refine⟨?ra,?rb,?rc⟩
  case ra|rb|rc=>
   refine⟨⟨by omega,by omega⟩,hne,S[j].fs[i].ty,λq hq=>hfty q hq.1.1,⟨by omega,by omega⟩,⟨S,⟨x,y,D,n1,all1,0⟩,S[j].fs[i].ty,dp+1⟩,rfl,rfl,rfl,rfl,rfl,rfl,rfl,rfl,rfl,rfl,rfl,⟨by show(25- (dp+1)).toNat<c;omega,hok,r3,⟨by show 0<=all1;omega,hr0⟩,Int.le_refl _,hft,by show 1<=dp+1;omega,by show dp+1<=21;omega⟩,λq hq=>hq.1,?_⟩
   rintro⟨r,n',all',e'⟩ ⟨g1,g2,g3,g4,g6⟩ _
   have g6:n1<=n':=g6
   have g3:all1+1<=all'/\all'<=2001:=g3
   rw[if_pos rfl,show(21- (dp+1)).toNat=(20- dp).toNat by omega]at g1
   have hag:=z57 g1 r6
   refine⟨z01 z0c fs,by omega,⟨by omega,by omega⟩,⟨i+1,n',all',e',fs++[r]⟩,by show((i+1:Nat):Int)=_;omega,?_⟩
   simp only[true_and,and_true,eq_self]
   refine⟨by simp,by rw[z04];rfl,λq hq=>hq.1.1,λq hq=>z1z hq.1.2 (z1a hq.2),⟨by rw[z3s hj];omega,by simp[r2],g2,⟨by omega,by omega⟩,g4,by omega,?_⟩,by rw[z3s hj];omega⟩
   rw[z3s hj,zxb]
   exact hag
 ·unfold kPa at hA
  rw[decide_eq_true_eq]at hA
  have hva:vaX (gvX S D dp) D S[j] n.toNat (all+1).toNat=bvX (gvX S D dp) D S[j] n.toNat (all+1).toNat:=by unfold vaX;rw[if_neg k9,if_neg k14,if_pos hA]
  rw[hva]
  refine⟨⟨S,⟨x,y,D,n,all+1,0⟩,S[j],dp⟩,?_⟩
  simp only[true_and,and_true,eq_self]
  refine⟨⟨hmu,hok,List.getElem_mem hj,hA,hd,⟨by omega,by omega⟩,hp1,by omega⟩,λq hq=>⟨hq.1,hao q hq.1,hq.2⟩,?_⟩
  rintro⟨r,n',all',e'⟩ ⟨g1,g2,g3,g4,g6⟩ _
  have g3:all+1<=all'/\all'<=2001:=g3
  exact⟨⟨r,n',all',e'⟩,rfl,rfl,rfl,rfl,rfl,rfl,rfl,rfl,rfl,rfl,rfl,rfl,⟨g1,g2,⟨by omega,by omega⟩,g4,g6⟩,λq hq=>hq.2⟩
 ·unfold kPa at hA
  rw[decide_eq_false_iff_not]at hA
  have hl:lfX S[j] D n.toNat= .ok (pvN 0,n.toNat):=by unfold lfX;rw[if_pos (by omega)]
  exact fin n 0 0 (mkS []) (by omega) hl (by decide) hd (Int.le_refl _)
end
def zcc(l:List AV) (h:T AO):Option (Int×DcS):=match l with
  | .ptr id _::k::_=>match j4o h id with
    | some d=>match gi k with
      |some (_,n)=>some (n,d)
      |none=>none
    |none=>none
  |_=>none
def z42:Ct where
 σ:=Int×DcS
 args:=λ⟨k,x,s,i,c⟩=>[.ptr 1 0, .sv (.int .i64 k)]
 h:=λ⟨k,x,s,i,c⟩=>dcd x s i c
 m:=2
 pre:=λ⟨k,d⟩=>z0g d/\ -9223372036854775808<=k/\k<9223372036854775808
 find:=some zcc
 r:=λ⟨k,x,s,i,c⟩=> .tup [.sv (.string (btP s i.toNat k).1), .sv (.int .i64 (btP s i.toNat k).2.1)]
 h':=λ⟨k,x,s,i,c⟩=>dcd x s (btP s i.toNat k).2.2 c
 m':=2
 g:=λ_=>none
def z5c:Ct where
 σ:=Int×DcS
 args:=λ⟨k,x,s,i,c⟩=>[.ptr 1 0, .sv (.int .i64 k)]
 h:=λ⟨k,x,s,i,c⟩=>dcd x s i c
 m:=2
 pre:=λ⟨k,d⟩=>z0g d/\0<=k/\k<=8
 find:=some zcc
 r:=λ⟨k,x,s,i,c⟩=> .tup [.sv (.int .u64 (loS (btP s i.toNat k).1)), .sv (.int .i64 (btP s i.toNat k).2.1)]
 h':=λ⟨k,x,s,i,c⟩=>dcd x s (btP s i.toNat k).2.2 c
 m':=2
 g:=λ_=>none
def zen:z5c.σ->WayF:=λ⟨k,x,s,i,c⟩=>{
 ann:=λ_ _ _=>some {σ:=Nat,pre:=λj=>j<=(btP s i.toNat k).1.size,t:=λj=>[(8, .sv (.int .u64 (loL ((btP s i.toNat k).1.data.toList.take j):Nat))),(18, .sv (.int .i64 (j:Nat)))],h:=λ_=>[],more:=0,μ:=λj=>(btP s i.toNat k).1.size- j,keep:=[6,7,17]}}
def z90:Ct where
 σ:=DcS
 args:=λ⟨x,s,i,c⟩=>[.ptr 1 0]
 h:=λ⟨x,s,i,c⟩=>dcd x s i c
 m:=2
 pre:=z0g
 find:=some z93
 r:=λ⟨x,s,i,c⟩=> .tup [.sv (.string (txP s i.toNat).1), .sv (.int .i64 (txP s i.toNat).2.1)]
 h':=λ⟨x,s,i,c⟩=>dcd x s (txP s i.toNat).2.2 c
 m':=2
 g:=λ_=>none
def z5h:Ct where
 σ:=DcS
 args:=λ⟨x,s,i,c⟩=>[.ptr 1 0]
 h:=λ⟨x,s,i,c⟩=>dcd x s i c
 m:=2
 pre:=z0g
 find:=some z93
 r:=λ⟨x,s,i,c⟩=> .tup [.sv (.string (txP s i.toNat).1), .sv (.int .i64 (vlE (txP s i.toNat)))]
 h':=λ⟨x,s,i,c⟩=>dcd x s (txP s i.toNat).2.2 c
 m':=2
 g:=λ_=>none
def zhm(k:Int):Prop:=k≠9/\k≠14/\k≠12/\k≠13
def atM(a:AT):PF:=⟨true,λp=>a.ok p,λ_ _ h e=>AT.ok_mono h e⟩
abbrev PlB:=Int×ByteArray×Int×Int
def z5e:CtR where
 σ:=DcS×AT
 args:=λ⟨⟨x,s,i,c⟩,a⟩=>[.ptr 1 0,a.av]
 h:=λ⟨⟨x,s,i,c⟩,a⟩=>dcd x s i c
 m:=2
 pre:=λ⟨d,a⟩=>z0g d/\zhm a.k/\(1<=a.k/\a.k<=14)/\a.sys.length<1000000/\(a.k=11->0<=a.sz/\a.sz<1000000)
 mem:=λ⟨d,a⟩=>atM a
 β:=λ_=>PlB
 post:=λ⟨⟨x,s,i,c⟩,a⟩ ⟨N,r,e',i'⟩=>lfX a s i.toNat=rsL N r i' e'/\0<=e'/\i<=i'/\i'<=s.size
 pm:=λ_ _=>{}
 r:=λ_ ⟨N,r,e',i'⟩=> .tup [(GV.mk N r (none,0,0) [] (none,0,0) [] 0).av, .sv (.int .i64 e')]
 h':=λ⟨⟨x,s,i,c⟩,a⟩ ⟨N,r,e',i'⟩=>dcd x s i' c
 m':=2
def zep:z5e.σ->WayF:=λ⟨⟨x,s,i,c⟩,a⟩=>{
 cut:=λi tt _=>match i with
  |10=>swc kIt 23 9 [0,3,4,5,9,23] tt
  |_=>none}
abbrev VpS:=List AT×DcS×Int×Int
abbrev VpB:=GV×Int×Int×Int
def vpM(S:List AT) (x:SV):PF:=⟨true,λp=>z09 S x p,λ_ _ h e=>z0y h e⟩
def zq3(s:ByteArray) (i c:Int):VpB->Prop:=λ⟨r,e',i',c'⟩=>(i<=i'/\i'<=s.size)/\(c<=c'/\c'<=2001)/\(e'=0->c'<=2000)
def inT(S:List AT) (t:Int):Prop:=0<=t/\t<S.length
def z22(S:List AT) (R:RdT) (s:ByteArray) (i c t:Int) (b:VpB):Prop:=(inT S t->agD R b.1.pv b.2.2.1 b.2.2.2 b.2.1/\c+1<=b.2.2.2)/\(¬inT S t->b.2.1=1)/\zq3 s i c b
def z44:CtR where
 σ:=VpS
 args:=λ⟨S,⟨x,s,i,c⟩,t,dp⟩=>[.ptr 1 0, .sv (.int .i64 t), .sv (.int .i64 dp)]
 h:=λ⟨S,⟨x,s,i,c⟩,t,dp⟩=>dcd x s i c
 m:=2
 pre:=λ⟨S,⟨x,s,i,c⟩,t,dp⟩=>okS S/\z0g ⟨x,s,i,c⟩/\(0<=c/\c<=2000)/\1<=dp/\dp<=21
 mem:=λ⟨S,⟨x,s,i,c⟩,t,dp⟩=>vpM S x
 β:=λ_=>VpB
 post:=λ⟨S,⟨x,s,i,c⟩,t,dp⟩ b=>z22 S (dvX S s (21- dp).toNat t i.toNat c.toNat) s i c t b
 pm:=λ_ ⟨r,e',i',c'⟩=>vM r
 r:=λ_ ⟨r,e',i',c'⟩=> .tup [r.av, .sv (.int .i64 e')]
 h':=λ⟨S,⟨x,s,i,c⟩,t,dp⟩ ⟨r,e',i',c'⟩=>dcd x s i' c'
 m':=2
def zar:VpS->Nat:=λ⟨S,_,t,dp⟩=>(25- dp).toNat
abbrev PpS:=List AT×DcS×AT×Int
def ppM(S:List AT) (x:SV) (a:AT):PF:=⟨true,λp=>z09 S x p/\a.ok p,λ_ _ h e=>⟨z0y h e.1,AT.ok_mono h e.2⟩⟩
def zbn(κ:AT->Prop) (R:(Int->Nat->Nat->RdT)->ByteArray->AT->Nat->Nat->RdT):CtR where
 σ:=PpS
 args:=λ⟨S,⟨x,s,i,c⟩,a,dp⟩=>[.ptr 1 0,a.av, .sv (.int .i64 dp)]
 h:=λ⟨S,⟨x,s,i,c⟩,a,dp⟩=>dcd x s i c
 m:=2
 pre:=λ⟨S,⟨x,s,i,c⟩,a,dp⟩=>okS S/\a∈S/\κ a/\z0g ⟨x,s,i,c⟩/\(0<=c/\c<=2000)/\1<=dp/\dp<=20
 mem:=λ⟨S,⟨x,s,i,c⟩,a,dp⟩=>ppM S x a
 β:=λ_=>VpB
 post:=λ⟨S,⟨x,s,i,c⟩,a,dp⟩ b=>agD (R (gvX S s dp) s a i.toNat c.toNat) b.1.pv b.2.2.1 b.2.2.2 b.2.1/\zq3 s i c b
 pm:=λ_ ⟨r,e',i',c'⟩=>vM r
 r:=λ_ ⟨r,e',i',c'⟩=> .tup [r.av, .sv (.int .i64 e')]
 h':=λ⟨S,⟨x,s,i,c⟩,a,dp⟩ ⟨r,e',i',c'⟩=>dcd x s i' c'
 m':=2
def z7a:PpS->Nat:=λ⟨S,_,a,dp⟩=>(25- dp).toNat
def kd9(a:AT):Prop:=a.k=9
def zw2(a:AT):Prop:=a.k=14
def rcD(g:Int->Nat->Nat->RdT) (D:ByteArray) (a:AT) (n c:Nat):RdT:=rcX g a n c
def zye:VpS->WayF:=λ⟨S,⟨x,s,i,c⟩,t,dp⟩=>{
 cut:=λi tt _=>match i with
  |13=>swc kPa 62 48 [0,1,2,6,7,8,48,62] tt
  |_=>none}
def rpI(S:List AT) (a:AT) (s:ByteArray) (dp i c:Int) (j:Nat) (i1 c1:Int) (fs:List GV):Prop:=(j<=a.fs.length/\fs.length=j)/\(i<=i1/\i1<=s.size)/\(c<=c1/\c1<=2000)/\z6c (gvX S s dp) ((a.fs.map AF.ty).drop j) (GV.pvs fs) i1.toNat c1.toNat=z6c (gvX S s dp) (a.fs.map AF.ty) [] i.toNat c.toNat
def zya:PpS->WayF:=λ⟨S,⟨x,s,i,c⟩,a,dp⟩=>{
 pubE:=[40]
 ann:=λ_ tt hh=>match zw7 tt 8 with
  |some vb=>some {σ:=Nat×Int×Int×List GV,pre:=λ⟨j,i1,c1,fs⟩=>rpI S a s dp i c j i1 c1 fs,mem:=λ⟨j,i1,c1,fs⟩=>gsM fs,t:=λ⟨j,i1,c1,fs⟩=>[(16, .sv (.int .i64 (j:Nat)))],h:=λ⟨j,i1,c1,fs⟩=>dcd x s i1 c1++[(vb,zx9 hh vb fs.length),(40, .row 36 0 (z00 GV.cells fs))],more:=60,μ:=λ⟨j,i1,c1,fs⟩=>a.fs.length- j,keep:=[0,2,4,6,7,8,14,15]}
  |none=>none}
def zyd:PpS->WayF:=λ_=>{pubE:=[42]}
section
variable (x0:Int) (x1:ByteArray) (x2:Int) (x3:SV) (x4:Int) (x5:Prop)
 abbrev zn9:=decide (x0<0)=decide (x0<0)
 def j1y:=zn9 x0/\zn9 x0/\zn9 x0/\zn9 x0/\zn9 x0/\x5
 def j6n:=(btP x1 (toNat x0) x2).2.1=x4/\x3.1=x3.1/\x3.2.1=x3.2.1/\x3.2.2=x3.2.2/\x1=x1/\x5
 def j4b:=(btP x1 (toNat x0) x2).1=mkS []/\j6n x0 x1 x2 x3 2 ((btP x1 (toNat x0) x2).2.2=x0/\x4=x4/\True)
 def jep:=zn9 x0/\j1y x0 (j1y x0 (Ji (x0<0) (j4b x2 x1 x0 x3 x4) (False)))
 def jeo:=Jb (x0+x2)/\(0<=x0/\x0<=x0+x2/\x0+x2<=(↑(size x1):Int))/\(btP x1 (toNat x0) x2).1=ByteArray.extract x1 (toNat x0) (toNat (x0+x2))/\j6n x0 x1 x2 x3 0 ((btP x1 (toNat x0) x2).2.2=x0+x2/\x4=x4/\True)
 def jen:=Ji ((↑(size x1):Int)- x0<x2) (j4b x0 x1 x2 x3 x4) (jeo x0 x1 x2 x3 x4)
 def jem:=j1y x0 (j1y x0 (Jb ((↑(size x1):Int)- x2)/\zn9 x0/\Ji (x0<0) (j4b x2 x1 x0 x3 x4) (jen x2 x1 x0 x3 x4)))
 def jel:=Ji (x0<0) (jep x0 x1 x2 x3 x4) (jem x0 x1 x2 x3 x4)
end
def zaa(k:Int) (x:SV) (s:ByteArray) (i c:Int):qm2 P (λ_=>none) Go.Proofs.Tryz.f89 z42 (λ_=>{}) ⟨k,x,s,i,c⟩=(z0g (x,s,i,c)/\(-9223372036854775808:Int)<=k/\k<9223372036854775808->jel k s i x c):=by kernel_rfl
def zbx:=λk x s i c=>Eq.trans (zaa k x s i c) (by delta Ji Jb Jt Jf zn9 j1y j6n j4b jep jeo jen jem jel;exact rfl)
section
variable (x0:Int) (x1:SV) (x2:ByteArray) (x3 x4:Int) (x5:Nat) (x6:Prop)
 abbrev j6p:=x1.1=x1.1/\x1.2.1=x1.2.1/\x1.2.2=x1.2.2/\x6
 abbrev zbp:=(btP x2 (toNat x0) x3).1
 abbrev j20:=(↑(size (zbp x0 x2 x3)):Int)
 def j6o:=(btP x2 (toNat x0) x3).2.1=(btP x2 (toNat x0) x3).2.1/\(j20 x0 x2 x3)=(j20 x0 x2 x3)/\x6
 abbrev j1z:=(↑(loL (take x5 (Array.toList (ByteArray.data (zbp x0 x2 x3))))):Int)
 def j4c:=j6p x1 (x2=x2/\(btP x2 (toNat x0) x3).2.2=(btP x2 (toNat x0) x3).2.2/\x4=x4/\x6)
 def jes:=(0<=(↑x5:Int)/\(↑x5:Int)<(j20 x0 x2 x3))/\(0<=(↑(bat (zbp x0 x2 x3) (toNat (↑x5:Int))):Int)/\(↑(bat (zbp x0 x2 x3) (toNat (↑x5:Int))):Int)<=18446744073709551615)/\0<=IntKind.wrap u64 ((8:Int)*IntKind.wrap u64 (↑x5:Int))/\Jb ((↑x5:Int)+1)/\∃(i0:Nat),j6o x0 x2 x3 ((j1z x0 x2 x3 i0)=qbu BinOp.or u64 (j1z x0 x2 x3 x5) (shP BinOp.shl u64 (↑(bat (zbp x0 x2 x3) (toNat (↑x5:Int))):Int) (IntKind.wrap u64 ((8:Int)*IntKind.wrap u64 (↑x5:Int))))/\(btP x2 (toNat x0) x3).1=(btP x2 (toNat x0) x3).1/\(↑i0:Int)=(↑x5:Int)+1/\j4c x0 x1 x2 x3 x4 (i0<=size (zbp x0 x2 x3)/\size (zbp x0 x2 x3)- i0<size (zbp x0 x2 x3)- x5/\True))
 def jet:=loS (zbp x0 x2 x3)=(j1z x0 x2 x3 x5)/\(btP x2 (toNat x0) x3).2.1=(btP x2 (toNat x0) x3).2.1/\j4c x0 x1 x2 x3 x4 True
 def jer:=Ji ((↑x5:Int)<(j20 x0 x2 x3)) (jes x0 x1 x2 x3 x4 x5) (jet x0 x1 x2 x3 x4 x5)
 def jeq:=x0=x0/\j6p x1 (x2=x2/\x3=x3/\x4=x4/\(z0g ((x1.1,x1.2.1,x1.2.2),x2,x3,x4)/\(-9223372036854775808:Int)<=x0/\x0<9223372036854775808)/\(∃(i0:Nat),j6o x3 x2 x0 ((j1z x3 x2 x0 i0)=0/\(btP x2 (toNat x3) x0).1=(btP x2 (toNat x3) x0).1/\(↑i0:Int)=0/\j4c x3 x1 x2 x0 x4 (i0<=size (zbp x3 x2 x0)/\True)))/\∀(i1:Nat),i1<=size (zbp x3 x2 x0)->jer x3 x1 x2 x0 x4 i1)
end
def zal(k:Int) (x:SV) (s:ByteArray) (i c:Int):qm2 P (qh2 [(89,z42)]) Go.Proofs.Tryz.f85 z5c (zen) ⟨k,x,s,i,c⟩=(z0g (x,s,i,c)/\0<=k/\k<=8->jeq k x s i c):=by kernel_rfl
def zch:=λk x s i c=>Eq.trans (zal k x s i c) (by delta Ji Jb Jt Jf j6p zbp j20 j6o j1z j4c jes jet jer jeq;exact rfl)
section
variable (x0:SV) (x1:ByteArray) (x2 x3:Int) (x4:Prop)
 abbrev zwa:=x0.1=x0.1/\x0.2.1=x0.2.1/\x0.2.2=x0.2.2/\x1=x1/\x4
 abbrev j4e:=(↑(lgR x1 (toNat x2)).2.1:Int)
 abbrev zta:=(txP x1 (toNat x2)).2
 abbrev zt9:=(↑(lgR x1 (toNat x2)).2.2:Int)
 def jex:=(txP x1 (toNat x2)).1=mkS []/\(zta x1 x2).1=(j4e x1 x2)/\zwa x0 x1 ((zta x1 x2).2=(zt9 x1 x2)/\x3=x3/\True)
 def jey:=(txP x1 (toNat x2)).1=mkS []/\(zta x1 x2).1=3/\zwa x0 x1 ((zta x1 x2).2=(zt9 x1 x2)/\x3=x3/\True)
 abbrev j4d:=btP x1 (toNat (zt9 x1 x2)) (lgR x1 (toNat x2)).1
 def jew:=(lgR x1 (toNat x2)).1=(lgR x1 (toNat x2)).1/\zwa x0 x1 ((zt9 x1 x2)=(zt9 x1 x2)/\x3=x3/\(z0g ((x0.1,x0.2.1,x0.2.2),x1,(zt9 x1 x2),x3)/\(-9223372036854775808:Int)<=(lgR x1 (toNat x2)).1/\(lgR x1 (toNat x2)).1<9223372036854775808)/\(txP x1 (toNat x2)).1=(j4d x1 x2).1/\(zta x1 x2).1=(j4d x1 x2).2.1/\zwa x0 x1 ((zta x1 x2).2=(j4d x1 x2).2.2/\x3=x3/\True))
 def jev:=Ji (5000<(lgR x1 (toNat x2)).1) (jey x0 x1 x2 x3) (jew x0 x1 x2 x3)
 def jeu:=zwa x0 x1 (x2=x2/\x3=x3/\z0g ((x0.1,x0.2.1,x0.2.2),x1,x2,x3)/\((!decide ((j4e x1 x2)=0))=true->jex x0 x1 x2 x3)/\((!decide ((j4e x1 x2)=0))=false->jev x0 x1 x2 x3))
end
def ze5(x:SV) (s:ByteArray) (i c:Int):qm2 P (qh2 [(86,zab),(89,z42)]) Go.Proofs.Tryz.f87 z90 (λ_=>{}) ⟨x,s,i,c⟩=(z0g (x,s,i,c)->jeu x s i c):=by kernel_rfl
def ziu:=λx s i c=>Eq.trans (ze5 x s i c) (by delta Ji Jt Jf zwa j4e zta zt9 jex jey j4d jew jev jeu;exact rfl)
section
variable (x0:SV) (x1:ByteArray) (x2 x3:Int) (x4:Prop)
 abbrev j4f:=x0.1=x0.1/\x0.2.1=x0.2.1/\x0.2.2=x0.2.2/\x1=x1/\x4
 abbrev ztb:=(txP x1 (toNat x2)).2
 def j4g:=(txP x1 (toNat x2)).1=(txP x1 (toNat x2)).1
 def jf1:=j4g x1 x2/\vlE (txP x1 (toNat x2))=2/\j4f x0 x1 ((ztb x1 x2).2=(ztb x1 x2).2/\x3=x3/\True)
 def j6q:=j4g x1 x2/\vlE (txP x1 (toNat x2))=(ztb x1 x2).1/\j4f x0 x1 ((ztb x1 x2).2=(ztb x1 x2).2/\x3=x3/\True)
 def jf0:=j4g x1 x2/\size (txP x1 (toNat x2)).1<9223372036854775808/\((!vld (txP x1 (toNat x2)).1)=true->jf1 x0 x1 x2 x3)/\((!vld (txP x1 (toNat x2)).1)=false->j6q x0 x1 x2 x3)
 def jez:=j4f x0 x1 (x2=x2/\x3=x3/\z0g ((x0.1,x0.2.1,x0.2.2),x1,x2,x3)/\Ji ((ztb x1 x2).1=0) (jf0 x0 x1 x2 x3) (j6q x0 x1 x2 x3))
end
def zb2(x:SV) (s:ByteArray) (i c:Int):qm2 P (qh2 [(87,z90),(90,z2h)]) Go.Proofs.Tryz.f88 z5h (λ_=>{}) ⟨x,s,i,c⟩=(z0g (x,s,i,c)->jez x s i c):=by kernel_rfl
def zed:=λx s i c=>Eq.trans (zb2 x s i c) (by delta Ji Jt Jf j4f ztb j4g jf1 j6q jf0 jez;exact rfl)
section
variable (x0:AT) (x1:SV) (x2:ByteArray) (x3 x4:Int) (x5:PlB) (x6:Prop) (x7:Int)
 abbrev z15:=GV.mk x5.1 x5.2.1 (noA,(0:Nat),(0:Nat)) [] (noA,(0:Nat),(0:Nat)) [] 0
 def zfx:=(GV.x (z15 x5)).1=noA/\(GV.x (z15 x5)).2.1=0/\(GV.x (z15 x5)).2.2=0/\(GV.y (z15 x5)).1=noA/\(GV.y (z15 x5)).2.1=0/\(GV.y (z15 x5)).2.2=0/\GV.b (z15 x5)=0/\x6
 def z23:=x1.1=x1.1/\x1.2.1=x1.2.1/\x1.2.2=x1.2.2/\x2=x2/\x6
 def z4g:=(lfX x0 x2 (toNat x3)=rsL x5.1 x5.2.1 x5.2.2.2 x5.2.2.1/\0<=x5.2.2.1/\x3<=x5.2.2.2/\x5.2.2.2<=(↑(size x2):Int))/\True
 def zte:=∃(i0:PlB),GV.n (z15 i0)=0/\GV.s (z15 i0)=mkS []/\zfx i0 (i0.2.2.1=x7/\z23 x1 x2 (i0.2.2.2=x3/\x4=x4/\z4g x0 x2 x3 i0))
 abbrev z8e:=z0g ((x1.1,x1.2.1,x1.2.2),x2,x3,x4)
 abbrev z8f:=btP x2 (toNat x3) 1
 def j24:=(1:Int)=1/\z23 x1 x2 (x3=x3/\x4=x4/\(z8e x1 x2 x3 x4/\(0:Int)<=1/\(1:Int)<=8)/\Ji (1<loS (z8f x2 x3).1) (∃(i0:PlB),GV.n (z15 i0)=loS (z8f x2 x3).1/\GV.s (z15 i0)=mkS []/\zfx i0 (i0.2.2.1=2/\z23 x1 x2 (i0.2.2.2=(z8f x2 x3).2.2/\x4=x4/\z4g x0 x2 x3 i0))) (∃(i1:PlB),GV.n (z15 i1)=loS (z8f x2 x3).1/\GV.s (z15 i1)=mkS []/\zfx i1 (i1.2.2.1=(z8f x2 x3).2.1/\z23 x1 x2 (i1.2.2.2=(z8f x2 x3).2.2/\x4=x4/\z4g x0 x2 x3 i1))))
 def ztc:=∃(i0:Unit),kIt (AT.k x0)=decide (AT.k x0=x7)/\AT.k x0=AT.k x0/\z23 x1 x2 (x3=x3/\x4=x4/\AT.k x0=AT.k x0/\AT.nm x0=AT.nm x0/\(AT.al x0).1=(AT.al x0).1/\(AT.al x0).2.1=(AT.al x0).2.1/\(AT.al x0).2.2=(AT.al x0).2.2/\AT.it x0=AT.it x0/\(AT.sy x0).1=(AT.sy x0).1/\(AT.sy x0).2.1=(AT.sy x0).2.1/\(AT.sy x0).2.2=(AT.sy x0).2.2/\AT.hd x0=AT.hd x0/\AT.df x0=AT.df x0/\AT.sz x0=AT.sz x0/\(AT.f x0).1=(AT.f x0).1/\(AT.f x0).2.1=(AT.f x0).2.1/\(AT.f x0).2.2=(AT.f x0).2.2/\(AT.br x0).1=(AT.br x0).1/\(AT.br x0).2.1=(AT.br x0).2.1/\(AT.br x0).2.2=(AT.br x0).2.2/\(∀i1,True/\AT.ok x0 i1->True/\AT.ok x0 i1)/\True/\True)
 def ztf:= !decide ((lgR x2 (toNat x3)).1=IntKind.wrap i32 (lgR x2 (toNat x3)).1)
 def ztg:=GV.n (z15 x5)=IntKind.wrap u64 (lgR x2 (toNat x3)).1/\GV.s (z15 x5)=mkS []/\x6
 def ztd:=∃(i0:PlB),ztg x2 x3 i0 (zfx i0 (i0.2.2.1=(↑(lgR x2 (toNat x3)).2.1:Int)/\z23 x1 x2 (i0.2.2.2=(↑(lgR x2 (toNat x3)).2.2:Int)/\x4=x4/\z4g x0 x2 x3 i0)))
 def j23:=Jb (IntKind.wrap i32 (lgR x2 (toNat x3)).1)/\((ztf x2 x3)=true->∃(i0:PlB),ztg x2 x3 i0 (zfx i0 (i0.2.2.1=2/\z23 x1 x2 (i0.2.2.2=(↑(lgR x2 (toNat x3)).2.2:Int)/\x4=x4/\z4g x0 x2 x3 i0))))/\((ztf x2 x3)=false->ztd x0 x1 x2 x3 x4)
 def j21:=z23 x1 x2 (x3=x3/\x4=x4/\z8e x1 x2 x3 x4/\Ji (AT.k x0=3) (j23 x0 x1 x2 x3 x4) (ztd x0 x1 x2 x3 x4))
 def j6r:=x7=x7/\z23 x1 x2 (x3=x3/\x4=x4/\(z8e x1 x2 x3 x4/\0<=x7/\x7<=8)/\∃(i0:PlB),GV.n (z15 i0)=loS (btP x2 (toNat x3) x7).1/\GV.s (z15 i0)=mkS []/\zfx i0 (i0.2.2.1=(btP x2 (toNat x3) x7).2.1/\z23 x1 x2 (i0.2.2.2=(btP x2 (toNat x3) x7).2.2/\x4=x4/\z4g x0 x2 x3 i0)))
 def j26:=AT.sz x0=AT.sz x0/\z23 x1 x2 (x3=x3/\x4=x4/\(z8e x1 x2 x3 x4/\(-9223372036854775808:Int)<=AT.sz x0/\AT.sz x0<9223372036854775808)/\∃(i0:PlB),GV.n (z15 i0)=0/\GV.s (z15 i0)=(btP x2 (toNat x3) (AT.sz x0)).1/\zfx i0 (i0.2.2.1=(btP x2 (toNat x3) (AT.sz x0)).2.1/\z23 x1 x2 (i0.2.2.2=(btP x2 (toNat x3) (AT.sz x0)).2.2/\x4=x4/\z4g x0 x2 x3 i0)))
 def j25:=Ji (AT.k x0=11) (j26 x0 x1 x2 x3 x4) (zte x0 x1 x2 x3 x4 1)
 def j22:=Ji (AT.k x0=8) (z23 x1 x2 (x3=x3/\x4=x4/\z8e x1 x2 x3 x4/\∃(i0:PlB),GV.n (z15 i0)=0/\GV.s (z15 i0)=(txP x2 (toNat x3)).1/\zfx i0 (i0.2.2.1=vlE (txP x2 (toNat x3))/\z23 x1 x2 (i0.2.2.2=(txP x2 (toNat x3)).2.2/\x4=x4/\z4g x0 x2 x3 i0)))) (j25 x0 x1 x2 x3 x4)
 def jf9:=Ji (AT.k x0=7) (z23 x1 x2 (x3=x3/\x4=x4/\z8e x1 x2 x3 x4/\∃(i0:PlB),GV.n (z15 i0)=0/\GV.s (z15 i0)=(txP x2 (toNat x3)).1/\zfx i0 (i0.2.2.1=(txP x2 (toNat x3)).2.1/\z23 x1 x2 (i0.2.2.2=(txP x2 (toNat x3)).2.2/\x4=x4/\z4g x0 x2 x3 i0)))) (j22 x0 x1 x2 x3 x4)
 def jf8:=Ji (AT.k x0=10) (∃(i0:Int×DcS),i0.1=(↑(AT.sy x0).2.1:Int)/\i0.2.1.1=x1.1/\i0.2.1.2.1=x1.2.1/\i0.2.1.2.2=x1.2.2/\i0.2.2.1=x2/\i0.2.2.2.1=x3/\i0.2.2.2.2=x4/\z0g i0.2/\∃(i1:PlB),GV.n (z15 i1)=IntKind.wrap u64 (lgR i0.2.2.1 (toNat i0.2.2.2.1)).1/\GV.s (z15 i1)=mkS []/\zfx i1 (i1.2.2.1=(↑(chE i0.2.2.1 (toNat i0.2.2.2.1) i0.1):Int)/\x1.1=i0.2.1.1/\x1.2.1=i0.2.1.2.1/\x1.2.2=i0.2.1.2.2/\x2=i0.2.2.1/\i1.2.2.2=(↑(lgR i0.2.2.1 (toNat i0.2.2.2.1)).2.2:Int)/\x4=i0.2.2.2.2/\z4g x0 x2 x3 i1)) (jf9 x0 x1 x2 x3 x4)
 def jf7:=Ji (AT.k x0=6) (j6r x0 x1 x2 x3 x4 8) (jf8 x0 x1 x2 x3 x4)
 def jf6:=Ji (AT.k x0=5) (j6r x0 x1 x2 x3 x4 4) (jf7 x0 x1 x2 x3 x4)
 def jf5:=(kIt (AT.k x0)=true->j21 x0 x1 x2 x3 x4)/\(kIt (AT.k x0)=false->jf6 x0 x1 x2 x3 x4)
 def jf4:=(Ji (AT.k x0=3) (ztc x0 x1 x2 x3 x4 3) (ztc x0 x1 x2 x3 x4 4))/\∀(i4:Unit),True->jf5 x0 x1 x2 x3 x4
 def jf3:=Ji (AT.k x0=2) (j24 x0 x1 x2 x3 x4) (jf4 x0 x1 x2 x3 x4)
 def jf2:=Ji (AT.k x0=1) (zte x0 x1 x2 x3 x4 0) (jf3 x0 x1 x2 x3 x4)
end
def zau(x:SV) (s:ByteArray) (i c:Int) (a:AT):qm3 P (qh2 [(85,z5c),(86,zab),(84,z5b),(87,z90),(88,z5h),(89,z42)]) (qi5 []) Go.Proofs.Tryz.f45 z5e (zep) ⟨⟨x,s,i,c⟩,a⟩=(z0g (x,s,i,c)/\zhm (AT.k a)/\(1<=AT.k a/\AT.k a<=14)/\length (AT.sys a)<1000000/\(AT.k a=11->0<=AT.sz a/\AT.sz a<1000000)->(∃(p:Pub),True/\AT.ok a p)->jf2 a x s i c):=by kernel_rfl
def zdd:=λx s i c a=>Eq.trans (zau x s i c a) (by delta Ji Jb Jt Jf z15 zfx z23 z4g zte z8e z8f j24 ztc ztf ztg ztd j23 j21 j6r j26 j25 j22 jf9 jf8 jf7 jf6 jf5 jf4 jf3 jf2;exact rfl)
section
variable (x0:Int) (x1:SV) (x2:ByteArray) (x3 x4:Int) (x5:List AT) (x6:Int) (x7:Nat) (x8:Int) (x9:ByteArray) (x10:Option Addr) (x11:Nat) (x12:Int) (x13:Option Addr) (x14 x15:Nat) (x16:Bool) (x17:ByteArray) (x18:Int) (x19:Option Addr) (x20 x21:Nat) (x22:Option Addr) (x23 x24 x25:Nat) (x26:VpB) (x27:PpS) (x28:Prop) (x29:PlB) (x30:Int)
 abbrev zti:=x1.1=x1.1/\x1.2.1=x1.2.1/\x1.2.2=x1.2.2/\x28
 def zfy:=GV.n x26.1=0/\GV.s x26.1=mkS []/\(GV.x x26.1).1=noA/\(GV.x x26.1).2.1=0/\(GV.x x26.1).2.2=0/\(GV.y x26.1).1=noA/\(GV.y x26.1).2.1=0/\(GV.y x26.1).2.2=0/\GV.b x26.1=0/\x26.2.1=x3/\zti x1 (x2=x2/\x26.2.2.1=x0/\x28)
 def zbj:=z22 x5 (dvX x5 x2 (toNat ((21:Int)- x0)) x3 (toNat x4) (toNat x6)) x2 x4 x6 x3 x26/\(∀i0,True/\z09 x5 x1 i0->GV.ok x26.1 i0)/\True
 def j4i:=AT.k x27.2.2.1=x0/\AT.nm x27.2.2.1=x2/\(AT.al x27.2.2.1).1=x10/\(AT.al x27.2.2.1).2.1=x7/\(AT.al x27.2.2.1).2.2=x11/\AT.it x27.2.2.1=x3/\(AT.sy x27.2.2.1).1=x13/\(AT.sy x27.2.2.1).2.1=x14/\(AT.sy x27.2.2.1).2.2=x15/\AT.hd x27.2.2.1=x16/\AT.df x27.2.2.1=x9/\AT.sz x27.2.2.1=x4/\(AT.f x27.2.2.1).1=x19/\(AT.f x27.2.2.1).2.1=x20/\(AT.f x27.2.2.1).2.2=x21/\(AT.br x27.2.2.1).1=x22/\(AT.br x27.2.2.1).2.1=x23/\(AT.br x27.2.2.1).2.2=x24/\x27.2.2.2=x6/\x27.2.1.1.1=x1.1/\x27.2.1.1.2.1=x1.2.1/\x27.2.1.1.2.2=x1.2.2/\x27.2.1.2.1=x17/\x27.2.1.2.2.1=x8/\x27.2.1.2.2.2=x12+1/\x28
 def zkn:=z7a x27<x7+1/\okS x27.1/\x27.2.2.1∈x27.1/\x28
 def zkl:=z0g (x27.2.1.1,x27.2.1.2.1,x27.2.1.2.2.1,x27.2.1.2.2.2)/\(0<=x27.2.1.2.2.2/\x27.2.1.2.2.2<=2000)/\1<=x27.2.2.2/\x27.2.2.2<=20
 def zkm:=(∀i0,True/\z09 x5 x1 i0->z09 x27.1 x27.2.1.1 i0/\AT.ok x27.2.2.1 i0)
 abbrev zkp:=gvX x27.1 x27.2.1.2.1 x27.2.2.2
 abbrev zko:=zq3 x27.2.1.2.1 x27.2.1.2.2.1 x27.2.1.2.2.2 x26
 def j4h:=(∃i0,(True/\z09 x5 x1 i0)/\GV.ok x26.1 i0)->∃(i1:VpB),GV.n i1.1=GV.n x26.1/\GV.s i1.1=GV.s x26.1/\(GV.x i1.1).1=(GV.x x26.1).1/\(GV.x i1.1).2.1=(GV.x x26.1).2.1/\(GV.x i1.1).2.2=(GV.x x26.1).2.2/\(GV.y i1.1).1=(GV.y x26.1).1/\(GV.y i1.1).2.1=(GV.y x26.1).2.1/\(GV.y i1.1).2.2=(GV.y x26.1).2.2/\GV.b i1.1=GV.b x26.1/\i1.2.1=x26.2.1/\x1.1=x27.2.1.1.1/\x1.2.1=x27.2.1.1.2.1/\x1.2.2=x27.2.1.1.2.2/\x2=x27.2.1.2.1/\i1.2.2.1=x26.2.2.1/\i1.2.2.2=x26.2.2.2/\z22 x5 (dvX x5 x2 (toNat ((21:Int)- x0)) x3 (toNat x4) (toNat x6)) x2 x4 x6 x3 i1/\(∀i2,(True/\z09 x5 x1 i2)/\GV.ok x26.1 i2->GV.ok i1.1 i2)/\True
 def zth:=∃(i0:Unit),x0=x0/\x3=x3/\x4=x4/\kPa x4=decide (x4=x30)/\zti x1 (x2=x2/\x6=x6/\x8+1=x8+1/\x4=x4/\x9=x9/\x10=x10/\x7=x7/\x11=x11/\x12=x12/\x13=x13/\x14=x14/\x15=x15/\x16=x16/\x17=x17/\x18=x18/\x19=x19/\x20=x20/\x21=x21/\x22=x22/\x23=x23/\x24=x24/\(∀i1,True/\z09 x5 x1 i1->True/\z09 x5 x1 i1)/\True/\True)
 abbrev z4u:=GV.mk x29.1 x29.2.1 (noA,(0:Nat),(0:Nat)) [] (noA,(0:Nat),(0:Nat)) [] 0
 def jfh:=Ji (x0=14) (∃(i0:PpS),j4i x0 x1 x2 x3 x4 x6 x7 x8 x9 x10 x11 x12 x13 x14 x15 x16 x17 x19 x20 x21 x22 x23 x24 i0 ((zkn x25 i0 (zw2 i0.2.2.1/\zkl i0))/\zkm x1 x5 i0/\∀(i2:VpB),agD (unX (zkp i0) i0.2.1.2.1 i0.2.2.1 (toNat i0.2.1.2.2.1) (toNat i0.2.1.2.2.2)) (GV.pv i2.1) i2.2.2.1 i2.2.2.2 i2.2.1/\zko i2 i0->j4h x6 x1 x17 x18 x8 x5 x12 i2 i0)) (∃(i6:DcS×AT),AT.k i6.2=x0/\AT.nm i6.2=x2/\(AT.al i6.2).1=x10/\(AT.al i6.2).2.1=x7/\(AT.al i6.2).2.2=x11/\AT.it i6.2=x3/\(AT.sy i6.2).1=x13/\(AT.sy i6.2).2.1=x14/\(AT.sy i6.2).2.2=x15/\AT.hd i6.2=x16/\AT.df i6.2=x9/\AT.sz i6.2=x4/\(AT.f i6.2).1=x19/\(AT.f i6.2).2.1=x20/\(AT.f i6.2).2.2=x21/\(AT.br i6.2).1=x22/\(AT.br i6.2).2.1=x23/\(AT.br i6.2).2.2=x24/\i6.1.1.1=x1.1/\i6.1.1.2.1=x1.2.1/\i6.1.1.2.2=x1.2.2/\i6.1.2.1=x17/\i6.1.2.2.1=x8/\i6.1.2.2.2=x12+1/\(z0g i6.1/\zhm (AT.k i6.2)/\(1<=AT.k i6.2/\AT.k i6.2<=14)/\length (AT.sys i6.2)<1000000/\(AT.k i6.2=11->0<=AT.sz i6.2/\AT.sz i6.2<1000000))/\(∀i7,True/\z09 x5 x1 i7->AT.ok i6.2 i7)/\∀(i8:PlB),lfX i6.2 i6.1.2.1 (toNat i6.1.2.2.1)=rsL i8.1 i8.2.1 i8.2.2.2 i8.2.2.1/\0<=i8.2.2.1/\i6.1.2.2.1<=i8.2.2.2/\i8.2.2.2<=(↑(size i6.1.2.1):Int)->∃(i9:VpB),GV.n i9.1=GV.n (z4u i8)/\GV.s i9.1=GV.s (z4u i8)/\(GV.x i9.1).1=(GV.x (z4u i8)).1/\(GV.x i9.1).2.1=(GV.x (z4u i8)).2.1/\(GV.x i9.1).2.2=(GV.x (z4u i8)).2.2/\(GV.y i9.1).1=(GV.y (z4u i8)).1/\(GV.y i9.1).2.1=(GV.y (z4u i8)).2.1/\(GV.y i9.1).2.2=(GV.y (z4u i8)).2.2/\GV.b i9.1=GV.b (z4u i8)/\i9.2.1=i8.2.2.1/\x1.1=i6.1.1.1/\x1.2.1=i6.1.1.2.1/\x1.2.2=i6.1.1.2.2/\x17=i6.1.2.1/\i9.2.2.1=i8.2.2.2/\i9.2.2.2=i6.1.2.2.2/\zbj x6 x1 x17 x18 x8 x5 x12 i9)
 def jfg:=(kPa x0=true->∃(i0:PpS),j4i x0 x1 x2 x3 x4 x6 x7 x8 x9 x10 x11 x12 x13 x14 x15 x16 x17 x19 x20 x21 x22 x23 x24 i0 ((zkn x25 i0 (kdP i0.2.2.1/\zkl i0))/\zkm x1 x5 i0/\∀(i2:VpB),agD (bvX (zkp i0) i0.2.1.2.1 i0.2.2.1 (toNat i0.2.1.2.2.1) (toNat i0.2.1.2.2.2)) (GV.pv i2.1) i2.2.2.1 i2.2.2.2 i2.2.1/\zko i2 i0->j4h x6 x1 x17 x18 x8 x5 x12 i2 i0))/\(kPa x0=false->jfh x0 x1 x2 x3 x4 x5 x6 x7 x8 x9 x10 x11 x12 x13 x14 x15 x16 x17 x18 x19 x20 x21 x22 x23 x24 x25)
 def jff:=(Ji (x0=12) (zth x3 x1 x2 x4 x0 x5 x6 x7 x8 x9 x10 x11 x12 x13 x14 x15 x16 x17 x18 x19 x20 x21 x22 x23 x24 12) (zth x3 x1 x2 x4 x0 x5 x6 x7 x8 x9 x10 x11 x12 x13 x14 x15 x16 x17 x18 x19 x20 x21 x22 x23 x24 13))/\∀(i4:Unit),True->jfg x0 x1 x9 x12 x18 x5 x4 x7 x6 x17 x10 x11 x8 x13 x14 x15 x16 x2 x3 x19 x20 x21 x22 x23 x24 x25
 def jfe:=(0<=x0/\x0<(↑x1.2.1:Int))/\x1.1≠noA/\∃(i0:Int),∃i1,∃i2,∃(i3:Nat),∃(i4:Nat),∃(i5:Int),∃i6,∃(i7:Nat),∃(i8:Nat),∃(i9:Bool),∃i10,∃(i11:Int),∃i12,∃(i13:Nat),∃(i14:Nat),∃i15,∃(i16:Nat),∃(i17:Nat),(∀i18,True/\z09 x5 x1 i18->q3p i18 (adr x1.1 (toNat x0*10)) [int i64 i0,string i1,slice i2 i3 i4,int i64 i5,slice i6 i7 i8,bool i9,string i10,int i64 i11,slice i12 i13 i14,slice i15 i16 i17])/\Ji (i0=9) (∃(i19:PpS),j4i i0 x1 i1 i5 i11 x3 i3 x4 i10 i2 i4 x6 i6 i7 i8 i9 x2 i12 i13 i14 i15 i16 i17 i19 ((zkn x7 i19 (kd9 i19.2.2.1/\zkl i19))/\zkm x1 x5 i19/\∀(i21:VpB),agD (rcD (zkp i19) i19.2.1.2.1 i19.2.2.1 (toNat i19.2.1.2.2.1) (toNat i19.2.1.2.2.2)) (GV.pv i21.1) i21.2.2.1 i21.2.2.2 i21.2.1/\zko i21 i19->j4h x3 x1 x2 x0 x4 x5 x6 i21 i19)) (jff i0 x1 x2 x0 x3 x5 x4 i3 x6 i1 i2 i4 i5 i6 i7 i8 i9 i10 i11 i12 i13 i14 i15 i16 i17 x7)
 def jfd:=Ji (2000<x0+1) (∃(i0:VpB),zfy x3 x1 x2 3 i0 (i0.2.2.2=x0+1/\zbj x4 x1 x2 x6 x3 x5 x0 i0)) (jfe x6 x1 x2 x4 x3 x5 x0 x7)
 def jfc:=Jb (x0+1)/\Ji (20<x3) (∃(i0:VpB),zfy x4 x1 x2 3 i0 (i0.2.2.2=x0+1/\zbj x3 x1 x2 x6 x4 x5 x0 i0)) (jfd x0 x1 x2 x4 x3 x5 x6 x7)
 def jfb:=Ji ((↑x1.2.1:Int)<=x0) (∃(i0:VpB),zfy x3 x1 x2 1 i0 (i0.2.2.2=x4/\zbj x6 x1 x2 x0 x3 x5 x4 i0)) (jfc x4 x1 x2 x6 x3 x5 x0 x7)
 def jfa:=Ji (x0<0) (∃(i0:VpB),zfy x3 x1 x2 1 i0 (i0.2.2.2=x4/\zbj x6 x1 x2 x0 x3 x5 x4 i0)) (jfb x0 x1 x2 x3 x4 x5 x6 x7)
end
def zj5(n:Nat) (S:List AT) (x:SV) (s:ByteArray) (i c t dp:Int):qm3 P (qh2 []) (qi5 [(42,(zbn kd9 rcD).below z7a (n+1)),(43,(zbn kdP bvX).below z7a (n+1)),(44,(zbn zw2 unX).below z7a (n+1)),(45,z5e)]) Go.Proofs.Tryz.f27 (z44.below zar (n+1)) (zye) ⟨S,⟨x,s,i,c⟩,t,dp⟩=(zar (S,(x,s,i,c),t,dp)<n+1/\okS S/\z0g (x,s,i,c)/\(0<=c/\c<=2000)/\1<=dp/\dp<=21->(∃(p:Pub),True/\z09 S x p)->jfa t x s i c S dp n):=by kernel_rfl
def zq0:=λn S x s i c t dp=>Eq.trans (zj5 n S x s i c t dp) (by delta Ji Jb Jt Jf zti zfy zbj j4i zkn zkl zkm zkp zko j4h zth z4u jfh jfg jff jfe jfd jfc jfb jfa;exact rfl)
section
variable (x0:AT) (x1:Int) (x2:SV) (x3:ByteArray) (x4 x5:Int) (x6:List AT) (x7:Nat) (x8:Nat×Int×Int×List GV) (x9:VpB) (x10:VpS) (x11:Prop) (x12:Nat->Option Obj) (x13:Option Addr)
 abbrev ztn:=(↑(AT.f x0).2.1:Int)
 def j4j:=(AT.f x0).1=(AT.f x0).1/\(AT.f x0).2.1=(AT.f x0).2.1/\(AT.f x0).2.2=(AT.f x0).2.2/\x11
 def ztl:=x2.1=x2.1/\x2.2.1=x2.2.1/\x2.2.2=x2.2.2/\x11
 def j6s:=AT.k x0=AT.k x0/\AT.nm x0=AT.nm x0/\(AT.al x0).1=(AT.al x0).1/\(AT.al x0).2.1=(AT.al x0).2.1/\(AT.al x0).2.2=(AT.al x0).2.2/\AT.it x0=AT.it x0/\(AT.sy x0).1=(AT.sy x0).1/\(AT.sy x0).2.1=(AT.sy x0).2.1/\(AT.sy x0).2.2=(AT.sy x0).2.2/\AT.hd x0=AT.hd x0/\AT.df x0=AT.df x0/\AT.sz x0=AT.sz x0/\j4j x0 ((AT.br x0).1=(AT.br x0).1/\(AT.br x0).2.1=(AT.br x0).2.1/\(AT.br x0).2.2=(AT.br x0).2.2/\x11)
 def zgg:=(True/\z09 x6 x2 x12/\AT.ok x0 x12)/\GV.oks x8.2.2.2 x12
 def j6t:=(GV.y x9.1).1=noA/\(GV.y x9.1).2.1=0/\(GV.y x9.1).2.2=0/\GV.b x9.1=0/\x11
 def ztj:=x2.1=x10.2.1.1.1/\x2.2.1=x10.2.1.1.2.1/\x2.2.2=x10.2.1.1.2.2/\x3=x10.2.1.2.1/\x11
 def ztk:=(agD (rcD (gvX x6 x3 x1) x3 x0 (toNat x4) (toNat x5)) (GV.pv x9.1) x9.2.2.1 x9.2.2.2 x9.2.1/\zq3 x3 x4 x5 x9)
 def jfm:=length (z00 GV.cells x8.2.2.2)=length x8.2.2.2*5/\(length x8.2.2.2+nat_lit 1)*80<=140737488355328/\Jb ((↑x8.1:Int)+1)/\∃(i0:Nat×Int×Int×List GV),(ztn x0)=(ztn x0)/\x1=x1/\(↑i0.1:Int)=(↑x8.1:Int)+1/\j4j x0 (ztj x2 x3 x10 (i0.2.1=x9.2.2.1/\i0.2.2.1=x9.2.2.2/\j6s x0 (length i0.2.2.2=length x8.2.2.2+nat_lit 1/\z00 GV.cells i0.2.2.2=z00 GV.cells x8.2.2.2++[int u64 (GV.n x9.1),string (GV.s x9.1),slice (GV.x x9.1).1 (GV.x x9.1).2.1 (GV.x x9.1).2.2,slice (GV.y x9.1).1 (GV.y x9.1).2.1 (GV.y x9.1).2.2,int i64 (GV.b x9.1)]/\(∀i1,(zgg x0 x2 x6 x8 i1)/\GV.ok x9.1 i1->True/\z09 x6 x2 i1/\AT.ok x0 i1)/\(∀i2,(zgg x0 x2 x6 x8 i2)/\GV.ok x9.1 i2->GV.oks i0.2.2.2 i2)/\rpI x6 x0 x3 x1 x4 x5 i0.1 i0.2.1 i0.2.2.1 i0.2.2.2/\length (AT.fs x0)- i0.1<length (AT.fs x0)- x8.1/\True)))
 def jfl:=((!decide (x9.2.1=0))=true->∃(i0:VpB),GV.n i0.1=0/\GV.s i0.1=mkS []/\(GV.x i0.1).1=noA/\(GV.x i0.1).2.1=0/\(GV.x i0.1).2.2=0/\j6t i0 (i0.2.1=x9.2.1/\ztj x2 x3 x10 (i0.2.2.1=x9.2.2.1/\i0.2.2.2=x9.2.2.2/\ztk x0 x1 x3 x4 x5 x6 i0/\(∀i1,(zgg x0 x2 x6 x8 i1)/\GV.ok x9.1 i1->GV.ok i0.1 i1)/\True)))/\((!decide (x9.2.1=0))=false->jfm x0 x1 x2 x3 x4 x5 x6 x8 x9 x10)
 def jfk:=(0<=(↑x8.1:Int)/\(↑x8.1:Int)<(ztn x0))/\(AT.f x0).1≠noA/\∃i0,∃i1,∃(i2:Nat),∃(i3:Nat),∃(i4:Int),∃(i5:Bool),∃(i6:Int),∃(i7:Int),∃i8,∃i9,∃(i10:Nat),∃(i11:Nat),∃i12,∃(i13:Nat),∃(i14:Nat),(∀i15,zgg x0 x2 x6 x8 i15->q3p i15 (adr (AT.f x0).1 (toNat (↑x8.1:Int)*9)) [string i0,slice i1 i2 i3,int i64 i4,bool i5,int i64 i6,int i64 i7,string i8,slice i9 i10 i11,slice i12 i13 i14])/\Jb (x1+1)/\∃(i16:VpS),i16.2.2.1=i4/\i16.2.2.2=x1+1/\i16.2.1.1.1=x2.1/\i16.2.1.1.2.1=x2.2.1/\i16.2.1.1.2.2=x2.2.2/\i16.2.1.2.1=x3/\i16.2.1.2.2.1=x8.2.1/\i16.2.1.2.2.2=x8.2.2.1/\(zar i16<x7/\okS i16.1/\z0g (i16.2.1.1,i16.2.1.2.1,i16.2.1.2.2.1,i16.2.1.2.2.2)/\(0<=i16.2.1.2.2.2/\i16.2.1.2.2.2<=2000)/\1<=i16.2.2.2/\i16.2.2.2<=21)/\(∀i17,zgg x0 x2 x6 x8 i17->z09 i16.1 i16.2.1.1 i17)/\∀(i18:VpB),z22 i16.1 (dvX i16.1 i16.2.1.2.1 (toNat ((21:Int)- i16.2.2.2)) i16.2.2.1 (toNat i16.2.1.2.2.1) (toNat i16.2.1.2.2.2)) i16.2.1.2.1 i16.2.1.2.2.1 i16.2.1.2.2.2 i16.2.2.1 i18->(∃i19,(zgg x0 x2 x6 x8 i19)/\GV.ok i18.1 i19)->jfl x0 x1 x2 x3 x4 x5 x6 x8 i18 i16
 def ztm:=length x8.2.2.2<=x7/\qik x12 x13 (take (length x8.2.2.2*nat_lit 5) (z00 GV.cells x8.2.2.2))
 def jfj:=Ji ((↑x8.1:Int)<(ztn x0)) (jfk x0 x1 x2 x3 x4 x5 x6 x7 x8) (∀(i25 i26 i27:Nat) (i28:Option Addr) (i29 i30:Nat),(∃i31,(zgg x0 x2 x6 x8 i31)/\ztm i30 x8 i31 i28)->∃(i32:VpB),GV.n i32.1=0/\GV.s i32.1=mkS []/\(GV.x i32.1).1=i28/\(GV.x i32.1).2.1=length x8.2.2.2/\(GV.x i32.1).2.2=i30/\j6t i32 (i32.2.1=0/\ztl x2 (x3=x3/\i32.2.2.1=x8.2.1/\i32.2.2.2=x8.2.2.1/\ztk x0 x1 x3 x4 x5 x6 i32/\(∀i33,(zgg x0 x2 x6 x8 i33)/\ztm i30 x8 i33 i28->GV.ok i32.1 i33)/\True)))
 def jfi:=(∃(i0:Nat×Int×Int×List GV),(ztn x0)=(ztn x0)/\x1=x1/\(↑i0.1:Int)=0/\j4j x0 (ztl x2 (x3=x3/\i0.2.1=x4/\i0.2.2.1=x5/\j6s x0 (length i0.2.2.2=0/\(∀i1,True/\z09 x6 x2 i1/\AT.ok x0 i1->True/\z09 x6 x2 i1/\AT.ok x0 i1)/\(∀i2,True/\z09 x6 x2 i2/\AT.ok x0 i2->GV.oks i0.2.2.2 i2)/\rpI x6 x0 x3 x1 x4 x5 i0.1 i0.2.1 i0.2.2.1 i0.2.2.2/\True))))/\∀(i3:Nat×Int×Int×List GV),rpI x6 x0 x3 x1 x4 x5 i3.1 i3.2.1 i3.2.2.1 i3.2.2.2->(∃i4,zgg x0 x2 x6 i3 i4)->jfj x0 x1 x2 x3 x4 x5 x6 x7 i3
end
def zdp(n:Nat) (S:List AT) (x:SV) (s:ByteArray) (i c:Int) (a:AT) (dp:Int):qm3 P (qh2 []) (qi5 [(27,z44.below zar n)]) Go.Proofs.Tryz.f42 ((zbn kd9 rcD).below z7a (n+1)) (zya) ⟨S,⟨x,s,i,c⟩,a,dp⟩=(z7a (S,(x,s,i,c),a,dp)<n+1/\okS S/\a∈S/\kd9 a/\z0g (x,s,i,c)/\(0<=c/\c<=2000)/\1<=dp/\dp<=20->(∃(p:Pub),True/\z09 S x p/\AT.ok a p)->jfi a dp x s i c S n):=by kernel_rfl
def zid:=λn S x s i c a dp=>Eq.trans (zdp n S x s i c a dp) (by delta Ji Jb Jt Jf ztn j4j ztl j6s zgg j6t ztj ztk jfm jfl jfk ztm jfj jfi;exact rfl)
section
variable (x0:Int×DcS) (x1:AT) (x2:List AT) (x3:SV) (x4:Int) (x5:Nat) (x6:ByteArray) (x7 x8:Int) (x9:VpB) (x10:VpS) (x11:Nat->Option Obj) (x12:Nat) (x13:VpB) (x14:Prop)
 abbrev j4k:=(↑(chE x0.2.2.1 (toNat x0.2.2.2.1) x0.1):Int)
 def j6y:=(GV.y x9.1).1=noA/\(GV.y x9.1).2.1=0/\(GV.y x9.1).2.2=0/\x14
 def j6w:=GV.n x9.1=0/\GV.s x9.1=mkS []/\(GV.x x9.1).1=noA/\(GV.x x9.1).2.1=0/\(GV.x x9.1).2.2=0/\j6y x9 (GV.b x9.1=0/\x14)
 abbrev zto:=lgR x0.2.2.1 (toNat x0.2.2.2.1)
 def j6x:=(agD (unX (gvX x2 x6 x4) x6 x1 (toNat x7) (toNat x8)) (GV.pv x9.1) x9.2.2.1 x9.2.2.2 x9.2.1/\zq3 x6 x7 x8 x9)
 def j6v:=x3.1=x10.2.1.1.1/\x3.2.1=x10.2.1.1.2.1/\x3.2.2=x10.2.1.1.2.2/\x6=x10.2.1.2.1/\x9.2.2.1=x13.2.2.1/\x9.2.2.2=x13.2.2.2/\j6x x1 x2 x4 x6 x7 x8 x9/\x14
 def j6u:=((True/\z09 x2 x3 x11/\AT.ok x1 x11)/\GV.ok x9.1 x11)/\q3p x11 (Addr.mk x5 x12 none) [int u64 (GV.n x9.1),string (GV.s x9.1),slice (GV.x x9.1).1 (GV.x x9.1).2.1 (GV.x x9.1).2.2,slice (GV.y x9.1).1 (GV.y x9.1).2.1 (GV.y x9.1).2.2,int i64 (GV.b x9.1)]
 def jfo:=((!decide (x9.2.1=0))=true->∃(i0:VpB),j6w i0 (i0.2.1=x9.2.1/\j6v x1 x2 x3 x4 x6 x7 x8 i0 x10 x9 ((∀i1,(True/\z09 x2 x3 i1/\AT.ok x1 i1)/\GV.ok x9.1 i1->GV.ok i0.1 i1)/\True)))/\((!decide (x9.2.1=0))=false->∀(i2 i3 i4:Nat),(∃i5,j6u x1 x2 x3 i2 x9 i5 i3)->∃(i6:VpB),GV.n i6.1=0/\GV.s i6.1=mkS []/\(GV.x i6.1).1=some (Addr.mk i2 (i3+nat_lit 0) none)/\(GV.x i6.1).2.1=nat_lit 1/\(GV.x i6.1).2.2=nat_lit 1/\j6y i6 (GV.b i6.1=(zto x0).1/\i6.2.1=0/\j6v x1 x2 x3 x4 x6 x7 x8 i6 x10 x9 ((∀i7,j6u x1 x2 x3 i2 x9 i7 i3->GV.ok i6.1 i7)/\True)))
 def jfn:=(0<=(zto x0).1/\(zto x0).1<(↑(AT.br x1).2.1:Int))/\(AT.br x1).1≠noA/\∃(i0:Int),(∀i1,True/\z09 x2 x3 i1/\AT.ok x1 i1->q3p i1 (adr (AT.br x1).1 (toNat (zto x0).1*1)) [int i64 i0])/\Jb (x4+1)/\∃(i2:VpS),i2.2.2.1=i0/\i2.2.2.2=x4+1/\i2.2.1.1.1=x0.2.1.1/\i2.2.1.1.2.1=x0.2.1.2.1/\i2.2.1.1.2.2=x0.2.1.2.2/\i2.2.1.2.1=x0.2.2.1/\i2.2.1.2.2.1=(↑(zto x0).2.2:Int)/\i2.2.1.2.2.2=x0.2.2.2.2/\(zar i2<x5/\okS i2.1/\z0g (i2.2.1.1,i2.2.1.2.1,i2.2.1.2.2.1,i2.2.1.2.2.2)/\(0<=i2.2.1.2.2.2/\i2.2.1.2.2.2<=2000)/\1<=i2.2.2.2/\i2.2.2.2<=21)/\(∀i3,True/\z09 x2 x3 i3/\AT.ok x1 i3->z09 i2.1 i2.2.1.1 i3)/\∀(i4:VpB),z22 i2.1 (dvX i2.1 i2.2.1.2.1 (toNat ((21:Int)- i2.2.2.2)) i2.2.2.1 (toNat i2.2.1.2.2.1) (toNat i2.2.1.2.2.2)) i2.2.1.2.1 i2.2.1.2.2.1 i2.2.1.2.2.2 i2.2.2.1 i4->(∃i5,(True/\z09 x2 x3 i5/\AT.ok x1 i5)/\GV.ok i4.1 i5)->jfo x0 x1 x2 x3 x4 x6 x7 x8 i4 i2
end
def zj1(n:Nat) (S:List AT) (x:SV) (s:ByteArray) (i c:Int) (a:AT) (dp:Int):qm3 P (qh2 [(84,z5b)]) (qi5 [(27,z44.below zar n)]) Go.Proofs.Tryz.f44 ((zbn zw2 unX).below z7a (n+1)) (zyd) ⟨S,⟨x,s,i,c⟩,a,dp⟩=(z7a (S,(x,s,i,c),a,dp)<n+1/\okS S/\a∈S/\zw2 a/\z0g (x,s,i,c)/\(0<=c/\c<=2000)/\1<=dp/\dp<=20->(∃(p:Pub),True/\z09 S x p/\AT.ok a p)->∃(s_1:Int×DcS),s_1.1=(↑(AT.br a).2.1:Int)/\s_1.2.1.1=x.1/\s_1.2.1.2.1=x.2.1/\s_1.2.1.2.2=x.2.2/\s_1.2.2.1=s/\s_1.2.2.2.1=i/\s_1.2.2.2.2=c/\z0g s_1.2/\((!decide ((j4k s_1)=0))=true->∃(b:VpB),j6w b (b.2.1=(j4k s_1)/\x.1=s_1.2.1.1/\x.2.1=s_1.2.1.2.1/\x.2.2=s_1.2.1.2.2/\s=s_1.2.2.1/\b.2.2.1=(↑(zto s_1).2.2:Int)/\b.2.2.2=s_1.2.2.2.2/\j6x a S dp s i c b/\(∀(p:Pub),True/\z09 S x p/\AT.ok a p->GV.ok b.1 p)/\True))/\((!decide ((j4k s_1)=0))=false->jfn s_1 a S x dp n s i c)):=by kernel_rfl
def zpy:=λn S x s i c a dp=>Eq.trans (zj1 n S x s i c a dp) (by delta Jb j4k j6y j6w zto j6x j6v j6u jfo jfn;exact rfl)
open Go.Proofs.YtniogjgfomaicaaGreat.Rv
def z41:q5k P 89 z42:=by
 refine qm5 mixed z0p (W:=λ_=>{}) Go.Proofs.Tryz.func89 (by kernel_rfl) (by decide) (by decide) (λs=>by kernel_rfl) λ⟨(k:Int),(x:SV),s,(i:Int),(c:Int)⟩=>(zbx k x s i c).mpr ?_
 rintro⟨⟨h1,h2,h3⟩,h4,h5⟩
 simp only[decide_eq_true_eq,decide_eq_false_iff_not,true_and,and_true,eq_self]
 have bad:(k<0\/(s.size:Int)- i<k)->btP s i.toNat k=(mkS [],2,i):=λh=>by
  unfold btP;rw[if_pos (by omega),Int.toNat_of_nonneg h1]
 refine⟨λh=>⟨λ_=>by rw[bad (.inl h)];exact⟨rfl,rfl,rfl⟩,λg=>absurd h g⟩,λh=>⟨⟨by omega,by omega⟩,λg=>absurd g h,λ_=>⟨λg=>by rw[bad (.inr g)];exact⟨rfl,rfl,rfl⟩,λg=>⟨⟨by omega,by omega⟩,⟨h1,by omega,by omega⟩,?_⟩⟩⟩⟩
 unfold btP
 rw[if_neg (by omega),Int.toNat_of_nonneg h1,show(i+k).toNat=i.toNat+k.toNat by omega]
 exact⟨rfl,rfl,rfl⟩
def zd4:∀(l:List UInt8) (j:Nat) (h:j<l.length),loL (l.take (j+1))=loL (l.take j)+256 ^ j*l[j].toNat
  |c::l,0,_=>by simp[loL]
  | c::l,j+1,h=>by
    have hj:j<l.length:=by simpa using h
    have:=zd4 l j hj
    rw[List.take_succ_cons,List.take_succ_cons,loL,loL,this,List.getElem_cons_succ,Nat.pow_succ,Nat.mul_add]
    rw[show 256 ^ j*256*l[j].toNat=256*(256 ^ j*l[j].toNat)by rw[Nat.mul_comm (256 ^ j) 256,Nat.mul_assoc]]
    omega
def zp3(v b j:Nat) (hv:v<256 ^ j) (hj:j<8) (hb:b<256):qbu .or .u64 (v:Int) (shP .shl .u64 (b:Int) (IntKind.wrap .u64 (8*IntKind.wrap .u64 (j:Int))))=((v+256 ^ j*b:Nat):Int):=by
 have hw:IntKind.wrap .u64 (8*IntKind.wrap .u64 (j:Int))=((8*j:Nat):Int):=by rw[wrap_u64,wrap_u64];omega
 have hp:(2:Nat) ^ (8*j)=256 ^ j:=by rw[Nat.pow_mul]
 have h7:256 ^ j<=256 ^ 7:=Nat.pow_le_pow_right (by decide) (by omega)
 have h56:(256:Nat) ^ 7=72057594037927936:=by decide
 have hbb:256 ^ j*b<=256 ^ j*255:=Nat.mul_le_mul_left _ (by omega)
 have hs:shP .shl .u64 (b:Int) (IntKind.wrap .u64 (8*IntKind.wrap .u64 (j:Int)))=((256 ^ j*b:Nat):Int):=by
  rw[hw]
  show IntKind.wrap .u64 ((b:Int)*2 ^ min ((8*j:Nat):Int).toNat 64)=_
  rw[wrap_u64,Int.toNat_natCast,Nat.min_eq_left (by omega)]
  have:((b:Int)*2 ^ (8*j))=((256 ^ j*b:Nat):Int):=by rw[←hp,Nat.mul_comm];norm_cast;exact Nat.mul_comm _ _
  rw[this];omega
 rw[hs]
 show IntKind.wrap .u64 (BitVec.ofInt 64 (v:Int)|||BitVec.ofInt 64 ((256 ^ j*b:Nat):Int)).toNat=_
 rw[BitVec.toNat_or,z14 _ (by omega),z14 _ (by omega)]
 have:=Nat.two_pow_add_eq_or_of_lt (b:=v) (i:=8*j) (by rw[hp];exact hv) b
 rw[hp]at this
 rw[Nat.or_comm,←this,wrap_u64];omega
def zci:q5k P 85 z5c:=by
 refine qm5 mixed (qee (qih z41 qlq)) (W:=zen) Go.Proofs.Tryz.func85 (by kernel_rfl) (by decide) (by decide) (λs=>by kernel_rfl) λ⟨(k:Int),(x:SV),s,(i:Int),(c:Int)⟩=>(zch k x s i c).mpr ?_
 rintro⟨h1,h4,h5⟩
 have hf:=z1e (D:=s) (i:=i.toNat) (k:=k) (by have:=h1.1;have:=h1.2.1;omega)
 have hz:(btP s i.toNat k).1.size<=8:=by
  by_cases h:(btP s i.toNat k).2.1=0
  ·have:=hf.2.2 h;omega
  ·unfold btP at h⊢
   split
   ·show 0<=8;decide
   ·rename_i hh;rw[if_neg hh]at h;exact absurd rfl h
 generalize btP s i.toNat k=T at*
 obtain⟨r,e1,m⟩:=T
 simp only[decide_eq_true_eq,decide_eq_false_iff_not,true_and,and_true,eq_self]at hz⊢
 have hlen:r.data.toList.length=r.size:=rfl
 refine⟨⟨h1,by omega,by omega⟩,⟨0,rfl,rfl,Nat.zero_le _⟩,λj hj=>⟨λhlt=> ?_,λhge=> ?_⟩⟩
 ·have hjr:j<r.size:=by omega
  have hb:=z1y r j
  have hl:=z9e (r.data.toList.take j)
  rw[List.length_take,hlen,Nat.min_eq_left (by omega)]at hl
  refine⟨⟨by omega,by omega⟩,⟨by omega,by rw[Int.toNat_natCast];omega⟩,by rw[wrap_u64,wrap_u64];omega,⟨by omega,by omega⟩,j+1,?_,by omega,by omega,by omega⟩
  rw[Int.toNat_natCast,zp3 _ _ _ hl (by omega) hb,zd4 _ _ (by rw[hlen];exact hjr),zm1 hjr]
  rfl
 ·have:j=r.size:=by omega
  subst this
  unfold loS
  rw[←hlen,List.take_length]
def z9r:q5k P 87 z90:=by
 refine qm5 mixed (qee (qih z5j (qih z41 qlq))) (W:=λ_=>{}) Go.Proofs.Tryz.func87 (by kernel_rfl) (by decide) (by decide) (λs=>by kernel_rfl) λ⟨(x:SV),s,(i:Int),(c:Int)⟩=>(ziu x s i c).mpr ?_
 intro h
 have hf:=z0m s i.toNat (by have:=h.1;have:=h.2.1;omega)
 simp only[decide_eq_true_eq,decide_eq_false_iff_not,Bool.not_eq_true',Bool.not_eq_false',true_and,and_true,eq_self]
 unfold txP
 refine⟨h,λhe=> ?_,λhe=>⟨λh5=> ?_,λh5=>⟨⟨⟨by show(0:Int)<=(_:Nat);omega,by show((_:Nat):Int)<=_;omega,h.2.2⟩,by omega,by omega⟩,?_⟩⟩⟩
 ·rw[if_pos (by omega)];exact⟨rfl,rfl,rfl⟩
 ·rw[if_neg (by omega),if_pos h5];exact⟨rfl,rfl,rfl⟩
 ·rw[if_neg (by omega),if_neg h5,Int.toNat_natCast];exact⟨rfl,rfl,rfl⟩
def z6v:q5k P 88 z5h:=by
 refine qm5 mixed (qee (qih z9r (qih zj7 qlq))) (W:=λ_=>{}) Go.Proofs.Tryz.func88 (by kernel_rfl) (by decide) (by decide) (λs=>by kernel_rfl) λ⟨(x:SV),s,(i:Int),(c:Int)⟩=>(zed x s i c).mpr ?_
 intro h
 have hf:=z27 (D:=s) (i:=i.toNat) (by have:=h.1;have:=h.2.1;omega)
 simp only[decide_eq_true_eq,decide_eq_false_iff_not,Bool.not_eq_true',Bool.not_eq_false',true_and,and_true,eq_self]
 unfold vlE
 refine⟨h,λhe=>⟨by omega,λhv=> ?_,λhv=> ?_⟩,λhe=> ?_⟩
 ·rw[if_pos ⟨he,hv⟩]
 ·rw[if_neg (by rw[hv];simp)]
 ·rw[if_neg (λq=>he q.1)]
open Go.Proofs.YtniogjgfomaicaaGreat.Rv
def plB{a:AT} {s:ByteArray} {n:Nat} {N e' i' i:Int} {r:ByteArray} (h1:lfX a s n=rsL N r i' e') (h2:0<=e') (h3:i<=i') (h4:i'<=s.size):∃b:PlB,(GV.mk b.1 b.2.1 (noA,0,0) [] (noA,0,0) [] 0).n=N/\(GV.mk b.1 b.2.1 (noA,0,0) [] (noA,0,0) [] 0).s=r/\(GV.mk b.1 b.2.1 (noA,0,0) [] (noA,0,0) [] 0).x.1=noA/\(GV.mk b.1 b.2.1 (noA,0,0) [] (noA,0,0) [] 0).x.2.1=0/\(GV.mk b.1 b.2.1 (noA,0,0) [] (noA,0,0) [] 0).x.2.2=0/\(GV.mk b.1 b.2.1 (noA,0,0) [] (noA,0,0) [] 0).y.1=noA/\(GV.mk b.1 b.2.1 (noA,0,0) [] (noA,0,0) [] 0).y.2.1=0/\(GV.mk b.1 b.2.1 (noA,0,0) [] (noA,0,0) [] 0).y.2.2=0/\(GV.mk b.1 b.2.1 (noA,0,0) [] (noA,0,0) [] 0).b=0/\b.2.2.1=e'/\b.2.2.2=i'/\lfX a s n=rsL b.1 b.2.1 b.2.2.2 b.2.2.1/\0<=b.2.2.1/\i<=b.2.2.2/\b.2.2.2<=s.size:=
 ⟨(N,r,e',i'),rfl,rfl,rfl,rfl,rfl,rfl,rfl,rfl,rfl,rfl,rfl,h1,h2,h3,h4⟩
def zwf{D:ByteArray} {i:Nat} {k:Int} (h:(btP D i k).2.1≠0):(btP D i k).1=mkS []:=by
 unfold btP at h⊢
 split
 ·rfl
 ·rename_i hh;rw[if_neg hh]at h;exact absurd rfl h
def zex{v:Int}:v=IntKind.wrap .i32 v↔¬(v< -2147483648\/2147483648<=v):=by
 simp[IntKind.wrap,IntKind.bits,IntKind.signed];omega
def zod(v:Int): -9223372036854775808<=IntKind.wrap .i32 v/\IntKind.wrap .i32 v<=9223372036854775807:=by
 simp[IntKind.wrap,IntKind.bits,IntKind.signed];omega
def zde:q22 P 45 z5e:=by
 refine qlb mixed (qee (qih zci (qih z5j (qih z6j (qih z9r (qih z6v (qih z41 qlq))))))) (qf7 qlp) (W:=zep) Go.Proofs.Tryz.func45 (by kernel_rfl) (show 1<=2 by decide) (show 2<=2 by decide) (λs=>by kernel_rfl) λ⟨⟨(x:SV),s,(i:Int),(c:Int)⟩,a⟩=>(zdd x s i c a).mpr ?_
 rintro⟨h,hl,hk,hsy,hsz⟩ ⟨p,_,ha⟩
 obtain⟨_,syl,_,_⟩:=z1p ha
 have hi:=h.1
 have hi2:=h.2.1
 simp only[sbS,exists_const,forall_const,Int.toNat_natCast]
 have lg:=z0m s i.toNat (by omega)
 have hp:z0g ((x.1,x.2.1,x.2.2),s,i,c):=h
 have low:∀k:Int,lfX a s i.toNat=(btX s i.toNat k).bind (λr=> .ok (pvN (loS r.1),r.2))->_:=λk hl=>(by
  have hf:=z1e (D:=s) (i:=i.toNat) (k:=k) (by omega)
  unfold btX rsT at hl
  exact plB (i:=i) (N:=loS (btP s i.toNat k).1) (r:=mkS []) (e':=(btP s i.toNat k).2.1) (i':=(btP s i.toNat k).2.2) (by
   rw[hl];unfold rsL
   by_cases h:(btP s i.toNat k).2.1=0
   ·rw[if_pos h,if_pos h];rfl
   ·rw[if_neg h,if_neg h];rfl) hf.1.1 (by omega) hf.2.1.2)
 have txt:∀(t:ByteArray×Int×Int) (e:Int),0<=e->i<=t.2.2->t.2.2<=s.size->lfX a s i.toNat=(rsT t e).bind (λr=> .ok (pvS r.1,r.2))->_:=λt e h0 h1 h2 hl=>plB (i:=i) (N:=0) (r:=t.1) (e':=e) (i':=t.2.2) (by
   rw[hl];unfold rsT rsL
   by_cases h:e=0
   ·rw[if_pos h,if_pos h];rfl
   ·rw[if_neg h,if_neg h];rfl) h0 h1 h2
 refine⟨λk1=>plB (r:=mkS []) (by unfold lfX;rw[if_pos k1];rfl) (Int.le_refl _) (Int.le_refl _) hi2,λk1=>⟨λk2=>⟨⟨hp,by decide,by decide⟩,?_⟩,λk2=>⟨⟨λh=>by unfold kIt;exact z19 (by omega),λh=>by unfold kIt;exact z19 (by omega)⟩,λhI=>⟨hp,?_⟩,λhI=> ?_⟩⟩⟩
 ·have hf:=z1e (D:=s) (i:=i.toNat) (k:=1) (by omega)
  have hl:lfX a s i.toNat=(btX s i.toNat 1).bind λr=>if 1<loS r.1 then .no 1 else .ok (pvN (loS r.1),r.2):=by unfold lfX;rw[if_neg k1,if_pos k2]
  unfold btX rsT at hl
  have her:=zwf (D:=s) (i:=i.toNat) (k:=1)
  generalize btP s i.toNat 1=T at*
  obtain⟨r,e1,m⟩:=T
  simp only at hf hl her⊢
  refine⟨λh1=>plB (r:=mkS []) ?_ (by decide) (by omega) hf.2.1.2,λh1=>plB (r:=mkS []) ?_ hf.1.1 (by omega) hf.2.1.2⟩
  ·have h0:e1=0:=by
    by_cases h0:e1=0
    ·exact h0
    ·rw[her h0]at h1;exact absurd h1 (by decide)
   rw[if_pos h0,z0j,if_pos h1]at hl
   rw[hl];rfl
  ·by_cases h0:e1=0
   ·rw[if_pos h0,z0j,if_neg h1]at hl
    rw[hl,h0];rfl
   ·rw[if_neg h0,z11]at hl
    rw[hl];unfold rsL;rw[if_neg h0]
 ·unfold kIt at hI
  rw[decide_eq_true_eq]at hI
  have h3:a.k=3->lfX a s i.toNat=(lgX s i.toNat).bind λr=>if r.1< -2147483648\/2147483648<=r.1 then .no 1 else .ok (pvN (r.1 % 18446744073709551616),r.2):=λh=>by unfold lfX;rw[if_neg k1,if_neg k2,if_pos h]
  have h4:¬a.k=3->lfX a s i.toNat=(lgX s i.toNat).bind λr=> .ok (pvN (r.1 % 18446744073709551616),r.2):=λh=>by unfold lfX;rw[if_neg k1,if_neg k2,if_neg h,if_pos (by omega)]
  have hz:(lgR s i.toNat).2.1≠0->(lgR s i.toNat).1=0:=λh=>by
   unfold lgR verr at h
   unfold lgR vval
   simp only at h⊢
   cases hv:vdec (s.data.toList.drop i.toNat) 0 0 with
   |none=>rfl
   |some w=>rw[hv]at h;exact absurd rfl h
  unfold lgX at h3 h4
  have hr:=zod (lgR s i.toNat).1
  generalize lgR s i.toNat=T at*
  obtain⟨v,e1,m⟩:=T
  simp only[wrap_u64]at lg h3 h4 hz hr⊢
  rw[zex]
  refine⟨λk3=>⟨hr,λhb=>plB (r:=mkS []) ?_ (by decide) (by omega) (by omega),λhg=>plB (r:=mkS []) ?_ (by omega) (by omega) (by omega)⟩,λk3=>plB (r:=mkS []) ?_ (by omega) (by omega) (by omega)⟩
  ·have hb:=Classical.not_not.1 hb
   have h0:e1=0:=by
    by_cases h0:e1=0
    ·exact h0
    ·have:=hz h0;omega
   rw[h3 k3,if_pos h0,z0j,if_pos hb];rfl
  ·rw[h3 k3];unfold rsL
   by_cases h0:e1=0
   ·rw[if_pos h0,z0j,if_neg hg,if_pos (by omega),Int.toNat_natCast];rfl
   ·rw[if_neg h0,z11,if_neg (by omega)];congr 1;omega
  ·rw[h4 k3];unfold rsL
   by_cases h0:e1=0
   ·rw[if_pos h0,z0j,if_pos (by omega),Int.toNat_natCast];rfl
   ·rw[if_neg h0,z11,if_neg (by omega)];congr 1;omega
 unfold kIt at hI
 rw[decide_eq_false_iff_not]at hI
 have k34:¬a.k=3/\¬a.k=4:=by omega
 refine⟨λk5=>⟨⟨hp,by decide,by decide⟩,low 4 (by unfold lfX;rw[if_neg k1,if_neg k2,if_neg k34.1,if_neg k34.2,if_pos k5])⟩,λk5=>⟨λk6=>⟨⟨hp,by decide,by decide⟩,low 8 (by unfold lfX;rw[if_neg k1,if_neg k2,if_neg k34.1,if_neg k34.2,if_neg k5,if_pos k6])⟩,λk6=>⟨λk10=> ?_,λk10=>⟨λk7=>⟨hp,?_⟩,λk7=>⟨λk8=>⟨hp,?_⟩,λk8=>⟨λk11=> ?_,λk11=> ?_⟩⟩⟩⟩⟩⟩
 ·refine⟨⟨(a.sy.2.1:Int),x,s,i,c⟩,rfl,rfl,rfl,rfl,rfl,rfl,rfl,h,?_⟩
  have hl:lfX a s i.toNat=(ixX s i.toNat a.sys.length).bind λr=> .ok (pvN r.1,r.2):=by unfold lfX;rw[if_neg k1,if_neg k2,if_neg k34.1,if_neg k34.2,if_neg k5,if_neg k6,if_neg (by omega),if_neg (by omega),if_pos k10]
  unfold ixX at hl
  rw[←syl]at hl
  simp only[true_and,and_true,eq_self,wrap_u64]
  refine plB (r:=mkS []) ?_ (by omega) (by omega) (by omega)
  rw[hl]
  unfold rsL
  by_cases h1:chE s i.toNat a.sy.2.1=0
  ·have hrr:0<=(lgR s i.toNat).1:=by unfold chE at h1;split at h1<;>omega
   rw[if_pos h1,if_pos (by omega),z0j,Int.emod_eq_of_lt hrr (by omega),Int.toNat_natCast]
   rfl
  ·rw[if_neg h1,if_neg (by omega),z11]
   congr 1;omega
 ·have hf:=z27 (D:=s) (i:=i.toNat) (by omega)
  exact txt _ _ hf.1.1 (by omega) hf.2.1.2 (by unfold lfX;rw[if_neg k1,if_neg k2,if_neg k34.1,if_neg k34.2,if_neg k5,if_neg k6,if_pos k7];rfl)
 ·have hf:=z27 (D:=s) (i:=i.toNat) (by omega)
  exact txt _ _ (by unfold vlE;split<;>omega) (by omega) hf.2.1.2 (by unfold lfX;rw[if_neg k1,if_neg k2,if_neg k34.1,if_neg k34.2,if_neg k5,if_neg k6,if_neg k7,if_pos k8];rfl)
 ·have hz:=hsz k11
  refine⟨⟨hp,by omega,by omega⟩,?_⟩
  have hf:=z1e (D:=s) (i:=i.toNat) (k:=a.sz) (by omega)
  exact txt _ _ hf.1.1 (by omega) hf.2.1.2 (by unfold lfX;rw[if_neg k1,if_neg k2,if_neg k34.1,if_neg k34.2,if_neg k5,if_neg k6,if_neg k7,if_neg k8,if_neg k10,if_pos k11];rfl)
 ·exact absurd hl (by unfold zhm;omega)
def zek{S:List AT} {R:RdT} {s:ByteArray} {i c t:Int} {b:VpB} (h:inT S t) (h1:agD R b.1.pv b.2.2.1 b.2.2.2 b.2.1) (h2:zq3 s i (c+1) b):z22 S R s i c t b:=by
 obtain⟨r,e',i',c'⟩:=b
 obtain⟨a1,⟨a2,a3⟩,a4⟩:=h2
 exact⟨λ_=>⟨h1,a2⟩,λg=>absurd h g,a1,⟨by omega,a3⟩,a4⟩
def zq1(n:Nat) (hr:q22 P 42 ((zbn kd9 rcD).below z7a (n+1))) (hb:q22 P 43 ((zbn kdP bvX).below z7a (n+1))) (hu:q22 P 44 ((zbn zw2 unX).below z7a (n+1))):q22 P 27 (z44.below zar (n+1)):=by
 refine qlb mixed (qee qlq) (qf7 (qig hr (qig hb (qig hu (qig zde qlp))))) (W:=zye) Go.Proofs.Tryz.func27 (by kernel_rfl) (show 1<=2 by decide) (show 2<=2 by decide) (λs=>by kernel_rfl) λ⟨S,⟨(x:SV),s,(i:Int),(c:Int)⟩,(t:Int),(dp:Int)⟩=>(zq0 n S x s i c t dp).mpr ?_
 rintro⟨hmu,hok,h,⟨hc0,hc1⟩,hp1,hp2⟩ ⟨p,_,hx⟩
 have hmu:(25- dp).toNat<n+1:=hmu
 have hi:=h.1
 have hi2:=h.2.1
 have xs:x.2.1=S.length:=hx.1.1
 simp only[sbS,exists_const,forall_const,Int.toNat_natCast]
 have out:∀b:VpB,b=(zV,1,i,c)->¬inT S t->z22 S (dvX S s (21- dp).toNat t i.toNat c.toNat) s i c t b:=λb hb h=>by
  subst hb
  exact⟨λg=>absurd g h,λ_=>rfl,⟨Int.le_refl _,hi2⟩,⟨Int.le_refl _,by show c<=2001;omega⟩,λg=>absurd (show(1:Int)=0 from g) (by decide)⟩
 refine⟨λh0=>⟨⟨zV,1,i,c⟩,rfl,rfl,rfl,rfl,rfl,rfl,rfl,rfl,rfl,rfl,rfl,rfl,out _ rfl (by unfold inT;omega),λq _=>z17 q⟩,λh0=>⟨λh1=>⟨⟨zV,1,i,c⟩,rfl,rfl,rfl,rfl,rfl,rfl,rfl,rfl,rfl,rfl,rfl,rfl,out _ rfl (by unfold inT;omega),λq _=>z17 q⟩,λh1=>⟨⟨by omega,by omega⟩,?_⟩⟩⟩
 have hin:inT S t:=by unfold inT;omega
 have lim:∀b:VpB,b=(zV,3,i,c+1)->(20<dp\/2000<c+1)->z22 S (dvX S s (21- dp).toNat t i.toNat c.toNat) s i c t b:=λb hb h=>by
  subst hb
  rw[zwp hp1 hp2 hc0 h]
  exact zek hin rfl ⟨⟨Int.le_refl _,hi2⟩,⟨Int.le_refl _,by show c+1<=2001;omega⟩,λg=>absurd (show(3:Int)=0 from g) (by decide)⟩
 refine⟨λh20=>⟨⟨zV,3,i,c+1⟩,rfl,rfl,rfl,rfl,rfl,rfl,rfl,rfl,rfl,rfl,rfl,rfl,lim _ rfl (.inl h20),λq _=>z17 q⟩,λh20=>⟨λhA=>⟨⟨zV,3,i,c+1⟩,rfl,rfl,rfl,rfl,rfl,rfl,rfl,rfl,rfl,rfl,rfl,rfl,lim _ rfl (.inr hA),λq _=>z17 q⟩,λhA=> ?_⟩⟩
 obtain⟨j,rfl⟩:=Int.eq_ofNat_of_zero_le hin.1
 have hj:j<S.length:=by have:=hin.2;omega
 rw[zm8 hj hp1 h20 hc0 hA]
 have htp:=λq (hq:z09 S x q)=>z9w hq hj
 have hao:=λq (hq:z09 S x q)=>hq.2 S[j] (List.getElem_mem hj)
 have hkd:=hok.2.1 S[j] (List.getElem_mem hj)
 have hrg:=hok.2.2 S[j] (List.getElem_mem hj)
 have sm:=hok.1.2 S[j] (List.getElem_mem hj)
 refine⟨⟨by omega,by omega⟩,(htp p hx).1,S[j].k,S[j].nm,S[j].al.1,S[j].al.2.1,S[j].al.2.2,S[j].it,S[j].sy.1,S[j].sy.2.1,S[j].sy.2.2,S[j].hd,S[j].df,S[j].sz,S[j].f.1,S[j].f.2.1,S[j].f.2.2,S[j].br.1,S[j].br.2.1,S[j].br.2.2,λq hq=>(htp q hq).2,?_⟩
 have hcc:0<=c+1/\c+1<=2000:=by omega
 have hdd:1<=dp/\dp<=20:=by omega
 refine⟨λk9=> ?_,λk9=>⟨⟨λh=>by unfold kPa;exact z19 (by omega),λh=>by unfold kPa;exact z19 (by omega)⟩,λkp=> ?_,λkp=>⟨λk14=> ?_,λk14=> ?_⟩⟩⟩
 ·have hva:vaX (gvX S s dp) s S[j] i.toNat (c+1).toNat=rcD (gvX S s dp) s S[j] i.toNat (c+1).toNat:=by unfold vaX rcD;rw[if_pos k9]
  rw[hva]
  refine⟨⟨S,⟨x,s,i,c+1⟩,S[j],dp⟩,?_⟩
  simp only[true_and,and_true,eq_self]
  refine⟨⟨hmu,hok,List.getElem_mem hj,k9,h,hcc,hdd⟩,λq hq=>⟨hq,hao q hq⟩,?_⟩
  rintro⟨r,e',i',c'⟩ ⟨g1,g2⟩ _
  exact⟨⟨r,e',i',c'⟩,rfl,rfl,rfl,rfl,rfl,rfl,rfl,rfl,rfl,rfl,rfl,rfl,zek hin g1 g2,λq hq=>hq.2⟩
 ·unfold kPa at kp
  rw[decide_eq_true_eq]at kp
  have hva:vaX (gvX S s dp) s S[j] i.toNat (c+1).toNat=bvX (gvX S s dp) s S[j] i.toNat (c+1).toNat:=by unfold vaX;rw[if_neg k9,if_neg (by omega),if_pos kp]
  rw[hva]
  refine⟨⟨S,⟨x,s,i,c+1⟩,S[j],dp⟩,?_⟩
  simp only[true_and,and_true,eq_self]
  refine⟨⟨hmu,hok,List.getElem_mem hj,kp,h,hcc,hdd⟩,λq hq=>⟨hq,hao q hq⟩,?_⟩
  rintro⟨r,e',i',c'⟩ ⟨g1,g2⟩ _
  exact⟨⟨r,e',i',c'⟩,rfl,rfl,rfl,rfl,rfl,rfl,rfl,rfl,rfl,rfl,rfl,rfl,zek hin g1 g2,λq hq=>hq.2⟩
 ·have hva:vaX (gvX S s dp) s S[j] i.toNat (c+1).toNat=unX (gvX S s dp) s S[j] i.toNat (c+1).toNat:=by unfold vaX;rw[if_neg k9,if_pos k14]
  rw[hva]
  refine⟨⟨S,⟨x,s,i,c+1⟩,S[j],dp⟩,?_⟩
  simp only[true_and,and_true,eq_self]
  refine⟨⟨hmu,hok,List.getElem_mem hj,k14,h,hcc,hdd⟩,λq hq=>⟨hq,hao q hq⟩,?_⟩
  rintro⟨r,e',i',c'⟩ ⟨g1,g2⟩ _
  exact⟨⟨r,e',i',c'⟩,rfl,rfl,rfl,rfl,rfl,rfl,rfl,rfl,rfl,rfl,rfl,rfl,zek hin g1 g2,λq hq=>hq.2⟩
 ·unfold kPa at kp
  rw[decide_eq_false_iff_not]at kp
  refine⟨⟨⟨x,s,i,c+1⟩,S[j]⟩,?_⟩
  simp only[true_and,and_true,eq_self]
  refine⟨⟨h,⟨k9,k14,by omega,by omega⟩,hkd,sm.2.2,hrg.2.2.2⟩,λq hq=>hao q hq,?_⟩
  rintro⟨N,r,e',i'⟩ ⟨g1,g2,g3,g4⟩
  refine⟨⟨.mk N r (none,0,0) [] (none,0,0) [] 0,e',i',c+1⟩,rfl,rfl,rfl,rfl,rfl,rfl,rfl,rfl,rfl,rfl,rfl,rfl,zek hin ?_ ⟨⟨g3,g4⟩,⟨Int.le_refl _,by show c+1<=2001;omega⟩,λ_=>hcc.2⟩,λq _=> ?_⟩
  ·unfold vaX
   rw[if_neg k9,if_neg k14,if_neg kp,g1]
   unfold rsL
   have g2:0<=e':=g2
   have g3:i<=i':=g3
   split
   ·rw[z0j];exact⟨by assumption,by rw[GV.pv,GV.pvs],by show i'=((i'.toNat:Nat):Int);omega,by show c+1=(((c+1).toNat:Nat):Int);omega⟩
   ·rename_i hne;have hne:¬e'=0:=hne;rw[z11];show e'=(((e'- 1).toNat:Nat):Int)+1;omega
  ·unfold GV.ok GV.oks;exact⟨z05,z05,trivial⟩
def zie(n:Nat) (hv:q22 P 27 (z44.below zar n)):q22 P 42 ((zbn kd9 rcD).below z7a (n+1)):=by
 refine qlb mixed (qee qlq) (qf7 (qig hv qlp)) (W:=zya) Go.Proofs.Tryz.func42 (by kernel_rfl) (show 1<=2 by decide) (show 2<=2 by decide) (λs=>by kernel_rfl) λ⟨S,⟨(x:SV),s,(i:Int),(c:Int)⟩,a,(dp:Int)⟩=>(zid n S x s i c a dp).mpr ?_
 rintro⟨hmu,hok,haS,hk,h,⟨hc0,hc1⟩,hp1,hp2⟩ ⟨p,_,hx,ha⟩
 have hmu:(25- dp).toNat<n+1:=hmu
 have hi:=h.1
 have hi2:=h.2.1
 obtain⟨_,_,fl,_⟩:=z1p ha
 have hrg:=hok.2.2 a haS
 have sm:=hok.1.2 a haS
 simp only[sbS,exists_const,forall_const,Int.toNat_natCast,fl]
 refine⟨⟨⟨0,i,c,[]⟩,rfl,rfl,rfl,rfl,λq _=>GV.oks_iff.2 λw hw=>(by cases hw),⟨⟨Nat.zero_le _,rfl⟩,⟨Int.le_refl _,hi2⟩,⟨Int.le_refl _,hc1⟩,rfl⟩⟩,?_⟩
 rintro⟨j,i1,c1,fs⟩ ⟨⟨r1,r2⟩,⟨r3,r4⟩,⟨r5,r6⟩,r7⟩ ⟨p2,hp2',hfs⟩
 simp only at r1 r2 r3 r4 r5 r6 r7 hfs⊢
 have rc:∀(R:RdT) (v:PV) (e' i' c':Int),thn (z6c (gvX S s dp) (a.fs.map AF.ty) [] i.toNat c.toNat) e' (z6c (gvX S s dp) (a.fs.map AF.ty) [] i.toNat c.toNat= .ok (GV.pvs fs,i'.toNat,c'.toNat))->0<=i'->0<=c'->v= .mk 0 (mkS []) (GV.pvs fs) [] 0\/e'≠0->agD (rcD (gvX S s dp) s a i.toNat c.toNat) v i' c' e':=λ_ v e' i' c' ht h0 h1 hv=>by
  unfold rcD rcX
  rcases ht with⟨q1,q2⟩|⟨k,q1,q2⟩
  ·rw[q2,z0j]
   exact⟨q1,hv.resolve_right (λg=>g q1),by show i'=((i'.toNat:Nat):Int);omega,by show c'=((c'.toNat:Nat):Int);omega⟩
  ·rw[q2,z11];exact q1
 refine⟨λhlt=> ?_,λhge a6 cc _=>⟨⟨.mk 0 (mkS []) (a6,fs.length,cc) fs (none,0,0) [] 0,0,i1,c1⟩,rfl,rfl,rfl,rfl,rfl,rfl,rfl,rfl,rfl,rfl,rfl,rfl,⟨?_,⟨r3,r4⟩,⟨r5,by show c1<=2001;omega⟩,λ_=>r6⟩,λq hq=>z46 hq.1.2 hq.2.1 hq.2.2⟩⟩
 ·have hif:j<a.fs.length:=by omega
  rw[zml (by rw[List.length_map];exact hif),List.getElem_map]at r7
  have hft:=hrg.1 _ (List.getElem_mem hif)
  have hfa:=λq (hq:a.ok q)=>z6k hq hif
  generalize a.fs[j]=f at*
  refine⟨⟨by omega,by omega⟩,(hfa p ha).1,f.nm,f.al.1,f.al.2.1,f.al.2.2,f.ty,f.hd,f.df.k,f.df.n,f.df.s,f.df.y.1,f.df.y.2.1,f.df.y.2.2,f.df.x.1,f.df.x.2.1,f.df.x.2.2,λq hq=>(hfa q hq.1.2).2,⟨by omega,by omega⟩,⟨S,⟨x,s,i1,c1⟩,f.ty,dp+1⟩,rfl,rfl,rfl,rfl,rfl,rfl,rfl,rfl,⟨by show(25- (dp+1)).toNat<n;omega,hok,⟨by show 0<=i1;omega,r4,h.2.2⟩,⟨by show 0<=c1;omega,r6⟩,by show 1<=dp+1;omega,by show dp+1<=21;omega⟩,λq hq=>hq.1.1,?_⟩
  rintro⟨r,e',i',c'⟩ ⟨g1,_,⟨g2,g3⟩,⟨g4,g5⟩,g6⟩ _
  obtain⟨g7,g8⟩:=g1 hft
  have g2:i1<=i':=g2
  have g4:c1<=c':=g4
  have g5:c'<=2001:=g5
  have g7:agD (dvX S s (21- (dp+1)).toNat f.ty i1.toNat c1.toNat) r.pv i' c' e':=g7
  rw[show(21- (dp+1)).toNat=(20- dp).toNat by omega]at g7
  have hag:=z57 g7 r7
  simp only[true_and,and_true]
  refine⟨λhne=>⟨⟨zV,e',i',c'⟩,rfl,rfl,rfl,rfl,rfl,rfl,rfl,rfl,rfl,rfl,rfl,rfl,⟨rc (.no 0) _ e' i' c' ?_ (by omega) (by omega) (.inr hne),⟨by show i<=i';omega,g3⟩,⟨by show c<=c';omega,g5⟩,λg=>absurd g hne⟩,λq _=>z17 q⟩,λhe=> ?_⟩
  ·rcases hag with⟨w,_⟩|w
   ·exact absurd w hne
   ·exact .inr w
  ·have w2:z6c (gvX S s dp) ((a.fs.map AF.ty).drop (j+1)) (GV.pvs fs++[r.pv]) i'.toNat c'.toNat=z6c (gvX S s dp) (a.fs.map AF.ty) [] i.toNat c.toNat:=by
    rcases hag with⟨_,w⟩|⟨k,w,_⟩
    ·exact w
    ·omega
   refine⟨z01 z0c fs,by omega,⟨by omega,by omega⟩,⟨j+1,i',c',fs++[r]⟩,by show((j+1:Nat):Int)=_;omega,?_⟩
   simp only[true_and,and_true,eq_self]
   refine⟨by simp,by rw[z04];rfl,λq hq=>hq.1.1,λq hq=>z1z hq.1.2 (z1a hq.2),⟨⟨by omega,by simp[r2]⟩,⟨by omega,g3⟩,⟨by omega,g6 he⟩,by rw[zxb];exact w2⟩,by omega⟩
 ·rw[zmm (by rw[List.length_map];omega)]at r7
  exact rc (.no 0) _ 0 i1 c1 (.inl ⟨rfl,r7.symm⟩) (by omega) (by omega) (.inl (by rw[GV.pv]))
def zpz(n:Nat) (hv:q22 P 27 (z44.below zar n)):q22 P 44 ((zbn zw2 unX).below z7a (n+1)):=by
 refine qlb mixed (qee (qih z6j qlq)) (qf7 (qig hv qlp)) (W:=zyd) Go.Proofs.Tryz.func44 (by kernel_rfl) (show 1<=2 by decide) (show 2<=2 by decide) (λs=>by kernel_rfl) λ⟨S,⟨(x:SV),s,(i:Int),(c:Int)⟩,a,(dp:Int)⟩=>(zpy n S x s i c a dp).mpr ?_
 rintro⟨hmu,hok,haS,hk,h,⟨hc0,hc1⟩,hp1,hp2⟩ ⟨p,_,hx,ha⟩
 have hmu:(25- dp).toNat<n+1:=hmu
 have hi:=h.1
 have hi2:=h.2.1
 obtain⟨_,_,_,bl⟩:=z1p ha
 have hrg:=hok.2.2 a haS
 have sm:=hok.1.2 a haS
 have hf:=z0m s i.toNat (by omega)
 simp only[sbS,exists_const,forall_const,Int.toNat_natCast,bl]
 refine⟨⟨(a.brs.length:Int),x,s,i,c⟩,?_⟩
 simp only[true_and,and_true,eq_self]
 refine⟨h,λhne=>⟨⟨zV,(chE s i.toNat a.brs.length:Nat),((lgR s i.toNat).2.2:Nat),c⟩,rfl,rfl,rfl,rfl,rfl,rfl,rfl,rfl,rfl,rfl,rfl,rfl,⟨?_,⟨by show i<=((_:Nat):Int);omega,by show((_:Nat):Int)<=_;omega⟩,⟨Int.le_refl _,by show c<=2001;omega⟩,λg=>absurd g hne⟩,λq _=>z17 q⟩,λhe=> ?_⟩
 ·unfold unX ixX
  rw[if_neg (by omega),z11]
  show((chE s i.toNat a.brs.length:Nat):Int)=((chE s i.toNat a.brs.length- 1:Nat):Int)+1
  omega
 have h1:chE s i.toNat a.brs.length=0:=by omega
 have hrr:0<=(lgR s i.toNat).1/\(lgR s i.toNat).1<a.brs.length:=by unfold chE at h1;split at h1<;>omega
 obtain⟨b,hb⟩:=Int.eq_ofNat_of_zero_le hrr.1
 have hbl:b<a.brs.length:=by omega
 have hba:=λq (hq:a.ok q)=>z8u hq hbl
 have hbr:=hrg.2.1 a.brs[b] (List.getElem_mem hbl)
 have hgd:a.brs.getD b 0=a.brs[b]:=by rw[List.getD_eq_getElem?_getD,List.getElem?_eq_getElem hbl];rfl
 have hun:unX (gvX S s dp) s a i.toNat c.toNat=(dvX S s (20- dp).toNat a.brs[b] (lgR s i.toNat).2.2 c.toNat).bind λr=> .ok (.mk 0 (mkS []) [r.1] [] b,r.2):=by
  unfold unX ixX
  rw[if_pos h1,z0j]
  simp only[hb,Int.toNat_natCast,hgd]
  rfl
 rw[hun]
 simp only[hb,Int.toNat_natCast]
 refine⟨⟨by omega,by omega⟩,(hba p ha).1,a.brs[b],λq hq=>(hba q hq.2).2,⟨by omega,by omega⟩,⟨S,⟨x,s,((lgR s i.toNat).2.2:Nat),c⟩,a.brs[b],dp+1⟩,rfl,rfl,rfl,rfl,rfl,rfl,rfl,rfl,⟨by show(25- (dp+1)).toNat<n;omega,hok,⟨by show(0:Int)<=(((lgR s i.toNat).2.2:Nat):Int);omega,by show(((lgR s i.toNat).2.2:Nat):Int)<=s.size;omega,h.2.2⟩,⟨hc0,hc1⟩,by show 1<=dp+1;omega,by show dp+1<=21;omega⟩,λq hq=>hq.1,?_⟩
 rintro⟨r,e',i',c'⟩ ⟨g1,_,⟨g2,g3⟩,⟨g4,g5⟩,g6⟩ _
 obtain⟨g7,g8⟩:=g1 hbr
 have g2:((lgR s i.toNat).2.2:Nat)<=i':=g2
 have g4:c<=c':=g4
 have g5:c'<=2001:=g5
 have g7:agD (dvX S s (21- (dp+1)).toNat a.brs[b] (((lgR s i.toNat).2.2:Nat):Int).toNat c.toNat) r.pv i' c' e':=g7
 rw[show(21- (dp+1)).toNat=(20- dp).toNat by omega,Int.toNat_natCast]at g7
 simp only[true_and,and_true]
 refine⟨λhne=>⟨⟨zV,e',i',c'⟩,rfl,rfl,rfl,rfl,rfl,rfl,rfl,rfl,rfl,rfl,rfl,rfl,⟨?_,⟨by show i<=i';omega,g3⟩,⟨g4,g5⟩,λg=>absurd g hne⟩,λq _=>z17 q⟩,λhe b2 s2 _=>⟨⟨.mk 0 (mkS []) (some ⟨b2,s2+0,none⟩,1,1) [r] (none,0,0) [] b,0,i',c'⟩,rfl,rfl,rfl,rfl,rfl,rfl,rfl,rfl,rfl,rfl,rfl,rfl,⟨?_,⟨by show i<=i';omega,g3⟩,⟨g4,g5⟩,λ_=>g6 he⟩,λq hq=> ?_⟩⟩
 ·revert g7
  cases dvX S s (20- dp).toNat a.brs[b] (lgR s i.toNat).2.2 c.toNat with
  |no k=>exactλg=>g
  |ok w=>exactλg=>absurd g.1 hne
 ·revert g7
  cases dvX S s (20- dp).toNat a.brs[b] (lgR s i.toNat).2.2 c.toNat with
  |no k=>intro g;have g:e'=k+1:=g;have he:e'=0:=he;omega
  |ok w=>exactλ⟨q1,q2,q3,q4⟩=>⟨rfl,by rw[GV.pv,GV.pvs,GV.pvs,q2],q3,q4⟩
 ·unfold GV.ok
  exact⟨⟨rfl,Nat.le_refl _, .inr ⟨_,rfl,rfl,hq.2⟩⟩,z05,z1a hq.1.2⟩
def meK(ks:List ByteArray) (j:Nat):List MapEntry:=match ks with
 | []=>[]
 |k::l=>⟨.string k, .int .i64 (j:Nat),j⟩::meK l (j+1)
def kyV(k:ByteArray):List Value:=[.string k]
def itH(b r q m:Nat) (fs:List GV) (ks:List ByteArray):List (Nat×AO):=[(b, .cells 139 (some 0) false [.ssl r 0 fs.length 5 (r+1), .ssl q 0 ks.length 1 (q+1), .map m]),(r, .row 36 0 (z00 GV.cells fs)),(q, .row 9 0 (z00 kyV ks)),(m, .mrow (meK ks 0) ks.length)]
def rpl(k:ByteArray) (v:PV) (p:ByteArray×PV):ByteArray×PV:=if p.1=k then(k,v)else p
def z2a(mp:Bool) (ks:List ByteArray) (vs:List PV) (st:StI):Prop:=if mp=true then ks.Nodup/\ks.length=vs.length/\st.1.length=st.2.length/\st.1.Pairwise (λa b=>qfa a b=true)/\(st.1.zip st.2).Perm (ks.zip vs)else ks=[]/\st=([],vs)
def agI(mp:Bool) (R:Rs (StI×Nat×Nat)) (ks:List ByteArray) (vs:List PV) (n c e:Int):Prop:=match R with
 | .no k=>e=k+1
 | .ok r=>e=0/\z2a mp ks vs r.1/\n=r.2.1/\c=r.2.2
abbrev znb:=PpS×List GV×List ByteArray
abbrev ItB:=List GV×List ByteArray×Int×Int×Int
def itM(S:List AT) (x:SV) (a:AT) (fs:List GV):PF:=⟨true,λp=>(z09 S x p/\a.ok p)/\GV.oks fs p,λ_ _ h e=>⟨⟨z0y h e.1.1,AT.ok_mono h e.1.2⟩,GV.oks_mono h e.2⟩⟩
def zoh:znb->Prop:=λ⟨⟨S,⟨x,s,i,c⟩,a,dp⟩,fs,ks⟩=>okS S/\a∈S/\kdP a/\z0g ⟨x,s,i,c⟩/\(0<=c/\c<=2000)/\(1<=dp/\dp<=20)/\(fs.length:Int)<=c/\(ks.length:Int)<=c/\∃st,z2a (decide (a.k=13)) ks (GV.pvs fs) st
def z52:znb->ItB->Prop:=λ⟨⟨S,⟨x,s,i,c⟩,a,dp⟩,fs,ks⟩ ⟨fs',ks',e',i',c'⟩=>(∀st,z2a (decide (a.k=13)) ks (GV.pvs fs) st->agI (decide (a.k=13)) (itX (gvX S s dp a.it) s (decide (a.k=13)) st i.toNat c.toNat) ks' (GV.pvs fs') i' c' e')/\(i<=i'/\i'<=s.size)/\(c<=c'/\c'<=2001)/\(e'=0->c+1<=c'/\c'<=2000)/\(fs'.length:Int)<=c'/\(ks'.length:Int)<=c'
def z8x:CtR where
 σ:=znb
 args:=λ⟨⟨S,⟨x,s,i,c⟩,a,dp⟩,fs,ks⟩=>[.ptr 1 0,a.av, .ptr 2 0, .sv (.int .i64 dp)]
 h:=λ⟨⟨S,⟨x,s,i,c⟩,a,dp⟩,fs,ks⟩=>dcd x s i c++itH 2 3 5 7 fs ks
 m:=8
 pre:=λz=>zoh z
 mem:=λ⟨⟨S,⟨x,s,i,c⟩,a,dp⟩,fs,ks⟩=>itM S x a fs
 β:=λ_=>ItB
 post:=λz b=>z52 z b
 pm:=λ_ ⟨fs',ks',e',i',c'⟩=>gsM fs'
 r:=λ_ ⟨fs',ks',e',i',c'⟩=> .sv (.int .i64 e')
 h':=λ⟨⟨S,⟨x,s,i,c⟩,a,dp⟩,fs,ks⟩ ⟨fs',ks',e',i',c'⟩=>dcd x s i' c'++itH 2 8 10 7 fs' ks'
 m':=12
def zw4:znb->Nat:=λ⟨⟨S,_,a,dp⟩,_⟩=>(25- dp).toNat
def zmw:znb->WayF:=λ_=>{}
def cIv:CtR where
 σ:=List GV×List ByteArray
 args:=λ_=>[.ptr 2 0]
 h:=λ⟨fs,ks⟩=>itH 2 3 5 7 fs ks
 m:=8
 pre:=λ⟨fs,ks⟩=>fs.length<=2001/\ks.length<=2001/\∃mp st,z2a mp ks (GV.pvs fs) st
 mem:=λ⟨fs,ks⟩=>gsM fs
 β:=λ_=>GV
 post:=λ⟨fs,ks⟩ r=>∀mp st,z2a mp ks (GV.pvs fs) st->r.pv= .mk 0 (mkS []) st.2 st.1 0
 pm:=λ_ r=>vM r
 r:=λ_ r=>r.av
 h':=λ_ _=>[]
 m':=8
def pbO(S:List AT) (a:AT) (s:ByteArray) (dp i c:Int) (F:Nat) (i1 c1:Int) (fs:List GV) (ks:List ByteArray):Prop:=(i<=i1/\i1<=s.size)/\(c<=c1/\c1<=2000)/\((fs.length:Int)<=c1/\(ks.length:Int)<=c1)/\s.size<F+i1/\∃st,z2a (decide (a.k=13)) ks (GV.pvs fs) st/\bkX (gvX S s dp a.it) s (decide (a.k=13)) F st i1.toNat c1.toNat=rbR S a dp s i c
def enR(st0 sz en:Int):Prop:=sz= -1/\en= -1\/0<=sz/\en=st0+(if 9223372036854775807- st0<sz then 9223372036854775807- st0 else sz)
def pbN(S:List AT) (a:AT) (s:ByteArray) (dp i c:Int) (F:Nat) (st0 c0 en cnt:Int) (j:Nat) (i1 c1:Int) (fs:List GV) (ks:List ByteArray):Prop:=(j:Int)<=cnt/\(i<=i1/\(0<=st0/\st0<=i1)/\i1<=s.size)/\(c<=c1/\c1<=2000)/\((fs.length:Int)<=c1/\(ks.length:Int)<=c1)/\s.size<F+st0/\∃sz st,enR st0 sz en/\z2a (decide (a.k=13)) ks (GV.pvs fs) st/\(z47 (gvX S s dp a.it) s (decide (a.k=13)) (cnt- j).toNat st i1.toNat c1.toNat).bind (rbK S a dp s F st0 sz)=rbR S a dp s i c
def jin(h:T AO) (id:Nat):Option Nat:=match h.get id with
 |some (.cells _ _ _ [_,_, .map m])=>some m
 |_=>none
def zy3 :PpS->WayF:=λ⟨S,⟨x,s,i,c⟩,a,dp⟩=>{
  ann :=λid tt hh=>match zw7 tt 8 with
    | some vb=>match jin hh vb with
      | some m=>match id with
        |0=>some {σ:=Nat×Int×Int×List GV×List ByteArray,pre:=λ⟨F,i1,c1,fs,ks⟩=>pbO S a s dp i c F i1 c1 fs ks,mem:=λ⟨F,i1,c1,fs,ks⟩=>gsM fs,t:=λ_=>[],h:=λ⟨F,i1,c1,fs,ks⟩=>dcd x s i1 c1++itH vb 40 42 m fs ks,more:=60,μ:=λ⟨F,i1,c1,fs,ks⟩=>(s.size+1- i1).toNat,keep:=[0,2,4,6,7,8]}
        | _=>match slI tt 30,slI tt 10,j4o hh 1 with
          |some cn,some en,some (_,_,st0,c0)=>some {σ:=Nat×Nat×Int×Int×List GV×List ByteArray,pre:=λ⟨F,j,i1,c1,fs,ks⟩=>pbN S a s dp i c F st0 c0 en cn j i1 c1 fs ks,mem:=λ⟨F,j,i1,c1,fs,ks⟩=>gsM fs,t:=λ⟨F,j,i1,c1,fs,ks⟩=>[(31, .sv (.int .i64 (j:Nat)))],h:=λ⟨F,j,i1,c1,fs,ks⟩=>dcd x s i1 c1++itH vb 40 42 m fs ks,more:=60,μ:=λ⟨F,j,i1,c1,fs,ks⟩=>cn.toNat- j,keep:=[0,2,4,6,7,8,10,30]}
          |_,_,_=>none
      |none=>none
    |none=>none}
section
variable (x0:Int) (x1:SV) (x2:ByteArray) (x3 x4:Int) (x5:AT) (x6:List AT) (x7:Nat) (x8:Nat×Int×Int×List GV×List ByteArray) (x9:Nat×Nat×Int×Int×List GV×List ByteArray) (x10:ItB) (x11:znb) (x12:Prop) (x13:VpB) (x14:Nat->Option Obj)
 abbrev z74:=x1.1=x1.1/\x1.2.1=x1.2.1/\x1.2.2=x1.2.2/\x2=x2/\x12
 def j27:=AT.k x5=AT.k x5/\AT.nm x5=AT.nm x5/\(AT.al x5).1=(AT.al x5).1/\(AT.al x5).2.1=(AT.al x5).2.1/\(AT.al x5).2.2=(AT.al x5).2.2/\AT.it x5=AT.it x5/\(AT.sy x5).1=(AT.sy x5).1/\(AT.sy x5).2.1=(AT.sy x5).2.1/\(AT.sy x5).2.2=(AT.sy x5).2.2/\AT.hd x5=AT.hd x5/\AT.df x5=AT.df x5/\AT.sz x5=AT.sz x5/\(AT.f x5).1=(AT.f x5).1/\(AT.f x5).2.1=(AT.f x5).2.1/\(AT.f x5).2.2=(AT.f x5).2.2/\(AT.br x5).1=(AT.br x5).1/\(AT.br x5).2.1=(AT.br x5).2.1/\(AT.br x5).2.2=(AT.br x5).2.2/\x12
 def z4h:=(True/\z09 x6 x1 x14/\AT.ok x5 x14)/\GV.oks x8.2.2.2.1 x14
 abbrev z3p:=(hdR x2 (toNat x8.2.1)).2
 def zkq:=GV.n x13.1=0/\GV.s x13.1=mkS []/\(GV.x x13.1).1=noA/\(GV.x x13.1).2.1=0/\(GV.x x13.1).2.2=0/\(GV.y x13.1).1=noA/\(GV.y x13.1).2.1=0/\(GV.y x13.1).2.2=0/\GV.b x13.1=0/\x12
 abbrev zbk:=(↑(z3p x2 x8).2.2:Int)
 def zfz:=(agD (bvX (gvX x6 x2 x0) x2 x5 (toNat x3) (toNat x4)) (GV.pv x13.1) x13.2.2.1 x13.2.2.2 x13.2.1/\zq3 x2 x3 x4 x13)
 def zts:=(z3p x2 x8).1=(z3p x2 x8).1/\(hdR x2 (toNat x8.2.1)).1=(hdR x2 (toNat x8.2.1)).1/\x12
 abbrev ztq:=pbN x6 x5 x2 x0 x3 x4 x9.1 (zbk x2 x8) x8.2.2.1 (z3p x2 x8).1 (hdR x2 (toNat x8.2.1)).1 x9.2.1 x9.2.2.1 x9.2.2.2.1 x9.2.2.2.2.1 x9.2.2.2.2.2
 def z4v:=(z4h x1 x5 x6 x8 x14)/\GV.oks x9.2.2.2.2.1 x14
 def ztr:=x1.1=x11.1.2.1.1.1/\x1.2.1=x11.1.2.1.1.2.1/\x1.2.2=x11.1.2.1.1.2.2/\x2=x11.1.2.1.2.1/\x12
 def jfx:=Jb ((↑x9.2.1:Int)+1)/\∃(i0:Nat×Nat×Int×Int×List GV×List ByteArray),(↑i0.2.1:Int)=(↑x9.2.1:Int)+1/\x0=x0/\zts x2 x8 (ztr x1 x2 x11 (i0.2.2.1=x10.2.2.2.1/\i0.2.2.2.1=x10.2.2.2.2/\length i0.2.2.2.2.1=length x10.1/\length i0.2.2.2.2.2=length x10.2.1/\j27 x5 (meK i0.2.2.2.2.2 (0:Nat)=meK x10.2.1 0/\length i0.2.2.2.2.2=length x10.2.1/\z00 GV.cells i0.2.2.2.2.1=z00 GV.cells x10.1/\z00 kyV i0.2.2.2.2.2=z00 kyV x10.2.1/\(∀i1,(z4v x1 x5 x6 x8 x9 i1)/\GV.oks x10.1 i1->z4h x1 x5 x6 x8 i1)/\(∀i2,(z4v x1 x5 x6 x8 x9 i2)/\GV.oks x10.1 i2->GV.oks i0.2.2.2.2.1 i2)/\ztq x0 x2 x3 x4 x5 x6 x8 i0/\toNat (hdR x2 (toNat x8.2.1)).1- i0.2.1<toNat (hdR x2 (toNat x8.2.1)).1- x9.2.1/\True)))
 def jfv:=((!decide (x10.2.2.1=0))=true->∃(i0:VpB),zkq (i0.2.1=x10.2.2.1/\ztr x1 x2 x11 (i0.2.2.1=x10.2.2.2.1/\i0.2.2.2=x10.2.2.2.2/\zfz x0 x2 x3 x4 x5 x6 i0/\(∀i1,(z4v x1 x5 x6 x8 x9 i1)/\GV.oks x10.1 i1->GV.ok i0.1 i1)/\True)) i0)/\((!decide (x10.2.2.1=0))=false->jfx x0 x1 x2 x3 x4 x5 x6 x8 x9 x10 x11)
 def ztp:=∃(i0:Nat×Int×Int×List GV×List ByteArray),x0=x0/\z74 x1 x2 (i0.2.1=x9.2.2.1/\i0.2.2.1=x9.2.2.2.1/\length i0.2.2.2.1=length x9.2.2.2.2.1/\length i0.2.2.2.2=length x9.2.2.2.2.2/\j27 x5 (meK i0.2.2.2.2 (0:Nat)=meK x9.2.2.2.2.2 0/\length i0.2.2.2.2=length x9.2.2.2.2.2/\z00 GV.cells i0.2.2.2.1=z00 GV.cells x9.2.2.2.2.1/\z00 kyV i0.2.2.2.2=z00 kyV x9.2.2.2.2.2/\(∀i1,z4v x1 x5 x6 x8 x9 i1->True/\z09 x6 x1 i1/\AT.ok x5 i1)/\(∀i2,z4v x1 x5 x6 x8 x9 i2->GV.oks i0.2.2.2.1 i2)/\pbO x6 x5 x2 x0 x3 x4 i0.1 i0.2.1 i0.2.2.1 i0.2.2.2.1 i0.2.2.2.2/\toNat ((↑(size x2):Int)+1- i0.2.1)<toNat ((↑(size x2):Int)+1- x8.2.1)/\True))
 def jfw:=((!decide (x9.2.2.1=(z3p x2 x8).1))=true->∃(i0:VpB),zkq (i0.2.1=2/\z74 x1 x2 (i0.2.2.1=x9.2.2.1/\i0.2.2.2=x9.2.2.2.1/\zfz x0 x2 x3 x4 x5 x6 i0/\(∀i1,z4v x1 x5 x6 x8 x9 i1->GV.ok i0.1 i1)/\True)) i0)/\((!decide (x9.2.2.1=(z3p x2 x8).1))=false->ztp x0 x1 x2 x3 x4 x5 x6 x8 x9)
 def jfu:=Ji (0<=(z3p x2 x8).1) (jfw x0 x1 x2 x3 x4 x5 x6 x8 x9) (ztp x0 x1 x2 x3 x4 x5 x6 x8 x9)
 def jft:=Ji ((↑x9.2.1:Int)<(hdR x2 (toNat x8.2.1)).1) (∃(i0:znb),AT.k i0.1.2.2.1=AT.k x5/\AT.nm i0.1.2.2.1=AT.nm x5/\(AT.al i0.1.2.2.1).1=(AT.al x5).1/\(AT.al i0.1.2.2.1).2.1=(AT.al x5).2.1/\(AT.al i0.1.2.2.1).2.2=(AT.al x5).2.2/\AT.it i0.1.2.2.1=AT.it x5/\(AT.sy i0.1.2.2.1).1=(AT.sy x5).1/\(AT.sy i0.1.2.2.1).2.1=(AT.sy x5).2.1/\(AT.sy i0.1.2.2.1).2.2=(AT.sy x5).2.2/\AT.hd i0.1.2.2.1=AT.hd x5/\AT.df i0.1.2.2.1=AT.df x5/\AT.sz i0.1.2.2.1=AT.sz x5/\(AT.f i0.1.2.2.1).1=(AT.f x5).1/\(AT.f i0.1.2.2.1).2.1=(AT.f x5).2.1/\(AT.f i0.1.2.2.1).2.2=(AT.f x5).2.2/\(AT.br i0.1.2.2.1).1=(AT.br x5).1/\(AT.br i0.1.2.2.1).2.1=(AT.br x5).2.1/\(AT.br i0.1.2.2.1).2.2=(AT.br x5).2.2/\i0.1.2.2.2=x0/\i0.1.2.1.1.1=x1.1/\i0.1.2.1.1.2.1=x1.2.1/\i0.1.2.1.1.2.2=x1.2.2/\i0.1.2.1.2.1=x2/\i0.1.2.1.2.2.1=x9.2.2.1/\i0.1.2.1.2.2.2=x9.2.2.2.1/\z00 GV.cells i0.2.1=z00 GV.cells x9.2.2.2.2.1/\meK i0.2.2 (0:Nat)=meK x9.2.2.2.2.2 0/\length i0.2.2=length x9.2.2.2.2.2/\z00 kyV i0.2.2=z00 kyV x9.2.2.2.2.2/\length i0.2.1=length x9.2.2.2.2.1/\length i0.2.2=length x9.2.2.2.2.2/\(zw4 i0<x7+1/\zoh i0)/\(∀i1,z4v x1 x5 x6 x8 x9 i1->(z09 i0.1.1 i0.1.2.1.1 i1/\AT.ok i0.1.2.2.1 i1)/\GV.oks i0.2.1 i1)/\∀(i2:ItB),z52 i0 i2->(∃i3,(z4v x1 x5 x6 x8 x9 i3)/\GV.oks i2.1 i3)->jfv x0 x1 x2 x3 x4 x5 x6 x8 x9 i2 i0) (jfu x0 x1 x2 x3 x4 x5 x6 x8 x9)
 def jfs:=(∃(i0:Nat×Nat×Int×Int×List GV×List ByteArray),(↑i0.2.1:Int)=0/\x0=x0/\zts x2 x8 (z74 x1 x2 (i0.2.2.1=(zbk x2 x8)/\i0.2.2.2.1=x8.2.2.1/\length i0.2.2.2.2.1=length x8.2.2.2.1/\length i0.2.2.2.2.2=length x8.2.2.2.2/\j27 x5 (meK i0.2.2.2.2.2 (0:Nat)=meK x8.2.2.2.2 0/\length i0.2.2.2.2.2=length x8.2.2.2.2/\z00 GV.cells i0.2.2.2.2.1=z00 GV.cells x8.2.2.2.1/\z00 kyV i0.2.2.2.2.2=z00 kyV x8.2.2.2.2/\(∀i1,z4h x1 x5 x6 x8 i1->z4h x1 x5 x6 x8 i1)/\(∀i2,z4h x1 x5 x6 x8 i2->GV.oks i0.2.2.2.2.1 i2)/\ztq x0 x2 x3 x4 x5 x6 x8 i0/\True))))/\∀(i3:Nat×Nat×Int×Int×List GV×List ByteArray),pbN x6 x5 x2 x0 x3 x4 i3.1 (zbk x2 x8) x8.2.2.1 (z3p x2 x8).1 (hdR x2 (toNat x8.2.1)).1 i3.2.1 i3.2.2.1 i3.2.2.2.1 i3.2.2.2.2.1 i3.2.2.2.2.2->(∃i4,z4v x1 x5 x6 x8 i3 i4)->jft x0 x1 x2 x3 x4 x5 x6 x7 x8 i3
 def jfr:=Ji ((hdR x2 (toNat x8.2.1)).1=0) (∃(i0:List GV×List ByteArray),z00 GV.cells i0.1=z00 GV.cells x8.2.2.2.1/\meK i0.2 (0:Nat)=meK x8.2.2.2.2 0/\length i0.2=length x8.2.2.2.2/\z00 kyV i0.2=z00 kyV x8.2.2.2.2/\length i0.1=length x8.2.2.2.1/\length i0.2=length x8.2.2.2.2/\(length i0.1<=2001/\length i0.2<=2001/\∃(i1:Bool),∃(i2:StI),z2a i1 i0.2 (GV.pvs i0.1) i2)/\(∀i3,z4h x1 x5 x6 x8 i3->GV.oks i0.1 i3)/\∀(i4:GV),(∀(i5:Bool) (i6:StI),z2a i5 i0.2 (GV.pvs i0.1) i6->GV.pv i4=PV.mk 0 (mkS []) i6.2 i6.1 0)->(∃i7,(z4h x1 x5 x6 x8 i7)/\GV.ok i4 i7)->∃(i8:VpB),GV.n i8.1=GV.n i4/\GV.s i8.1=GV.s i4/\(GV.x i8.1).1=(GV.x i4).1/\(GV.x i8.1).2.1=(GV.x i4).2.1/\(GV.x i8.1).2.2=(GV.x i4).2.2/\(GV.y i8.1).1=(GV.y i4).1/\(GV.y i8.1).2.1=(GV.y i4).2.1/\(GV.y i8.1).2.2=(GV.y i4).2.2/\GV.b i8.1=GV.b i4/\i8.2.1=0/\z74 x1 x2 (i8.2.2.1=(zbk x2 x8)/\i8.2.2.2=x8.2.2.1/\zfz x0 x2 x3 x4 x5 x6 i8/\(∀i9,(z4h x1 x5 x6 x8 i9)/\GV.ok i4 i9->GV.ok i8.1 i9)/\True)) (jfs x0 x1 x2 x3 x4 x5 x6 x7 x8)
 def jfq:=z74 x1 x2 (x8.2.1=x8.2.1/\x8.2.2.1=x8.2.2.1/\z0g ((x1.1,x1.2.1,x1.2.2),x2,x8.2.1,x8.2.2.1)/\((!decide ((z3p x2 x8).2.1=0))=true->∃(i0:VpB),zkq (i0.2.1=(z3p x2 x8).2.1/\z74 x1 x2 (i0.2.2.1=(zbk x2 x8)/\i0.2.2.2=x8.2.2.1/\zfz x0 x2 x3 x4 x5 x6 i0/\(∀i1,z4h x1 x5 x6 x8 i1->GV.ok i0.1 i1)/\True)) i0)/\((!decide ((z3p x2 x8).2.1=0))=false->jfr x0 x1 x2 x3 x4 x5 x6 x7 x8))
 def jfp:=(∃(i0:Nat×Int×Int×List GV×List ByteArray),x0=x0/\z74 x1 x2 (i0.2.1=x3/\i0.2.2.1=x4/\length i0.2.2.2.1=0/\length i0.2.2.2.2=0/\j27 x5 (meK i0.2.2.2.2 (0:Nat)=[]/\length i0.2.2.2.2=nat_lit 0/\(∀i1,True/\z09 x6 x1 i1/\AT.ok x5 i1->True/\z09 x6 x1 i1/\AT.ok x5 i1)/\(∀i2,True/\z09 x6 x1 i2/\AT.ok x5 i2->GV.oks i0.2.2.2.1 i2)/\pbO x6 x5 x2 x0 x3 x4 i0.1 i0.2.1 i0.2.2.1 i0.2.2.2.1 i0.2.2.2.2/\True)))/\∀(i3:Nat×Int×Int×List GV×List ByteArray),pbO x6 x5 x2 x0 x3 x4 i3.1 i3.2.1 i3.2.2.1 i3.2.2.2.1 i3.2.2.2.2->(∃i4,z4h x1 x5 x6 i3 i4)->jfq x0 x1 x2 x3 x4 x5 x6 x7 i3
end
def zgm(n:Nat) (S:List AT) (x:SV) (s:ByteArray) (i c:Int) (a:AT) (dp:Int):qm3 P (qh2 [(81,zns)]) (qi5 [(83,z8x.below zw4 (n+1)),(82,cIv)]) Go.Proofs.Tryz.f43 ((zbn kdP bvX).below z7a (n+1)) (zy3) ⟨S,⟨x,s,i,c⟩,a,dp⟩=(z7a (S,(x,s,i,c),a,dp)<n+1/\okS S/\a∈S/\kdP a/\z0g (x,s,i,c)/\(0<=c/\c<=2000)/\1<=dp/\dp<=20->(∃(p:Pub),True/\z09 S x p/\AT.ok a p)->jfp dp x s i c a S n):=by kernel_rfl
def znn:=λn S x s i c a dp=>Eq.trans (zgm n S x s i c a dp) (by delta Ji Jb Jt Jf z74 j27 z4h z3p zkq zbk zfz zts ztq z4v ztr jfx jfv ztp jfw jfu jft jfs jfr jfq jfp;exact rfl)
def zat(n:Nat) (hv:q22 P 74 (cVl.below z6m n)):q22 P 111 ((cVq zhf).below z9f (n+1)):=by
 have hA:=zi0 n hv
 have hM:=zi2 n hv
 refine⟨hA.1,hA.2.1,hA.2.2.1,λs=> ?_⟩
 obtain⟨h0,e0,rA⟩:=hA.2.2.2 s
 obtain⟨h1,e1,rM⟩:=hM.2.2.2 s
 have e:h1=h0:=Option.some.inj (e1.symm.trans e0)
 subst e
 refine⟨h1,e0,λF I w vs a1 a2 a3 a4 hp a5 a6 a7=> ?_⟩
 obtain⟨m,p1,p2,p3,p4⟩:=hp
 rcases p3 with h|h
 ·exact rA F I w vs a1 a2 a3 a4 ⟨m,p1,p2,h,p4⟩ a5 a6 a7
 ·exact rM F I w vs a1 a2 a3 a4 ⟨m,p1,p2,h,p4⟩ a5 a6 a7
def j5a(n:Nat) (hv:q22 P 74 (cVl.below z6m n)):q22 P 74 (cVl.below z6m (n+1)):=by
 refine qlb mixed (qee qlq) (qf7 (qig hv (qig (zat n hv) (qig (zpg n hv) (qig zh3 (qig zcf (qig zxd qlp))))))) (W:=wVl) Go.Proofs.Tryz.func74 (by kernel_rfl) (show 1<=2 by decide) (show 2<=2 by decide) (λs=>by kernel_rfl) λ⟨S,(x:SV),(all:Int),(t:Int),g,(d:Int)⟩=>(j59 n S x all t g d).mpr ?_
 rintro⟨hmu,hS,⟨ht0,ht1⟩,hg,⟨hal0,hal1⟩,hd1,hd2⟩ ⟨p,_,hx,hgo⟩
 have hmu:2*(25- d).toNat<n+1:=hmu
 obtain⟨gl,gnl⟩:=z3r hgo
 obtain⟨j,rfl⟩:=Int.eq_ofNat_of_zero_le ht0
 have hj:j<S.length:=by omega
 have sl:x.2.1=S.length:=hx.1.1
 have hat:=λq (hq:z09 S x q/\g.ok q)=>z9w hq.1 hj
 have hao:=λq (hq:z09 S x q/\g.ok q)=>hq.1.2 S[j] (List.getElem_mem hj)
 have hgd:=hS.2 S[j] (List.getElem_mem hj)
 simp only[sbS,exists_const,forall_const,Int.toNat_natCast,sl]
 refine⟨⟨by omega,by omega⟩,λh20=>⟨⟨all+1,3,zV⟩,rfl,rfl,rfl,rfl,rfl,rfl,rfl,rfl,rfl,rfl,rfl,⟨by show all<=all+1;omega,by show all+1<=2001;omega,λh=>(by have h:(3:Int)=0:=h;omega)⟩,λq hq=>z17 q⟩,λh20=>⟨λh2=>⟨⟨all+1,3,zV⟩,rfl,rfl,rfl,rfl,rfl,rfl,rfl,rfl,rfl,rfl,rfl,⟨by show all<=all+1;omega,by show all+1<=2001;omega,λh=>(by have h:(3:Int)=0:=h;omega)⟩,λq hq=>z17 q⟩,λh2=> ?_⟩⟩
 refine⟨⟨by omega,by omega⟩,(hat p ⟨hx,hgo⟩).1,S[j].k,S[j].nm,S[j].al.1,S[j].al.2.1,S[j].al.2.2,S[j].it,S[j].sy.1,S[j].sy.2.1,S[j].sy.2.2,S[j].hd,S[j].df,S[j].sz,S[j].f.1,S[j].f.2.1,S[j].f.2.2,S[j].br.1,S[j].br.2.1,S[j].br.2.2,λq hq=>(hat q hq).2,?_⟩
 have hmem:=List.getElem_mem hj
 obtain⟨_,syl,_,brl⟩:=z1p (hao p ⟨hx,hgo⟩)
 generalize S[j]=a at*
 simp only[syl,brl]
 have ret:∀(nn:Int) (ss:ByteArray) (ee:Int),∃b:VlB,b.snd.snd.n=nn/\b.snd.snd.s=ss/\b.snd.snd.x.fst=noA/\b.snd.snd.x.snd.fst=0/\b.snd.snd.x.snd.snd=0/\b.snd.snd.y.fst=noA/\b.snd.snd.y.snd.fst=0/\b.snd.snd.y.snd.snd=0/\b.snd.snd.b=0/\b.snd.fst=ee/\b.fst=all+1/\z0l all b/\∀(p:Nat->Option Obj),z09 S x p/\g.ok p->b.snd.snd.ok p:=λnn ss ee=>⟨⟨all+1,ee, .mk nn ss (none,0,0) [] (none,0,0) [] 0⟩,rfl,rfl,rfl,rfl,rfl,rfl,rfl,rfl,rfl,rfl,rfl,⟨by show all<=all+1;omega,by show all+1<=2001;omega,λ_=>by show all+1<=2000;omega⟩,λq _=>by show GV.ok _ q;unfold GV.ok;exact⟨z05,z05,by unfold GV.oks;trivial⟩⟩
 have q1:∀{k b gk:Int},a.k=k->bq k b gk a.k=decide (gk=b):=λ{k b gk} h=>by unfold bq;rw[decide_eq_true h];rfl
 have q0:∀{k b gk:Int},¬a.k=k->bq k b gk a.k=false:=λ{k b gk} h=>by unfold bq;rw[decide_eq_false h];rfl
 have qk:∀{k b:Int},bq k b g.k a.k=true->a.k=k/\g.k=b:=λ{k b} h=>by
  unfold bq at h;rw[Bool.and_eq_true,decide_eq_true_eq,decide_eq_true_eq]at h;exact h
 have gn:=hg
 rw[GJ.wf_eq]at gn
 obtain⟨gsz,_,_,_,⟨gn0,gn1⟩,_,_⟩:=gn
 refine⟨⟨⟨λh=>q1 h,λh=>q0 h⟩,λ_=>ret _ _ _,λ_=>⟨⟨λh=>q1 h,λh=>q0 h⟩,λ_=>ret _ _ _,λ_=>⟨⟨⟨λh=>⟨λh2=>⟨λh3=> ?_,λh3=> ?_⟩,λh2=> ?_⟩,λh=> ?_⟩,λh=> ?_,λh=>⟨λh2=> ?_,λh2=> ?_⟩⟩,λ_=>ret _ _ _,λ_=>⟨⟨λh=>q1 h,λh=>q0 h⟩,λ_=>⟨g.n,rfl,⟨gn0,gn1⟩,λb hb=>⟨⟨by omega,by omega⟩,ret _ _ _⟩⟩,λ_=>⟨⟨λh=>q1 h,λh=>q0 h⟩,λ_=>⟨g.n,rfl,⟨gn0,gn1⟩,λb hb=>ret _ _ _⟩,λ_=>⟨⟨λh=>q1 h,λh=>q0 h⟩,λ_=>ret _ _ _,λ_=>⟨⟨λh=> ?_,λh=>⟨λh2=> ?_,λh2=> ?_⟩⟩,λ_=>⟨g.s,rfl,by omega,λb hb=>⟨⟨λ_=>⟨λ_=>⟨_,rfl⟩,λ_=>⟨_,rfl⟩⟩,λ_=>⟨_,rfl⟩⟩,λs hs=>ret _ _ _⟩⟩,λ_=>⟨⟨λh=>q1 h,λh=>q0 h⟩,λhE=>⟨⟨0,rfl⟩,λi hi=> ?_⟩,λ_=>⟨⟨⟨λh=>q1 h,λh=>q0 h⟩,λh=> ?_,λh=>⟨λh2=> ?_,λh2=> ?_⟩⟩,λhP=> ?_,λ_=>⟨⟨λh=>q1 h,λh=>q0 h⟩,λhR=> ?_,λ_ h14=>⟨⟨?xa,?xb⟩,?_⟩⟩⟩⟩⟩⟩⟩⟩⟩⟩⟩,ret _ _ _⟩
 ·unfold bI;rw[decide_eq_true h,decide_eq_true h2,decide_eq_true h3];rfl
 ·unfold bI;rw[decide_eq_true h,decide_eq_true h2,decide_eq_false h3];rfl
 ·unfold bI;rw[decide_eq_true h,decide_eq_false h2];rfl
 ·unfold bI;rw[decide_eq_false h];rfl
 ·unfold bN;rw[h];rfl
 ·unfold bN;rw[h,Bool.false_or];exact q1 h2
 ·unfold bN;rw[h,Bool.false_or];exact q0 h2
 ·unfold bT;rw[decide_eq_true h,Bool.true_or,Bool.true_and]
 ·unfold bT;rw[decide_eq_true h2,Bool.or_true,Bool.true_and]
 ·unfold bT;rw[decide_eq_false h,decide_eq_false h2];rfl
 ·have hi':i<a.sys.length:=by omega
  have ty:=λq (hq:z09 S x q/\g.ok q)=>j55 (hao q hq).2.1 hi'
  have h30:=hgd.2.2.2.2.2.2.2.2.2
  exact⟨⟨by omega,by omega⟩,(ty p ⟨hx,hgo⟩).1,a.sys[i],λq hq=>(ty q hq).2,λ_=>ret _ _ _,λ_=>⟨⟨by omega,by omega⟩,i+1,by omega,by omega⟩⟩
 ·unfold bP;rw[h];rfl
 ·unfold bP;rw[h,Bool.false_or];exact q1 h2
 ·unfold bP;rw[h,Bool.false_or];exact q0 h2
 ·have hpar:zhf a g:=by
   unfold bP at hP
   rw[Bool.or_eq_true]at hP
   rcases hP with h|h
   ·exact .inl (qk h).1
   ·exact .inr (qk h)
  refine⟨⟨S,x,all+1,a,g,d⟩,rfl,rfl,rfl,rfl,rfl,rfl,rfl,syl,rfl,rfl,rfl,rfl,rfl,rfl,rfl,rfl,brl,rfl,rfl,rfl,rfl,rfl,rfl,rfl,rfl,rfl,rfl,rfl,rfl,sl,rfl,rfl,⟨hmu,hS,hmem,hpar,hg,⟨by show 0<=all+1;omega,by show all+1<=2000;omega⟩,hd1,by show d<=20;omega⟩,λq hq=>⟨hq.1,hao q hq,hq.2⟩,?_⟩
  rintro⟨a2,e,w⟩ hb _
  have hb:all+1<=a2/\a2<=2001/\(e=0->a2<=2000):=hb
  exact⟨⟨a2,e,w⟩,rfl,rfl,rfl,rfl,rfl,rfl,rfl,rfl,rfl,rfl,rfl,sl.symm,rfl,rfl,⟨by show all<=a2;omega,hb.2⟩,λq hq=>hq.2⟩
 ·have hrec:isRec a g:=(qk hR).1
  refine⟨⟨S,x,all+1,a,g,d⟩,rfl,rfl,rfl,rfl,rfl,rfl,rfl,syl,rfl,rfl,rfl,rfl,rfl,rfl,rfl,rfl,brl,rfl,rfl,rfl,rfl,rfl,rfl,rfl,rfl,rfl,rfl,rfl,rfl,sl,rfl,rfl,⟨hmu,hS,hmem,hrec,hg,⟨by show 0<=all+1;omega,by show all+1<=2000;omega⟩,hd1,by show d<=20;omega⟩,λq hq=>⟨hq.1,hao q hq,hq.2⟩,?_⟩
  rintro⟨a2,e,w⟩ hb _
  have hb:all+1<=a2/\a2<=2001/\(e=0->a2<=2000):=hb
  exact⟨⟨a2,e,w⟩,rfl,rfl,rfl,rfl,rfl,rfl,rfl,rfl,rfl,rfl,rfl,sl.symm,rfl,rfl,⟨by show all<=a2;omega,hb.2⟩,λq hq=>hq.2⟩
 case xa|xb=>
  have h0:0<a.brs.length:=List.length_pos_iff.2 (hgd.2.2.2.1 h14)
  have hbr:=hgd.2.2.1 _ (List.getElem_mem h0)
  refine⟨⟨by omega,by omega⟩,(z8u (hao p ⟨hx,hgo⟩) h0).1,a.brs[0],λq hq=>(z8u (hao q hq) h0).2,⟨by omega,by omega⟩,⟨S,x,all+1,a.brs[0],g,d+1⟩,rfl,rfl,rfl,rfl,rfl,rfl,rfl,rfl,rfl,rfl,rfl,rfl,sl,rfl,rfl,⟨by show 2*(25- (d+1)).toNat<n;omega,hS,hbr,hg,⟨by show 0<=all+1;omega,by show all+1<=2000;omega⟩,by show 1<=d+1;omega,by show d+1<=21;omega⟩,λq hq=>hq,?_⟩
  rintro⟨a2,e,w⟩ hb _
  have hb:all+1<=a2/\a2<=2001/\(e=0->a2<=2000):=hb
  exact⟨⟨a2,e,w⟩,rfl,rfl,sl.symm,rfl,rfl,rfl,rfl,rfl,rfl,rfl,rfl,rfl,rfl,rfl,λq hq=>hq.1,λq hq=>hq.2,⟨by show all<=a2;omega,hb.2⟩⟩
 ·rintro⟨a2,e,w⟩ hb _ b s1 _
  refine⟨⟨a2,e, .mk 0 (mkS []) (some ⟨b,s1+0,none⟩,1,1) [w] (none,0,0) [] 0⟩,rfl,rfl,rfl,rfl,rfl,rfl,rfl,rfl,rfl,rfl,rfl,hb,λq hq=> ?_⟩
  show GV.ok _ q
  unfold GV.ok
  refine⟨⟨rfl,Nat.le_refl _, .inr ⟨⟨b,s1+0,none⟩,rfl,rfl,λi v hi=> ?_⟩⟩,z05,z1a hq.1.2⟩
  rw[z00,z00,List.append_nil]at hi
  exact hq.2 i v hi
def zmt:∀n,q22 P 74 (cVl.below z6m n)
 |0=>CtR.below_zero (by decide) (by decide) (Sen.enters_of Go.Proofs.Tryz.func74 (by kernel_rfl)) λs=>rfl
 |n+1=>j5a n (zmt n)
def zy1:q22 P 74 cVl:=CtR.of_below zmt
def zoe(x:SV) (t:Int):qm2 P (λ_=>none) Go.Proofs.Tryz.f30 j3b (λ_=>{}) ⟨x,t⟩=(True->(decide ((0:Int)<=t)=true->(decide ((0:Int)<=t)&&decide (t<(↑(Prod.fst (Prod.snd x)):Int)))=decide (t<(↑(Prod.fst (Prod.snd x)):Int))/\True)/\(decide ((0:Int)<=t)=false->(decide ((0:Int)<=t)&&decide (t<(↑(Prod.fst (Prod.snd x)):Int)))=false/\True)):=by kernel_rfl
def zct:q5k P 30 j3b:=by
 refine qm5 mixed z0p (W:=λ_=>{}) Go.Proofs.Tryz.func30 (by kernel_rfl) (by decide) (by decide) (λs=>by kernel_rfl) λ⟨(x:SV),(t:Int)⟩=>(zoe x t).mpr ?_
 intro _
 simp only[sbS,Int.toNat_natCast]
 refine⟨λh=> ?_,λh=> ?_⟩
 ·rw[decide_eq_true h];rfl
 ·rw[decide_eq_false h];rfl
def z7d:∀x y:List UInt8,(Op.bytesLess x y||decide (x=y))= !Op.bytesLess y x
  | [],[]=>by simp[Op.bytesLess]
  | [],b::y=>by simp[Op.bytesLess]
  |a::x,[]=>by simp[Op.bytesLess]
  | a ::x,b::y=>by
    have ih:=z7d x y
    rw[Op.bytesLess,Op.bytesLess]
    have tri:a<b\/a=b\/b<a:=by
      rcases Nat.lt_trichotomy a.toNat b.toNat with h|h|h
      · exact .inl (UInt8.lt_iff_toNat_lt.2 h)
      · exact .inr (.inl (UInt8.toNat_inj.1 h))
      · exact .inr (.inr (UInt8.lt_iff_toNat_lt.2 h))
    rcases tri with h|h|h
    · have h2:¬b<a:=UInt8.lt_asymm h
      have h3:¬b=a:=λe=>by subst e;exact UInt8.lt_irrefl _ h
      simp[h,h2,h3]
    · subst h
      have h2:¬a<a:=UInt8.lt_irrefl a
      simp[h2]
      rw[←ih]
    · have h2:¬a<b:=UInt8.lt_asymm h
      have h3:¬a=b:=λe=>by subst e;exact UInt8.lt_irrefl _ h
      simp[h,h2,h3]
def z21(x y:ByteArray):(qfa x y=true\/x=y)↔qfa y x=false:=by
 have h:=z7d x.toList y.toList
 have e:=qk3 x y
 unfold qfa
 by_cases hxy:x=y
 ·have:x.toList=y.toList:=by rw[hxy]
  rw[decide_eq_true this,Bool.or_true]at h
  simp[hxy]
  rw[hxy]at h
  simpa using h.symm
 ·have:¬x.toList=y.toList:=λg=>by rw[g]at e;simp at e;exact hxy e
  rw[decide_eq_false this,Bool.or_false]at h
  rw[h];simp[hxy]
def nmO(N:List ByteArray) (r k:Nat):List (Nat×AO):=[(2, .cells 34 (some 0) false [.ssl r 0 N.length 1 k]),(r, .row 9 0 (z00 txV N))]
abbrev TrS:=SV×List Int×Int×Int×List ByteArray
abbrev TrB:=GJ×Int×List ByteArray
def zow(L:List Int) (n:Int) (N:List ByteArray):Prop:=N.length<=n+1/\∀t∈N,t.size<100
def z10(L:List Int) (n:Int) (N:List ByteArray):TrB->Prop:=λ⟨g,n',N'⟩=>g.wf/\n<=n'/\n'<=L.length/\N.length<=N'.length/\N'.length+n<=N.length+n'/\∀t∈N',t.size<100
def z2z(most:Int):TrS->Prop:=λ⟨x,L,n,d,N⟩=>0<=n/\n<=L.length/\z0q L/\0<=d/\d<=most/\zow L n N
def trM:TrS->PF:=λ⟨x,L,n,d,N⟩=>byM x L
def z4m:CtR where
 σ:=TrS
 args:=λ⟨x,L,n,d,N⟩=>[.ptr 1 0, .sv (.int .i64 d), .ptr 2 0]
 h:=λ⟨x,L,n,d,N⟩=>pkO x n++nmO N 3 4
 m:=5
 pre:=z2z 4
 mem:=trM
 β:=λ_=>TrB
 post:=λ⟨x,L,n,d,N⟩ b=>z10 L n N b
 pm:=λ_ ⟨g,n',N'⟩=>gM g
 r:=λ_ ⟨g,n',N'⟩=>g.av
 h':=λ⟨x,L,n,d,N⟩ ⟨g,n',N'⟩=>pkO x n'++nmO N' 5 6
 m':=7
def z91:CtR:={z4m with pre:=z2z 3}
def z1q:CtR where
 σ:=ByteArray×TrS
 args:=λ⟨s,x,L,n,d,N⟩=>[.ptr 1 0, .sv (.string s), .sv (.int .i64 d), .ptr 2 0]
 h:=λ⟨s,x,L,n,d,N⟩=>pkO x n++nmO N 3 4
 m:=5
 pre:=λ⟨s,t⟩=>s.size<100/\z2z 3 t
 mem:=λ⟨s,t⟩=>trM t
 β:=λ_=>TrB
 post:=λ⟨s,x,L,n,d,N⟩ b=>z10 L n N b
 pm:=λ_ ⟨g,n',N'⟩=>gM g
 r:=λ_ ⟨g,n',N'⟩=>g.av
 h':=λ⟨s,x,L,n,d,N⟩ ⟨g,n',N'⟩=>pkO x n'++nmO N' 5 6
 m':=7
def z4n:TrS->Nat:=λ⟨x,L,n,d,N⟩=>(10- d).toNat
def zou:ByteArray×TrS->Nat:=λ⟨s,t⟩=>z4n t
def zyc:TrS->WayF:=λ⟨x,L,n,d,N⟩=>{
  cut :=λi t _=>match i with
    |4=>some {σ:=Int,pre:=λk=>0<=k/\k<20/\(8<=k->d<=3/\n<L.length),t:=λk=>[(7, .sv (.int .i64 k))],h:=λ_=>pkO x (z06 L n),more:=0,μ:=λ_=>0,keep:=[0,1,2,6]}
    | 15=>match slI t 7 with
      |some k=>some {σ:=Unit,pre:=λ_=>14<=k,t:=λ_=>[],h:=λ_=>[],more:=0,μ:=λ_=>0,keep:=[0,1,2,6,7]}
      |none=>none
    |_=>none
  pub:=λi k=>match i,k with
    |8,9=>[42]
    |10,9=>[54]
    |18,9=>[113]
    |20,7=>[120]
    |24,1=>[147]
    |_,_=>[]}
def zn3:TrS->WayF:=λ_=>{
 pub:=λi k=>match i,k with
  |7,1=>[40]
  |_,_=>[]}
abbrev RlS:=Int×Int×List ByteArray×List GJ
def zii(L:List Int) (n0:Int) (N0:List ByteArray) (m:Int):RlS->Prop:=λ⟨i,n,N,fs⟩=>0<=i/\i<=m/\m<5/\(fs.length:Int)=i/\GJ.wfs fs/\n0<=n/\n<=L.length/\N0.length<=N.length/\N.length+n0<=N0.length+n/\∀t∈N,t.size<100
def fsM(fs:List GJ):PF:=⟨true,GJ.oks fs,λ_ _ h e=>GJ.oks_mono h e⟩
def za4:ByteArray×TrS->WayF:=λ⟨s,x,L,n0,d,N0⟩=>{
 ann:=λ_ t _=>match slI t 11 with
  |some m=>some {σ:=RlS,pre:=zii L n0 N0 m,mem:=λ⟨i,n,N,fs⟩=>fsM fs,t:=λ⟨i,n,N,fs⟩=>[(10, .sv (.int .i64 i))],h:=λ⟨i,n,N,fs⟩=>pkO x n++nmO N 9 10++[(6, .cells 62 (some 0) false [.int .i64 5, .int .i64 0, .str [], .ssl 7 0 fs.length 5 8, .nsl]),(7, .row 62 0 (z00 GJ.cells fs))],more:=4,μ:=λ⟨i,n,N,fs⟩=>(m- i).toNat,keep:=[0,1,2,3,8,9,11],del:=[3]}
  |none=>none
 pub:=λi k=>match i,k with
  |9,3=>[56]
  |_,_=>[]
 pubE:=[1000008]}
end
end Go.Proofs.YtniogjgfomaicaaGreat.Wd
