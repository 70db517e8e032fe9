/-
  What the functions do: contracts, and their questions answered. No condition but what its theorems ask.
-/
import Derived.Test.YtpanaicglidfjaaT8
namespace Go.Proofs.Ytpanaicglidfjaa.Wd
open Go.Proofs.Ytpanaicglidfjaa.Eng Go.Proofs.Ytpanaicglidfjaa.Sen Go.RowKit
set_option linter.defProp false
set_option linter.unusedVariables false
set_option linter.unusedSimpArgs false
set_option maxRecDepth 1000000
noncomputable section
noncomputable section
variable (x0:Int) (x1:GV) (x2:GV) (x3:List Value) (x4:List Value) (x5:Int) (x6:Nat) (x7:Int×Int×List ByteArray) (x8:Nat->Option Obj) (x9:Option Addr) (x10:Option Addr) (x11:Nat) (x12:Prop)
 abbrev qmr:=(0:Nat)+(GV.x x1).2.1
 abbrev q5s:=(0:Nat)+(GV.y x1).2.1
 abbrev zcp32:=Value.slice (GV.y x1).1 (GV.y x1).2.1 (GV.y x1).2.2
 abbrev q7a:=(↑(qmr x1):Int)
 abbrev qne:=IntKind.wrap IntKind.u8 (Int.tdiv x0 3)
 abbrev zcp33:=(0<=Int.tmod (qne x0) (q7a x1)/\Int.tmod (qne x0) (q7a x1)<(q7a x1))
 abbrev qxd:=((True/\GV.ok x1 x8)/\GV.ok x2 x8)/\(0:Nat)+(GV.x x1).2.1<=x6/\q1l x8 x9 (List.take ((qmr x1)*nat_lit 5) (spl ([]++x3) (nat_lit 0+Int.toNat (Int.tmod (qne x0) (q7a x1))*nat_lit 5) [Value.int IntKind.u64 (GV.n x2),Value.string (GV.s x2),Value.slice (GV.x x2).1 (GV.x x2).2.1 (GV.x x2).2.2,Value.slice (GV.y x2).1 (GV.y x2).2.1 (GV.y x2).2.2,Value.int IntKind.i64 (GV.b x2)]))
 abbrev zcp9:=(0:Nat)+(GV.y x1).2.1<=x6/\q1l x8 x9 (List.take ((q5s x1)*nat_lit 1) ([]++x3))
 abbrev qfz:=GV.n x1=GV.n x2/\GV.s x1=GV.s x2/\x12
 abbrev zcp31:=(GV.x x1).1=x9/\(GV.x x1).2.1=0+(GV.x x2).2.1/\(GV.x x1).2.2=x6/\x12
 abbrev qwr:=(GV.y x1).1=x9/\(GV.y x1).2.1=0+(GV.y x2).2.1/\(GV.y x1).2.2=x6/\x12
 abbrev qh7:=zcp31 x1 x2 x6 x9 (qwr x1 x2 x11 x10 x12)
 abbrev zcp0:=zcp33 x0 x1/\nat_lit 0+Int.toNat (Int.tmod (qne x0) (q7a x1))*nat_lit 5+List.length [Value.int IntKind.u64 (GV.n x2),Value.string (GV.s x2),Value.slice (GV.x x2).1 (GV.x x2).2.1 (GV.x x2).2.2,Value.slice (GV.y x2).1 (GV.y x2).2.1 (GV.y x2).2.2,Value.int IntKind.i64 (GV.b x2)]<=List.length ([]++x3)/\∀(i0 i1 i2:Nat) (i3:Option Addr) (i4 i5:Nat),(∃(i6:Pub),qxd x0 x1 x2 x3 i5 i6 i3)->∀(i7 i8 i9:Nat) (i10:Option Addr) (i11 i12:Nat),(∃(i13:Pub),(qxd x0 x1 x2 x3 i5 i13 i3)/\zcp9 x1 x4 i12 i13 i10)->∃(i14:GV),qfz i14 x1 (qh7 i14 x1 i5 i3 i10 i12 (GV.b i14=GV.b x1/\q4g x1 i14/\(∀(i15:Pub),(qxd x0 x1 x2 x3 i5 i15 i3)/\zcp9 x1 x4 i12 i15 i10->GV.ok i14 i15)/\True))
 abbrev zcp3:=zcp33 x0 x1/\∃(i0:Int),∃(i1:ByteArray),∃(i2:Option Addr),∃(i3:Nat),∃(i4:Nat),∃(i5:Option Addr),∃(i6:Nat),∃(i7:Nat),∃(i8:Int),(∀(i9:Nat) (i10:Value),[Value.int IntKind.u64 i0,Value.string i1,Value.slice i2 i3 i4,Value.slice i5 i6 i7,Value.int IntKind.i64 i8][i9]? =some i10->([]++x3)[nat_lit 0+Int.toNat (Int.tmod (qne x0) (q7a x1))*nat_lit 5+i9]? =some i10)/\(3:Int)≠0/\∃(i11:TuS),GV.n i11.1=i0/\GV.s i11.1=i1/\(GV.x i11.1).1=i2/\(GV.x i11.1).2.1=i3/\(GV.x i11.1).2.2=i4/\(GV.y i11.1).1=i5/\(GV.y i11.1).2.1=i6/\(GV.y i11.1).2.2=i7/\GV.b i11.1=i8/\i11.2.1=IntKind.wrap IntKind.u8 (Int.tdiv x0 3)/\i11.2.2=x5/\(muTu i11<x6/\(PV.sn (GV.pv i11.1)/\PV.wt (GV.pv i11.1)<100000000000000000)/\(0<=i11.2.1/\i11.2.1<256)/\0<=i11.2.2/\i11.2.2<18446744073709551616)/\(∀(i12:Pub),True/\GV.ok x1 i12->GV.ok i11.1 i12)/\∀(i13:GV),q4g i11.1 i13->(∃(i14:Pub),(True/\GV.ok x1 i14)/\GV.ok i13 i14)->zcp0 x0 x1 i13 x3 x4
 abbrev zcp2:=(3:Int)≠0/\((-9223372036854775808:Int)<=IntKind.wrap IntKind.u8 (Int.tdiv x0 3)/\IntKind.wrap IntKind.u8 (Int.tdiv x0 3)<=9223372036854775807)/\(q7a x1)≠0/\((zcp3 x0 x1 x3 x4 x5 x6)/\zcp3 x0 x1 x3 x4 x5 x6)/\((zcp3 x0 x1 x3 x4 x5 x6)/\zcp3 x0 x1 x3 x4 x5 x6)/\(zcp3 x0 x1 x3 x4 x5 x6)/\zcp3 x0 x1 x3 x4 x5 x6
 abbrev qqx:=GV.n x1=GV.n x1/\GV.s x1=GV.s x1/\(0:Nat)+(GV.x x1).2.1=0+(GV.x x1).2.1/\(0:Nat)+(GV.y x1).2.1=0+(GV.y x1).2.1/\GV.b x1=GV.b x1/\[]++x3=[]++x3/\x12
 abbrev qus:=(∀(i0:Pub),True/\GV.ok x1 i0->True/\GV.ok x1 i0)
 abbrev zcp1:=(3:Int)≠0/\(decide (0<Int.tmod x0 3)=true->zcp2 x0 x1 x3 x4 x5 x6)/\(decide (0<Int.tmod x0 3)=false->∃(i90:Unit),x5=x5/\qqx x1 x3 ([]++x4=[]++x4/\qus x1/\True/\True))
 abbrev q78:=Int.tmod x0 (7:Int)=x5
 abbrev zcp6:=(True/\GV.ok x1 x8)/\(0:Nat)+(GV.x x1).2.1<=x6/\q1l x8 x9 (List.take ((qmr x1)*nat_lit 5) ([]++x3))
 abbrev qf3:=∃(i0:Pub),zcp6 x1 x3 x6 i0 x9
 abbrev qlm:=∃(i0:Pub),(zcp6 x1 x3 x6 i0 x9)/\zcp9 x1 x4 x11 i0 x10
 abbrev qo6:=q4g x1 x2/\(∀(i0:Pub),(zcp6 x1 x3 x6 i0 x9)/\zcp9 x1 x4 x11 i0 x10->GV.ok x2 i0)/\True
 abbrev zcp17:=(7:Int)≠0/\∀(i0 i1 i2:Nat) (i3:Option Addr) (i4 i5:Nat),(qf3 x1 x3 i5 i3)->∀(i7 i8 i9:Nat) (i10:Option Addr) (i11 i12:Nat),(qlm x1 x3 x4 i5 i3 i10 i12)->∃(i14:GV),GV.n i14=IntKind.wrap IntKind.u64 (Int.tdiv x0 7)/\GV.s i14=GV.s x1/\qh7 i14 x1 i5 i3 i10 i12 (GV.b i14=GV.b x1/\qo6 x1 i14 x3 x4 i5 i3 i10 i12)
 abbrev zcp16:=ByteArray.size (GV.s x1)+ByteArray.size (mkS [255])<=9223372036854775807/\∀(i0 i1 i2:Nat) (i3:Option Addr) (i4 i5:Nat),(qf3 x1 x3 i5 i3)->∀(i7 i8 i9:Nat) (i10:Option Addr) (i11 i12:Nat),(qlm x1 x3 x4 i5 i3 i10 i12)->∃(i14:GV),GV.n i14=GV.n x1/\GV.s i14=GV.s x1++mkS [255]/\qh7 i14 x1 i5 i3 i10 i12 (GV.b i14=GV.b x1/\qo6 x1 i14 x3 x4 i5 i3 i10 i12)
 abbrev qy5:=(True/\GV.ok x1 x8)/\(0:Nat)+(GV.x x1).2.1+nat_lit 1<=x6/\q1l x8 x9 (List.take (((0:Nat)+(GV.x x1).2.1+nat_lit 1)*nat_lit 5) ([]++x3++[Value.int IntKind.u64 0,Value.string (mkS []),Value.slice noA 0 0,Value.slice noA 0 0,Value.int IntKind.i64 0]))
 abbrev zcp7:=List.length ([]++x3)=(qmr x1)*5/\((0:Nat)+(GV.x x1).2.1+nat_lit 1)*80<=140737488355328/\∀(i0 i1 i2:Nat) (i3:Option Addr) (i4 i5:Nat),(∃(i6:Pub),qy5 x1 x3 i5 i6 i3)->∀(i7 i8 i9:Nat) (i10:Option Addr) (i11 i12:Nat),(∃(i13:Pub),(qy5 x1 x3 i5 i13 i3)/\zcp9 x1 x4 i12 i13 i10)->∃(i14:GV),qfz i14 x1 ((GV.x i14).1=i3/\(GV.x i14).2.1=0+(GV.x x1).2.1+nat_lit 1/\(GV.x i14).2.2=i5/\qwr i14 x1 i12 i10 (GV.b i14=GV.b x1/\q4g x1 i14/\(∀(i15:Pub),(qy5 x1 x3 i5 i15 i3)/\zcp9 x1 x4 i12 i15 i10->GV.ok i14 i15)/\True))
 abbrev zcp25:=(0:Nat)+(GV.y x1).2.1+nat_lit 1<=x6/\q1l x8 x9 (List.take (((0:Nat)+(GV.y x1).2.1+nat_lit 1)*nat_lit 1) ([]++x3++[Value.string (mkS [97])]))
 abbrev zcp10:=List.length ([]++x3)=(q5s x1)*1/\((0:Nat)+(GV.y x1).2.1+nat_lit 1)*16<=140737488355328/\∀(i0 i1 i2:Nat) (i3:Option Addr) (i4 i5:Nat),(qf3 x1 x4 i5 i3)->∀(i7 i8 i9:Nat) (i10:Option Addr) (i11 i12:Nat),(∃(i13:Pub),(zcp6 x1 x4 i5 i13 i3)/\zcp25 x1 x3 i12 i13 i10)->∃(i14:GV),qfz i14 x1 (zcp31 i14 x1 i5 i3 ((GV.y i14).1=i10/\(GV.y i14).2.1=0+(GV.y x1).2.1+nat_lit 1/\(GV.y i14).2.2=i12/\GV.b i14=GV.b x1/\q4g x1 i14/\(∀(i15:Pub),(zcp6 x1 x4 i5 i15 i3)/\zcp25 x1 x3 i12 i15 i10->GV.ok i14 i15)/\True))
 abbrev zcp26:=Int.tmod (IntKind.wrap IntKind.u64 (Int.tdiv x0 7)) 5
 abbrev zcp13:=(7:Int)≠0/\(5:Int)≠0/\((-9223372036854775808:Int)<=IntKind.wrap IntKind.i64 (zcp26 x0)- 1/\IntKind.wrap IntKind.i64 (zcp26 x0)- 1<=9223372036854775807)/\∀(i0 i1 i2:Nat) (i3:Option Addr) (i4 i5:Nat),(qf3 x1 x3 i5 i3)->∀(i7 i8 i9:Nat) (i10:Option Addr) (i11 i12:Nat),(qlm x1 x3 x4 i5 i3 i10 i12)->∃(i14:GV),qfz i14 x1 (qh7 i14 x1 i5 i3 i10 i12 (GV.b i14=IntKind.wrap IntKind.i64 (zcp26 x0)- 1/\qo6 x1 i14 x3 x4 i5 i3 i10 i12))
 abbrev zcp8:=(0<=x7.2.1/\x7.2.1<(↑(q5s x1):Int))/\∃(i0:ByteArray),(∀(i1:Nat) (i2:Value),[Value.string i0][i1]? =some i2->(q00 txV x7.2.2)[nat_lit 0+Int.toNat x7.2.1*nat_lit 1+i1]? =some i2)/\(0<=x7.1/\x7.1<(↑(q5s x1):Int))/\∃(i3:ByteArray),(∀(i4:Nat) (i5:Value),[Value.string i3][i4]? =some i5->(q00 txV x7.2.2)[nat_lit 0+Int.toNat x7.1*nat_lit 1+i4]? =some i5)/\(0<=x7.1/\x7.1<(↑(q5s x1):Int))/\nat_lit 0+Int.toNat x7.1*nat_lit 1+List.length [Value.string i0]<=List.length (q00 txV x7.2.2)/\(0<=x7.2.1/\x7.2.1<(↑(q5s x1):Int))/\nat_lit 0+Int.toNat x7.2.1*nat_lit 1+List.length [Value.string i3]<=List.length (spl (q00 txV x7.2.2) (nat_lit 0+Int.toNat x7.1*nat_lit 1) [Value.string i0])/\AV.ssl (nat_lit 8) (nat_lit 0) (q5s x1) (nat_lit 1) (nat_lit 9)=AV.ssl (nat_lit 8) (nat_lit 0) (q5s x1) (nat_lit 1) (nat_lit 9)/\((-9223372036854775808:Int)<=x7.1+1/\x7.1+1<=9223372036854775807)/\((-9223372036854775808:Int)<=x7.2.1- 1/\x7.2.1- 1<=9223372036854775807)/\∃(i6:Int×Int×List ByteArray),i6.1=x7.1+1/\i6.2.1=x7.2.1- 1/\qqx x1 x3 (q00 txV i6.2.2=spl (spl (q00 txV x7.2.2) (nat_lit 0+Int.toNat x7.1*nat_lit 1) [Value.string i0]) (nat_lit 0+Int.toNat x7.2.1*nat_lit 1) [Value.string i3]/\qus x1/\tuI x1 i6.1 i6.2.1 i6.2.2/\Int.toNat (i6.2.1- i6.1+1)<Int.toNat (x7.2.1- x7.1+1)/\True)
 abbrev zcp5:=(decide (x7.1<x7.2.1)=true->zcp8 x1 x3 x7)/\(decide (x7.1<x7.2.1)=false->∀(i8 i9 i10:Nat) (i11:Option Addr) (i12 i13:Nat),(qf3 x1 x3 i13 i11)->∀(i15 i16 i17:Nat) (i18:Option Addr) (i19 i20:Nat),(∃(i21:Pub),(zcp6 x1 x3 i13 i21 i11)/\(0:Nat)+(GV.y x1).2.1<=i20/\q1l i21 i18 (List.take ((q5s x1)*nat_lit 1) (q00 txV x7.2.2)))->∃(i22:GV),qfz i22 x1 (qh7 i22 x1 i13 i11 i18 i20 (GV.b i22=GV.b x1/\q4g x1 i22/\(∀(i23:Pub),(zcp6 x1 x3 i13 i23 i11)/\(0:Nat)+(GV.y x1).2.1<=i20/\q1l i23 i18 (List.take ((q5s x1)*nat_lit 1) (q00 txV x7.2.2))->GV.ok i22 i23)/\True)))
 abbrev zcp4:=((-9223372036854775808:Int)<=(↑(q5s x1):Int)- 1/\(↑(q5s x1):Int)- 1<=9223372036854775807)/\(∃(i0:Int×Int×List ByteArray),i0.1=0/\i0.2.1=(↑(q5s x1):Int)- 1/\qqx x1 x3 (q00 txV i0.2.2=[]++x4/\qus x1/\tuI x1 i0.1 i0.2.1 i0.2.2/\True))/\∀(i2:Int×Int×List ByteArray),tuI x1 i2.1 i2.2.1 i2.2.2->zcp5 x1 x3 i2
end
theorem qgf(c:Nat) (v:GV) (how n:Int):q68 P (q0r []) (q1s [(15,q67.below muTu c)]) Try.f15 (q67.below muTu (c+1)) (qpt) ⟨v,how,n⟩=(muTu (v,how,n)<c+1/\(PV.sn (GV.pv v)/\PV.wt (GV.pv v)<100000000000000000)/\(0<=how/\how<256)/\0<=n/\n<18446744073709551616->(∃(p:Pub),True/\GV.ok v p)->∃(us:List Value),List.length us=(GV.x v).2.1*5/\(∀(p:Pub),True/\GV.ok v p->q1l p (GV.x v).1 us)/\quv us/\(qmr v)*80<=140737488355328/\∃(us_1:List Value),List.length us_1=(GV.y v).2.1*1/\(∀(p:Pub),True/\GV.ok v p->q1l p (GV.y v).1 us_1)/\quv us_1/\(q5s v)*16<=140737488355328/\AV.sv (zcp32 v)=AV.sv (zcp32 v)/\((decide (0<(q7a v))=true->zcp1 how v us us_1 n c)/\(decide (0<(q7a v))=false->∃(s:Unit),n=n/\qqx v us ([]++us_1=[]++us_1/\qus v/\True/\True)))/\∀(s:Unit),True->(7:Int)≠0/\(decide (q78 n 0)=true->zcp17 n v us us_1)/\(decide (q78 n 0)=false->(decide (q78 n 1)=true->zcp16 v us us_1)/\(decide (q78 n 1)=false->(decide (q78 n 2)=true->zcp7 v us us_1)/\(decide (q78 n 2)=false->(decide (q78 n 3)=true->zcp10 v us_1 us)/\(decide (q78 n 3)=false->(decide (q78 n 4)=true->zcp13 n v us us_1)/\(decide (q78 n 4)=false->(decide (q78 n 5)=true->(decide (0<(q7a v))=true->∀(b s u:Nat) (a:Option Addr) (n c:Nat),(qf3 v us c a)->(0:Nat)+(GV.x v).2.1<=c/\((0:Int)<=1/\1<=(q7a v))/\∀(b s u:Nat) (a_2:Option Addr) (n c_1:Nat),(qlm v us us_1 c a a_2 c_1)->∃(b:GV),qfz b v ((GV.x b).1=slA a c (nat_lit 1) 5/\(GV.x b).2.1=(Nat.brecOn.go (motive:=λ(x:Nat)=>Nat->Nat) (GV.x v).2.1 Nat.add._f).1 0- nat_lit 1/\(GV.x b).2.2=c- nat_lit 1/\qwr b v c_1 a_2 (GV.b b=GV.b v/\qo6 v b us us_1 c a a_2 c_1)))/\(decide (0<(q7a v))=false->∀(b s u:Nat) (a:Option Addr) (n c:Nat),(qf3 v us c a)->∀(b s u:Nat) (a_2:Option Addr) (n c_1:Nat),(qlm v us us_1 c a a_2 c_1)->∃(b:GV),qfz b v (qh7 b v c a a_2 c_1 (GV.b b=GV.b v/\qo6 v b us us_1 c a a_2 c_1))))/\(decide (q78 n 5)=false->zcp4 v us us_1))))))):=by kernel_rfl
def qnk(c:Nat) (v:GV) (how n:Int):=Eq.trans (qgf c v how n) (by delta qmr q5s zcp32 q7a qne zcp33 qxd zcp9 qfz zcp31 qwr qh7 zcp0 zcp3 zcp2 qqx qus zcp1 q78 zcp6 qf3 qlm qo6 zcp17 zcp16 qy5 zcp7 zcp25 zcp10 zcp26 zcp13 zcp8 zcp5 zcp4;exact rfl)
noncomputable section
variable (x0:Bool) (x1:SV) (x2:Int) (x3:List AT) (x4:Int) (x5:Int) (x6:List Int) (x7:SV) (x8:Nat) (x9:Int) (x10:Nat) (x11:Option Addr) (x12:Nat) (x13:ByteArray) (x14:Option Addr) (x15:Nat) (x16:Nat) (x17:Int) (x18:Option Addr) (x19:Nat) (x20:ByteArray) (x21:Int) (x22:Option Addr) (x23:Nat) (x24:Nat) (x25:Nat) (x26:AvB) (x27:List Int) (x28:AvS) (x29:Nat×Int×List GV) (x30:Int×Int×List GV) (x31:Prop) (x32:Nat->Option Obj) (x33:Int) (x34:Int) (x35:Int) (x36:Int) (x37:Int)
 abbrev q20:=(True/\q0l x3 x1 x32/\slP byV x7 x6 x32)/\GV.ok zV x32
 abbrev qfe:=GV.n x26.1=0/\GV.s x26.1=mkS []/\x31
 abbrev qn8:=(GV.y x26.1).1=noA/\(GV.y x26.1).2.1=0/\(GV.y x26.1).2.2=0/\x31
 abbrev qqf:=(GV.x x26.1).1=noA/\(GV.x x26.1).2.1=0/\(GV.x x26.1).2.2=0/\qn8 x26 (GV.b x26.1=0/\x31)
 abbrev q2m:=x1.1=x1.1/\x1.2.1=x1.2.1/\x1.2.2=x1.2.2/\x31
 abbrev qil:=q0w x3 x2 x4 x6 x5 x26.1 x26.2.1 x26.2.2
 abbrev zcq53:=qil x2 x3 x4 x5 x6 x26/\(∀(i0:Pub),q20 x1 x3 x6 x7 i0->GV.ok x26.1 i0)/\True
 abbrev qxe:=∃(i0:AvB),qfe i0 (qqf i0 (i0.2.1=x0/\q2m x1 (i0.2.2=x2/\zcq53 x7 x4 x3 x5 x2 x6 x1 i0)))
 abbrev qvf:=(∀(i0:Pub),q20 x1 x3 x6 x7 i0->slP byV (x7.1,x7.2.1,x7.2.2) x27 i0)
 abbrev qhz:=x2=x2/\(0<=x2/\x2<=(↑(List.length x6):Int)/\0<x4/\x4<1000000/\q0t x6)/\qvf x1 x3 x27 x7 x6/\x31
 abbrev qhl:=qqf x26 (x26.2.1=true/\q2m x1 (x26.2.2=q0f x6 x2/\zcq53 x7 x4 x3 x5 x2 x27 x1 x26))
 abbrev qye:=(decide (x2=x17)=true->∃(i0:List Int),(7:Int)=7/\q2m x1 (qhz x7 x4 x3 7 i0 x1 x6 ((0<=q0s i0 x4 7/\q0s i0 x4 (7:Int)<(↑(nat_lit 7):Int))/\∃(i2:Int),(∀(i3:Nat) (i4:Value),[Value.int IntKind.u64 i2][i3]? =some i4->[Value.int IntKind.u64 0,Value.int IntKind.u64 x21,Value.int IntKind.u64 x33,Value.int IntKind.u64 x34,Value.int IntKind.u64 x35,Value.int IntKind.u64 x36,Value.int IntKind.u64 x37][nat_lit 0+Int.toNat (q0s i0 x4 7)*1+i3]? =some i4)/\∃(i5:AvB),GV.n i5.1=i2/\GV.s i5.1=mkS []/\qhl x1 x4 x3 x5 x9 i0 x7 i5 x6)))
 abbrev zcq50:=x2=x2/\(0<=x2/\x2<=(↑(List.length x6):Int)/\0<(↑x8:Int)/\(↑x8:Int)<1000000/\q0t x6)/\x31
 abbrev zcq45:=((-9223372036854775808:Int)<=x2+1/\x2+1<=9223372036854775807)
 abbrev zcq30:=x28.2.1.1=x1.1/\x28.2.1.2.1=x1.2.1/\x28.2.1.2.2=x1.2.2/\x28.2.2.1=x2/\x28.2.2.2.1=x4+1/\x28.2.2.2.2.1.1=x7.1/\x28.2.2.2.2.1.2.1=x7.2.1/\x28.2.2.2.2.1.2.2=x7.2.2/\x31
 abbrev zcq28:=(qiu x28<x8/\q0j x28.1/\(0<=x28.2.2.1/\x28.2.2.1<(↑(List.length x28.1):Int))/\qoq (atS x28.1 x28.2.2.1)/\(0<=x28.2.2.2.1/\x28.2.2.2.1<=6)/\0<=x28.2.2.2.2.2.2/\x28.2.2.2.2.2.2<=(↑(List.length x28.2.2.2.2.2.1):Int)/\q0t x28.2.2.2.2.2.1)
 abbrev zcq42:=q0l x28.1 x28.2.1 x32/\slP byV x28.2.2.2.2.1 x28.2.2.2.2.2.1 x32
 abbrev qgo:=(GV.x x26.1).2.1
 abbrev qiw:=(GV.x x26.1).2.2
 abbrev qgn:=(GV.y x26.1).2.1
 abbrev qgw:=(GV.y x26.1).2.2
 abbrev zcq33:=AV.agg [AV.sv (Value.int IntKind.u64 (GV.n x26.1)),AV.sv (Value.string (GV.s x26.1)),AV.sv (Value.slice (GV.x x26.1).1 (qgo x26) (qiw x26)),AV.sv (Value.slice (GV.y x26.1).1 (qgn x26) (qgw x26)),AV.sv (Value.int IntKind.i64 (GV.b x26.1))]=AV.agg [AV.sv (Value.int IntKind.u64 (GV.n x26.1)),AV.sv (Value.string (GV.s x26.1)),AV.sv (Value.slice (GV.x x26.1).1 (qgo x26) (qiw x26)),AV.sv (Value.slice (GV.y x26.1).1 (qgn x26) (qgw x26)),AV.sv (Value.int IntKind.i64 (GV.b x26.1))]
 abbrev qmt:=x1.1=x28.2.2.2.2.1.1/\x1.2.1=x28.2.2.2.2.1.2.1/\x1.2.2=x28.2.2.2.2.1.2.2/\x31
 abbrev zcq25:=zcq33 x26/\∀(i0 i1 i2:Nat),(∃(i3:Pub),((q20 x1 x3 x6 x7 i3)/\GV.ok x26.1 i3)/\q02 i3 (Addr.mk i0 i1 none) [Value.int IntKind.u64 (GV.n x26.1),Value.string (GV.s x26.1),Value.slice (GV.x x26.1).1 (qgo x26) (qiw x26),Value.slice (GV.y x26.1).1 (qgn x26) (qgw x26),Value.int IntKind.i64 (GV.b x26.1)])->∃(i4:AvB),qfe i4 ((GV.x i4.1).1=some (Addr.mk i0 (i1+nat_lit 0) none)/\(GV.x i4.1).2.1=nat_lit 1/\(GV.x i4.1).2.2=nat_lit 1/\qn8 i4 (GV.b i4.1=q0s x27 x2 (↑x8:Int)/\i4.2.1=true/\qmt x7 x28 (i4.2.2=x26.2.2/\qil x4 x3 x5 x2 x6 i4/\(∀(i5:Pub),(((q20 x1 x3 x6 x7 i5)/\GV.ok x26.1 i5)/\∀(i6:Nat) (i7:Value),[Value.int IntKind.u64 (GV.n x26.1),Value.string (GV.s x26.1),Value.slice (GV.x x26.1).1 (qgo x26) (qiw x26),Value.slice (GV.y x26.1).1 (qgn x26) (qgw x26),Value.int IntKind.i64 (GV.b x26.1)][i6]? =some i7->q2q i5 (Addr.add (Addr.mk i0 i1 none) i6)=some i7)->GV.ok i4.1 i5)/\True)))
 abbrev zcq14:=(x26.2.1=true->zcq25 x1 x2 x3 x4 x5 x6 x7 x8 x26 x27 x28)/\(x26.2.1=false->∃(i8:AvB),qfe i8 (qqf i8 (i8.2.1=true/\qmt x7 x28 (i8.2.2=x26.2.2/\qil x4 x3 x5 x2 x6 i8/\(∀(i9:Pub),(q20 x1 x3 x6 x7 i9)/\GV.ok x26.1 i9->GV.ok i8.1 i9)/\True))))
 abbrev zcq34:=(0<=q0s x6 x2 (↑x8:Int)/\q0s x6 x2 (↑x8:Int)<(↑x8:Int))/\x11≠noA/\∃(i0:Int),(∀(i1:Pub),q20 x1 x3 x27 x7 i1->q02 i1 (adr x11 (Int.toNat (q0s x6 x2 (↑x8:Int))*1)) [Value.int IntKind.i64 i0])/\zcq45 x4/\∃(i2:AvS),zcq30 x1 i0 x4 x7 i2 (i2.2.2.2.2.2.2=q0f x6 x2/\zcq28 x10 i2/\(∀(i3:Pub),q20 x1 x3 x27 x7 i3->zcq42 i2 i3)/\∀(i4:AvB),q0w i2.1 i2.2.2.1 i2.2.2.2.1 i2.2.2.2.2.2.1 i2.2.2.2.2.2.2 i4.1 i4.2.1 i4.2.2->(∃(i5:Pub),(q20 x1 x3 x27 x7 i5)/\GV.ok i4.1 i5)->zcq14 x1 x2 x3 x5 x4 x27 x7 x8 i4 x6 i2)
 abbrev qpa:=x2=x2/\x13=x13/\x11=x11/\x8=x8/\x10=x10/\x4=x4/\x14=x14/\x12=x12/\x15=x15/\x0=x0/\x20=x20/\x5=x5/\x18=x18/\x16=x16/\x19=x19/\x22=x22/\x23=x23/\x24=x24/\(∀(i0:Pub),q20 x1 x3 x6 x7 i0->q20 x1 x3 x6 x7 i0)/\x31
 abbrev zcq21:=List.length (q00 GV.cells x29.2.2)=List.length x29.2.2*5/\(List.length x29.2.2+nat_lit 1)*80<=140737488355328/\((-9223372036854775808:Int)<=(↑x29.1:Int)+1/\(↑x29.1:Int)+1<=9223372036854775807)/\∃(i0:Nat×Int×List GV),x2=x2/\(↑i0.1:Int)=(↑x29.1:Int)+1/\qmt x1 x28 (i0.2.1=x26.2.2/\List.length i0.2.2=List.length x29.2.2+nat_lit 1/\q2m x7 (x4=x4/\x13=x13/\x11=x11/\x8=x8/\x10=x10/\x5=x5/\x14=x14/\x12=x12/\x15=x15/\x0=x0/\x20=x20/\x9=x9/\x18=x18/\x16=x16/\x19=x19/\x22=x22/\x23=x23/\x24=x24/\q00 GV.cells i0.2.2=q00 GV.cells x29.2.2++[Value.int IntKind.u64 (GV.n x26.1),Value.string (GV.s x26.1),Value.slice (GV.x x26.1).1 (qgo x26) (qiw x26),Value.slice (GV.y x26.1).1 (qgn x26) (qgw x26),Value.int IntKind.i64 (GV.b x26.1)]/\(∀(i1:Pub),((q20 x7 x3 x6 x1 i1)/\GV.oks x29.2.2 i1)/\GV.ok x26.1 i1->q20 x7 x3 x6 x1 i1)/\(∀(i2:Pub),((q20 x7 x3 x6 x1 i2)/\GV.oks x29.2.2 i2)/\GV.ok x26.1 i2->GV.oks i0.2.2 i2)/\reI x3 (atS x3 x17) x6 x2 x21 i0.1 i0.2.1 (GV.pvs i0.2.2)/\List.length (AT.fs (atS x3 x17))- i0.1<List.length (AT.fs (atS x3 x17))- x29.1/\True))
 abbrev zcq35:=(0<=(↑x29.1:Int)/\(↑x29.1:Int)<(↑x8:Int))/\x11≠noA/\∃(i0:Int),(∀(i1:Pub),(q20 x1 x3 x6 x7 i1)/\GV.oks x29.2.2 i1->q02 i1 (Addr.add (adr x11 (Int.toNat (↑x29.1:Int)*9)) 2) [Value.int IntKind.i64 i0])/\zcq45 x2/\∃(i2:AvS),zcq30 x1 i0 x2 x7 i2 (i2.2.2.2.2.2.2=x29.2.1/\zcq28 x10 i2/\(∀(i3:Pub),(q20 x1 x3 x6 x7 i3)/\GV.oks x29.2.2 i3->zcq42 i2 i3)/\∀(i4:AvB),q0w i2.1 i2.2.2.1 i2.2.2.2.1 i2.2.2.2.2.2.1 i2.2.2.2.2.2.2 i4.1 i4.2.1 i4.2.2->(∃(i5:Pub),((q20 x1 x3 x6 x7 i5)/\GV.oks x29.2.2 i5)/\GV.ok i4.1 i5)->zcq21 x0 x7 x2 x3 x4 x5 x6 x1 x12 x9 x15 x14 x16 x13 x18 x19 x8 x17 x11 x23 x20 x21 x22 x24 x25 i4 i2 x29)
 abbrev zcq18:=(zcq35 x0 x1 x2 x3 x4 x5 x6 x7 x8 x9 x10 x11 x12 x13 x14 x15 x16 x17 x18 x19 x20 x21 x22 x23 x24 x25 x29)/\zcq35 x0 x1 x2 x3 x4 x5 x6 x7 x8 x9 x10 x11 x12 x13 x14 x15 x16 x17 x18 x19 x20 x21 x22 x23 x24 x25 x29
 abbrev zcq16:=(decide ((↑x29.1:Int)<(↑x8:Int))=true->zcq18 x0 x1 x2 x3 x4 x5 x6 x7 x8 x9 x10 x11 x12 x13 x14 x15 x16 x17 x18 x19 x20 x21 x22 x23 x24 x25 x29)/\(decide ((↑x29.1:Int)<(↑x8:Int))=false->∀(i18 i19 i20:Nat) (i21:Option Addr) (i22 i23:Nat),(∃(i24:Pub),((q20 x1 x3 x6 x7 i24)/\GV.oks x29.2.2 i24)/\List.length x29.2.2<=i23/\q1l i24 i21 (List.take (List.length x29.2.2*nat_lit 5) (q00 GV.cells x29.2.2)))->∃(i25:AvB),qfe i25 ((GV.x i25.1).1=i21/\(GV.x i25.1).2.1=List.length x29.2.2/\(GV.x i25.1).2.2=i23/\qn8 i25 (GV.b i25.1=0/\i25.2.1=true/\q2m x7 (i25.2.2=x29.2.1/\qil x17 x3 x2 x21 x6 i25/\(∀(i26:Pub),((q20 x1 x3 x6 x7 i26)/\GV.oks x29.2.2 i26)/\List.length x29.2.2<=i23/\q1l i26 i21 (List.take (List.length x29.2.2*nat_lit 5) (q00 GV.cells x29.2.2))->GV.ok i25.1 i26)/\True))))
 abbrev zcq15:=(∃(i0:Nat×Int×List GV),x2=x2/\(↑i0.1:Int)=0/\q2m x1 (i0.2.1=x4/\List.length i0.2.2=0/\q2m x7 (qpa x0 x7 x5 x3 x9 x17 x6 x1 x8 x10 x11 x12 x13 x14 x15 x16 x18 x19 x20 x22 x23 x24 ((∀(i2:Pub),q20 x7 x3 x6 x1 i2->GV.oks i0.2.2 i2)/\reI x3 (atS x3 x21) x6 x2 x4 i0.1 i0.2.1 (GV.pvs i0.2.2)/\True))))/\∀(i3:Nat×Int×List GV),reI x3 (atS x3 x21) x6 x2 x4 i3.1 i3.2.1 (GV.pvs i3.2.2)->(∃(i4:Pub),(q20 x7 x3 x6 x1 i4)/\GV.oks i3.2.2 i4)->zcq16 x0 x7 x2 x3 x5 x9 x6 x1 x16 x17 x25 x18 x8 x13 x11 x10 x12 x21 x14 x15 x20 x4 x22 x19 x23 x24 i3
 abbrev qig:=((q20 x1 x3 x6 x7 x32)/\GV.oks x30.2.2 x32)/\GV.ok x26.1 x32
 abbrev qrh:=List.length x30.2.2<=x8/\q1l x32 x11 (List.take (List.length x30.2.2*nat_lit 5) (q00 GV.cells x30.2.2))
 abbrev zcq52:=(GV.x x26.1).1=x11/\(GV.x x26.1).2.1=List.length x30.2.2/\(GV.x x26.1).2.2=x8/\x31
 abbrev zcq31:=List.length (q00 GV.cells x30.2.2)=List.length x30.2.2*5/\(List.length x30.2.2+nat_lit 1)*80<=140737488355328/\((-9223372036854775808:Int)<=x30.1- 1/\x30.1- 1<=9223372036854775807)/\∃(i0:Int×Int×List GV),x2=x2/\i0.1=x30.1- 1/\qmt x1 x28 (i0.2.1=x26.2.2/\List.length i0.2.2=List.length x30.2.2+nat_lit 1/\q2m x7 (x4=x4/\x13=x13/\x11=x11/\x8=x8/\x10=x10/\x5=x5/\x14=x14/\x12=x12/\x15=x15/\x0=x0/\x20=x20/\x9=x9/\x18=x18/\x16=x16/\x19=x19/\x22=x22/\x23=x23/\x24=x24/\q00 GV.cells i0.2.2=q00 GV.cells x30.2.2++[Value.int IntKind.u64 (GV.n x26.1),Value.string (GV.s x26.1),Value.slice (GV.x x26.1).1 (qgo x26) (qiw x26),Value.slice (GV.y x26.1).1 (qgn x26) (qgw x26),Value.int IntKind.i64 (GV.b x26.1)]/\(∀(i1:Pub),qig x7 x3 x6 x1 x26 x30 i1->q20 x7 x3 x6 x1 i1)/\(∀(i2:Pub),qig x7 x3 x6 x1 x26 x30 i2->GV.oks i0.2.2 i2)/\arI x3 (atS x3 x17) x6 x2 x21 i0.1 i0.2.1 (GV.pvs i0.2.2)/\Int.toNat i0.1<Int.toNat x30.1/\True))
 abbrev zcq23:=(decide (x2=12)=true->zcq31 x0 x1 x4 x3 x2 x5 x6 x7 x8 x9 x10 x11 x12 x13 x14 x15 x16 x17 x18 x19 x20 x21 x22 x23 x24 x26 x28 x30)/\(decide (x2=12)=false->∃(i3:List Int),(5:Int)=5/\x28.2.2.2.2.1.1=x28.2.2.2.2.1.1/\x28.2.2.2.2.1.2.1=x28.2.2.2.2.1.2.1/\x28.2.2.2.2.1.2.2=x28.2.2.2.2.1.2.2/\x26.2.2=x26.2.2/\(0<=x26.2.2/\x26.2.2<=(↑(List.length i3):Int)/\(0:Int)<5/\(5:Int)<1000000/\q0t i3)/\(∀(i4:Pub),qig x7 x3 x6 x1 x26 x30 i4->slP byV (x28.2.2.2.2.1.1,x28.2.2.2.2.1.2.1,x28.2.2.2.2.1.2.2) i3 i4)/\((-9223372036854775808:Int)<=97+q0s i3 x26.2.2 5/\(97:Int)+q0s i3 x26.2.2 (5:Int)<=9223372036854775807)/\∃(i5:ByteArray),ByteArray.size i5=1/\qod [Value.int IntKind.u8 (IntKind.wrap IntKind.u8 ((97:Int)+q0s i3 x26.2.2 5))] 0 (q1f i5)/\ByteArray.size (mkS [107])+ByteArray.size i5<=9223372036854775807/\AV.agg [AV.int IntKind.u64 0,AV.str [],AV.ssl (nat_lit 40) (nat_lit 0) (List.length x30.2.2) (nat_lit 5) (nat_lit 41),AV.nsl,AV.int IntKind.i64 0]=AV.agg [AV.int IntKind.u64 0,AV.str [],AV.ssl (nat_lit 40) (nat_lit 0) (List.length x30.2.2) (nat_lit 5) (nat_lit 41),AV.nsl,AV.int IntKind.i64 0]/\zcq33 x26/\∃(i6:GV×ByteArray×GV),GV.n i6.1=0/\GV.s i6.1=mkS []/\False)
 abbrev zcq20:=((!x26.2.1)=true->∀(i0 i1 i2:Nat) (i3:Option Addr) (i4 i5:Nat),(∃(i6:Pub),(qig x1 x3 x6 x7 x26 x30 i6)/\qrh i5 i3 x30 i6)->∃(i7:AvB),qfe i7 (zcq52 i5 i3 i7 x30 (qn8 i7 (GV.b i7.1=0/\i7.2.1=true/\qmt x7 x28 (i7.2.2=x26.2.2/\qil x2 x3 x4 x5 x6 i7/\(∀(i8:Pub),(qig x1 x3 x6 x7 x26 x30 i8)/\qrh i5 i3 x30 i8->GV.ok i7.1 i8)/\True)))))/\((!x26.2.1)=false->zcq23 x0 x7 x9 x3 x4 x17 x6 x1 x8 x21 x10 x11 x12 x13 x14 x15 x16 x2 x18 x19 x20 x5 x22 x23 x24 x26 x28 x30)
 abbrev zcq19:=zcq45 x2/\∃(i0:AvS),zcq30 x1 x4 x2 x7 i0 (i0.2.2.2.2.2.2=x30.2.1/\zcq28 x8 i0/\(∀(i1:Pub),(q20 x1 x3 x6 x7 i1)/\GV.oks x30.2.2 i1->zcq42 i0 i1)/\∀(i2:AvB),q0w i0.1 i0.2.2.1 i0.2.2.2.1 i0.2.2.2.2.2.1 i0.2.2.2.2.2.2 i2.1 i2.2.1 i2.2.2->(∃(i3:Pub),qig x1 x3 x6 x7 i2 x30 i3)->zcq20 x0 x1 x5 x3 x2 x9 x6 x7 x10 x17 x12 x11 x15 x13 x14 x16 x19 x4 x18 x23 x20 x21 x22 x24 x25 i2 i0 x30)
 abbrev zcq17:=(decide (0<x30.1)=true->zcq19 x0 x1 x2 x3 x4 x5 x6 x7 x8 x9 x10 x11 x12 x13 x14 x15 x16 x17 x18 x19 x20 x21 x22 x23 x24 x25 x30)/\(decide (0<x30.1)=false->∀(i20 i21 i22:Nat) (i23:Option Addr) (i24 i25:Nat),(∃(i26:Pub),((q20 x1 x3 x6 x7 i26)/\GV.oks x30.2.2 i26)/\qrh i25 i23 x30 i26)->∃(i27:AvB),qfe i27 (zcq52 i25 i23 i27 x30 (qn8 i27 (GV.b i27.1=0/\i27.2.1=true/\q2m x7 (i27.2.2=x30.2.1/\qil x5 x3 x2 x9 x6 i27/\(∀(i28:Pub),((q20 x1 x3 x6 x7 i28)/\GV.oks x30.2.2 i28)/\qrh i25 i23 x30 i28->GV.ok i27.1 i28)/\True)))))
 abbrev zcq13:=(qlt x2=true->∃(i0:List Int),(4:Int)=4/\q2m x1 (qhz x7 x4 x3 4 i0 x1 x6 ((∃(i2:Int×Int×List GV),x5=x5/\i2.1=q0s i0 x4 4/\q2m x1 (i2.2.1=q0f i0 x4/\List.length i2.2.2=0/\q2m x7 (qpa x0 x7 x2 x3 x9 x17 x6 x1 x8 x10 x11 x12 x13 x14 x15 x16 x18 x19 x20 x22 x23 x24 ((∀(i4:Pub),q20 x7 x3 x6 x1 i4->GV.oks i2.2.2 i4)/\arI x3 (atS x3 x21) x6 x5 x4 i2.1 i2.2.1 (GV.pvs i2.2.2)/\True))))/\∀(i5:Int×Int×List GV),arI x3 (atS x3 x21) x6 x5 x4 i5.1 i5.2.1 (GV.pvs i5.2.2)->(∃(i6:Pub),(q20 x7 x3 x6 x1 i6)/\GV.oks i5.2.2 i6)->zcq17 x0 x7 x5 x3 x9 x21 x6 x1 x25 x4 x8 x11 x10 x13 x14 x12 x15 x2 x18 x16 x20 x17 x22 x19 x23 x24 i5)))/\(qlt x2=false->∃(i36:AvB),qfe i36 (qqf i36 (i36.2.1=true/\q2m x1 (i36.2.2=x4/\zcq53 x7 x21 x3 x5 x4 x6 x1 i36))))
 abbrev zcq12:=((decide (x2=12)=true->∃(i0:Unit),x4=x4/\qlt x2=decide (x2=12)/\x2=x2/\q2m x1 (x5=x5/\q2m x7 (qpa x0 x7 x2 x3 x9 x17 x6 x1 x8 x10 x11 x12 x13 x14 x15 x16 x18 x19 x20 x22 x23 x24 (True/\True))))/\(decide (x2=12)=false->∃(i2:Unit),x4=x4/\qlt x2=decide (x2=13)/\x2=x2/\q2m x1 (x5=x5/\q2m x7 (qpa x0 x7 x2 x3 x9 x17 x6 x1 x8 x10 x11 x12 x13 x14 x15 x16 x18 x19 x20 x22 x23 x24 (True/\True)))))/\∀(i4:Unit),True->zcq13 x0 x1 x2 x3 x5 x4 x6 x7 x8 x9 x10 x11 x12 x13 x14 x15 x16 x17 x18 x19 x20 x21 x22 x23 x24 x25
 abbrev zcq11:=(decide (x2=9)=true->zcq15 x0 x1 x4 x3 x5 x2 x6 x7 x8 x9 x10 x11 x12 x13 x14 x15 x16 x17 x18 x19 x20 x21 x22 x23 x24 x25)/\(decide (x2=9)=false->zcq12 x0 x1 x2 x3 x4 x5 x6 x7 x8 x9 x10 x11 x12 x13 x14 x15 x16 x17 x18 x19 x20 x21 x22 x23 x24 x25)
 abbrev zcq10:=(decide (x2=14)=true->∃(i0:List Int),(↑x8:Int)=(↑x8:Int)/\q2m x1 (zcq50 x4 i0 x8 (qvf x7 x3 x6 x1 i0/\(zcq34 x7 x4 x3 x5 x9 i0 x1 x8 x10 x11 x6)/\zcq34 x7 x4 x3 x5 x9 i0 x1 x8 x10 x11 x6)))/\(decide (x2=14)=false->zcq11 x0 x1 x2 x3 x5 x4 x6 x7 x12 x17 x15 x14 x16 x13 x18 x19 x23 x21 x22 x24 x20 x9 x11 x8 x25 x10)
 abbrev zcq9:=(decide (x2=10)=true->∃(i0:List Int),(↑x8:Int)=(↑x8:Int)/\q2m x1 (zcq50 x4 i0 x8 (qvf x7 x3 x6 x1 i0/\∃(i2:AvB),GV.n i2.1=IntKind.wrap IntKind.u64 (q0s i0 x4 (↑x8:Int))/\GV.s i2.1=mkS []/\qhl x1 x4 x3 x5 x9 i0 x7 i2 x6)))/\(decide (x2=10)=false->zcq10 x0 x1 x2 x3 x4 x9 x6 x7 x10 x5 x12 x11 x15 x13 x14 x16 x8 x17 x18 x19 x20 x21 x22 x23 x24 x25)
 abbrev zcq8:=(decide (x2=7)=true->∃(i0:List Int),(4:Int)=4/\q2m x1 (qhz x7 x4 x3 4 i0 x1 x6 ((0<=q0s i0 x4 4/\q0s i0 x4 (4:Int)<(↑(nat_lit 4):Int))/\∃(i2:ByteArray),(∀(i3:Nat) (i4:Value),[Value.string i2][i3]? =some i4->[Value.string (mkS []),Value.string (mkS [255]),Value.string (mkS [0]),Value.string (mkS [98])][nat_lit 0+Int.toNat (q0s i0 x4 4)*1+i3]? =some i4)/\∃(i5:AvB),GV.n i5.1=0/\GV.s i5.1=i2/\qhl x1 x4 x3 x5 x9 i0 x7 i5 x6)))/\(decide (x2=7)=false->zcq9 x0 x1 x2 x3 x4 x5 x6 x7 x8 x9 x10 x11 x12 x13 x14 x15 x16 x17 x18 x19 x20 x21 x22 x23 x24 x25)
 abbrev zcq7:=(decide (x2=8)=true->∃(i0:List Int),(4:Int)=4/\q2m x1 (qhz x7 x4 x3 4 i0 x1 x6 ((0<=q0s i0 x4 4/\q0s i0 x4 (4:Int)<(↑(nat_lit 4):Int))/\∃(i2:ByteArray),(∀(i3:Nat) (i4:Value),[Value.string i2][i3]? =some i4->[Value.string (mkS []),Value.string (mkS [97]),Value.string (mkS [195,164]),Value.string (mkS [116,101,120,116])][nat_lit 0+Int.toNat (q0s i0 x4 4)*1+i3]? =some i4)/\∃(i5:AvB),GV.n i5.1=0/\GV.s i5.1=i2/\qhl x1 x4 x3 x5 x9 i0 x7 i5 x6)))/\(decide (x2=8)=false->zcq8 x0 x1 x2 x3 x4 x5 x6 x7 x8 x9 x10 x11 x12 x13 x14 x15 x16 x17 x18 x19 x20 x21 x22 x23 x24 x25)
 abbrev zcq6:=(decide (x2=6)=true->∃(i0:List Int),(5:Int)=5/\q2m x1 (qhz x7 x4 x3 5 i0 x1 x6 ((0<=q0s i0 x4 5/\q0s i0 x4 (5:Int)<(↑(nat_lit 5):Int))/\∃(i2:Int),(∀(i3:Nat) (i4:Value),[Value.int IntKind.u64 i2][i3]? =some i4->[Value.int IntKind.u64 0,Value.int IntKind.u64 4607182418800017408,Value.int IntKind.u64 1,Value.int IntKind.u64 9223372036854775808,Value.int IntKind.u64 9218868437227405312][nat_lit 0+Int.toNat (q0s i0 x4 5)*1+i3]? =some i4)/\∃(i5:AvB),GV.n i5.1=i2/\GV.s i5.1=mkS []/\qhl x1 x4 x3 x5 x9 i0 x7 i5 x6)))/\(decide (x2=6)=false->zcq7 x0 x1 x2 x3 x4 x5 x6 x7 x8 x9 x10 x11 x12 x13 x14 x15 x16 x17 x18 x19 x20 x21 x22 x23 x24 x25)
 abbrev zcq5:=qye x1 x2 x3 x4 x5 x6 x7 x9 5 1065353216 2139095040 1 3212836864 2143289345 2147483648/\(decide (x2=5)=false->zcq6 x0 x1 x2 x3 x4 x5 x6 x7 x8 x9 x10 x11 x12 x13 x14 x15 x16 x17 x18 x19 x20 x21 x22 x23 x24 x25)
 abbrev zcq4:=qye x1 x2 x3 x4 x5 x6 x7 x9 4 1 18446744073709551615 1099511627776 9223372036854775807 9223372036854775808 9007199254740993/\(decide (x2=4)=false->zcq5 x0 x1 x2 x3 x4 x5 x6 x7 x8 x9 x10 x11 x12 x13 x14 x15 x16 x17 x18 x19 x20 x21 x22 x23 x24 x25)
 abbrev zcq3:=qye x1 x2 x3 x4 x5 x6 x7 x9 3 1 18446744073709551615 300 2147483647 18446744071562067968 16777217/\(decide (x2=3)=false->zcq4 x0 x1 x2 x3 x4 x5 x6 x7 x8 x9 x10 x11 x12 x13 x14 x15 x16 x17 x18 x19 x20 x21 x22 x23 x24 x25)
 abbrev zcq2:=(0<=x2/\x2<(↑x1.2.1:Int))/\x1.1≠noA/\∃(i0:Int),∃(i1:ByteArray),∃(i2:Option Addr),∃(i3:Nat),∃(i4:Nat),∃(i5:Int),∃(i6:Option Addr),∃(i7:Nat),∃(i8:Nat),∃(i9:Bool),∃(i10:ByteArray),∃(i11:Int),∃(i12:Option Addr),∃(i13:Nat),∃(i14:Nat),∃(i15:Option Addr),∃(i16:Nat),∃(i17:Nat),(∀(i18:Pub),q20 x1 x3 x6 x7 i18->q02 i18 (adr x1.1 (Int.toNat x2*10)) [Value.int IntKind.i64 i0,Value.string i1,Value.slice i2 i3 i4,Value.int IntKind.i64 i5,Value.slice i6 i7 i8,Value.bool i9,Value.string i10,Value.int IntKind.i64 i11,Value.slice i12 i13 i14,Value.slice i15 i16 i17])/\(decide (i0=2)=true->∃(i19:List Int),(2:Int)=2/\q2m x7 (qhz x1 x4 x3 2 i19 x7 x6 (∃(i21:AvB),GV.n i21.1=IntKind.wrap IntKind.u64 (q0s i19 x4 2)/\GV.s i21.1=mkS []/\qhl x7 x4 x3 x2 x5 i19 x1 i21 x6)))/\(decide (i0=2)=false->zcq3 i9 x7 i0 x3 x4 x2 x6 x1 i7 x5 i16 i15 x8 i1 i2 i3 i4 i5 i6 i8 i10 i11 i12 i13 i14 i17)
 abbrev zcq1:=(decide (5<x2)=true->qxe x0 x1 x4 x3 x5 x2 x6 x7)/\(decide (5<x2)=false->∃(i2:List Int),q2m x1 (x4=x4/\True/\qvf x7 x3 x6 x1 i2/\(decide ((↑(List.length i2):Int)<=x4)=true->qxe x0 x1 x4 x3 x5 x2 x6 x7)/\(decide ((↑(List.length i2):Int)<=x4)=false->zcq2 x7 x5 x3 x4 x2 x6 x1 x8)))
 abbrev zcq0:=((!x0)=true->qxe x0 x1 x2 x3 x4 x5 x6 x7)/\((!x0)=false->zcq1 x0 x1 x5 x3 x2 x4 x6 x7 x8)
end
theorem qs2(c:Nat) (S:List AT) (x:SV) (t d:Int) (y:SV) (L:List Int) (n:Int):q68 P (q0r [(37,cNum),(36,qrr)]) (q1s [(14,(q7w qoq).below qiu c),(35,qpg),(38,cPut)]) Try.f14 ((q7w is12).below qiu (c+1)) (wAVal true) ⟨S,x,t,d,y,L,n⟩=(qiu (S,x,t,d,y,L,n)<c+1/\q0j S/\(0<=t/\t<(↑(List.length S):Int))/\is12 (atS S t)/\(0<=d/\d<=6)/\0<=n/\n<=(↑(List.length L):Int)/\q0t L->(∃(p:Pub),True/\q0l S x p/\slP byV y L p)->∃(s:List AT×(Option Addr×Nat×Nat)×Int),s.2.1.1=x.1/\s.2.1.2.1=x.2.1/\s.2.1.2.2=x.2.2/\s.2.2=t/\(q0j s.1/\AT.k (atS s.1 s.2.2)=12)/\(∀(p:Pub),True/\q0l S x p/\slP byV y L p->q0l s.1 s.2.1 p)/\∀(b:Bool),b=lsB s.1 s.2.2->(∃(p:Pub),q20 x S L y p)->zcq0 b y n S t d L x c):=by kernel_rfl
def qwv(c:Nat) (S:List AT) (x:SV) (t d:Int) (y:SV) (L:List Int) (n:Int):=Eq.trans (qs2 c S x t d y L n) (by delta q20 qfe qn8 qqf q2m qil zcq53 qxe qvf qhz qhl qye zcq50 zcq45 zcq30 zcq28 zcq42 qgo qiw qgn qgw zcq33 qmt zcq25 zcq14 zcq34 qpa zcq21 zcq35 zcq18 zcq16 zcq15 qig qrh zcq52 zcq31 zcq23 zcq20 zcq19 zcq17 zcq13 zcq12 zcq11 zcq10 zcq9 zcq8 zcq7 zcq6 zcq5 zcq4 zcq3 zcq2 zcq1 zcq0;exact rfl)
noncomputable section
variable (x0:GV×Bool) (x1:SV) (x2:Int) (x3:List AT) (x4:Int) (x5:Int) (x6:List Int) (x7:SV) (x8:Nat) (x9:Int) (x10:Nat) (x11:Option Addr) (x12:Nat) (x13:ByteArray) (x14:Option Addr) (x15:Nat) (x16:Nat) (x17:Int) (x18:Option Addr) (x19:Nat) (x20:Bool) (x21:ByteArray) (x22:Int) (x23:Option Addr) (x24:Nat) (x25:Nat) (x26:Nat) (x27:AvB) (x28:List Int) (x29:AvS) (x30:Int×Int×GV) (x31:Nat×Int×List GV) (x32:Prop) (x33:Int) (x34:Int) (x35:Int) (x36:Int) (x37:Int) (x38:Nat->Option Obj) (x39:GV)
 abbrev q1v:=(True/\q0l x3 x1 x38/\slP byV x7 x6 x38)/\GV.ok x0.1 x38
 abbrev qo1:=GV.n x27.1=GV.n x0.1/\GV.s x27.1=GV.s x0.1/\x32
 abbrev qyz:=(GV.y x27.1).1=(GV.y x0.1).1/\(GV.y x27.1).2.1=(GV.y x0.1).2.1/\(GV.y x27.1).2.2=(GV.y x0.1).2.2/\x32
 abbrev qsp:=(GV.x x27.1).1=(GV.x x0.1).1/\(GV.x x27.1).2.1=(GV.x x0.1).2.1/\(GV.x x27.1).2.2=(GV.x x0.1).2.2/\qyz x0 x27 (GV.b x27.1=GV.b x0.1/\x32)
 abbrev q2l:=x1.1=x1.1/\x1.2.1=x1.2.1/\x1.2.2=x1.2.2/\x32
 abbrev qci:=q0w x3 x2 x4 x6 x5 x27.1 x27.2.1 x27.2.2
 abbrev qzm:=∃(i0:AvB),qo1 x0 i0 (qsp x0 i0 (i0.2.1=x0.2/\q2l x1 (i0.2.2=x2/\qci x4 x3 x5 x2 x6 i0/\(∀(i1:Pub),q1v x0 x7 x3 x6 x1 i1->GV.ok i0.1 i1)/\True)))
 abbrev qpv:=(∀(i0:Pub),q1v x0 x1 x3 x6 x7 i0->slP byV (x7.1,x7.2.1,x7.2.2) x28 i0)
 abbrev qhr:=x2=x2/\(0<=x2/\x2<=(↑(List.length x6):Int)/\0<x4/\x4<1000000/\q0t x6)/\qpv x0 x1 x3 x28 x7 x6/\x32
 abbrev qis:=qsp x0 x27 (x27.2.1=true/\q2l x1 (x27.2.2=q0f x6 x2/\qci x4 x3 x5 x2 x28 x27/\(∀(i0:Pub),q1v x0 x7 x3 x28 x1 i0->GV.ok x27.1 i0)/\True))
 abbrev qxh:=(decide (x2=x17)=true->∃(i0:List Int),(7:Int)=7/\q2l x1 (qhr x0 x7 x4 x3 7 i0 x1 x6 ((0<=q0s i0 x4 7/\q0s i0 x4 (7:Int)<(↑(nat_lit 7):Int))/\∃(i2:Int),(∀(i3:Nat) (i4:Value),[Value.int IntKind.u64 i2][i3]? =some i4->[Value.int IntKind.u64 0,Value.int IntKind.u64 x22,Value.int IntKind.u64 x33,Value.int IntKind.u64 x34,Value.int IntKind.u64 x35,Value.int IntKind.u64 x36,Value.int IntKind.u64 x37][nat_lit 0+Int.toNat (q0s i0 x4 7)*1+i3]? =some i4)/\∃(i5:AvB),GV.n i5.1=i2/\GV.s i5.1=GV.s x0.1/\qis x0 x1 x4 x3 x5 x9 i0 x7 i5 x6)))
 abbrev zcr52:=x2=x2/\(0<=x2/\x2<=(↑(List.length x6):Int)/\0<(↑x8:Int)/\(↑x8:Int)<1000000/\q0t x6)/\x32
 abbrev qzq:=((-9223372036854775808:Int)<=x2+1/\x2+1<=9223372036854775807)
 abbrev zcr30:=x29.2.1.1=x1.1/\x29.2.1.2.1=x1.2.1/\x29.2.1.2.2=x1.2.2/\x29.2.2.1=x2/\x29.2.2.2.1=x4+1/\x29.2.2.2.2.1.1=x7.1/\x29.2.2.2.2.1.2.1=x7.2.1/\x29.2.2.2.2.1.2.2=x7.2.2/\x32
 abbrev zcr29:=(qiu x29<x8/\q0j x29.1/\(0<=x29.2.2.1/\x29.2.2.1<(↑(List.length x29.1):Int))/\qoq (atS x29.1 x29.2.2.1)/\(0<=x29.2.2.2.1/\x29.2.2.2.1<=6)/\0<=x29.2.2.2.2.2.2/\x29.2.2.2.2.2.2<=(↑(List.length x29.2.2.2.2.2.1):Int)/\q0t x29.2.2.2.2.2.1)
 abbrev zcr43:=q0l x29.1 x29.2.1 x38/\slP byV x29.2.2.2.2.1 x29.2.2.2.2.2.1 x38
 abbrev zcr50:=Value.slice (GV.x x27.1).1 (GV.x x27.1).2.1 (GV.x x27.1).2.2
 abbrev zcr51:=Value.slice (GV.y x27.1).1 (GV.y x27.1).2.1 (GV.y x27.1).2.2
 abbrev zcr33:=AV.agg [AV.sv (Value.int IntKind.u64 (GV.n x27.1)),AV.sv (Value.string (GV.s x27.1)),AV.sv (zcr50 x27),AV.sv (zcr51 x27),AV.sv (Value.int IntKind.i64 (GV.b x27.1))]=AV.agg [AV.sv (Value.int IntKind.u64 (GV.n x27.1)),AV.sv (Value.string (GV.s x27.1)),AV.sv (zcr50 x27),AV.sv (zcr51 x27),AV.sv (Value.int IntKind.i64 (GV.b x27.1))]
 abbrev qls:=x1.1=x29.2.2.2.2.1.1/\x1.2.1=x29.2.2.2.2.1.2.1/\x1.2.2=x29.2.2.2.2.1.2.2/\x32
 abbrev zcr25:=zcr33 x27/\∀(i0 i1 i2:Nat),(∃(i3:Pub),((q1v x0 x1 x3 x6 x7 i3)/\GV.ok x27.1 i3)/\q02 i3 (Addr.mk i0 i1 none) [Value.int IntKind.u64 (GV.n x27.1),Value.string (GV.s x27.1),Value.slice (GV.x x27.1).1 (GV.x x27.1).2.1 (GV.x x27.1).2.2,Value.slice (GV.y x27.1).1 (GV.y x27.1).2.1 (GV.y x27.1).2.2,Value.int IntKind.i64 (GV.b x27.1)])->∃(i4:AvB),qo1 x0 i4 ((GV.x i4.1).1=some (Addr.mk i0 (i1+nat_lit 0) none)/\(GV.x i4.1).2.1=nat_lit 1/\(GV.x i4.1).2.2=nat_lit 1/\qyz x0 i4 (GV.b i4.1=q0s x28 x2 (↑x8:Int)/\i4.2.1=true/\qls x7 x29 (i4.2.2=x27.2.2/\qci x4 x3 x5 x2 x6 i4/\(∀(i5:Pub),(((q1v x0 x1 x3 x6 x7 i5)/\GV.ok x27.1 i5)/\∀(i6:Nat) (i7:Value),[Value.int IntKind.u64 (GV.n x27.1),Value.string (GV.s x27.1),Value.slice (GV.x x27.1).1 (GV.x x27.1).2.1 (GV.x x27.1).2.2,Value.slice (GV.y x27.1).1 (GV.y x27.1).2.1 (GV.y x27.1).2.2,Value.int IntKind.i64 (GV.b x27.1)][i6]? =some i7->q2q i5 (Addr.add (Addr.mk i0 i1 none) i6)=some i7)->GV.ok i4.1 i5)/\True)))
 abbrev zcr15:=(x27.2.1=true->zcr25 x0 x1 x2 x3 x4 x5 x6 x7 x8 x27 x28 x29)/\(x27.2.1=false->∃(i8:AvB),qo1 x0 i8 (qsp x0 i8 (i8.2.1=true/\qls x7 x29 (i8.2.2=x27.2.2/\qci x4 x3 x5 x2 x6 i8/\(∀(i9:Pub),(q1v x0 x1 x3 x6 x7 i9)/\GV.ok x27.1 i9->GV.ok i8.1 i9)/\True))))
 abbrev zcr34:=(0<=q0s x6 x2 (↑x8:Int)/\q0s x6 x2 (↑x8:Int)<(↑x8:Int))/\x11≠noA/\∃(i0:Int),(∀(i1:Pub),q1v x0 x1 x3 x28 x7 i1->q02 i1 (adr x11 (Int.toNat (q0s x6 x2 (↑x8:Int))*1)) [Value.int IntKind.i64 i0])/\qzq x4/\∃(i2:AvS),zcr30 x1 i0 x4 x7 i2 (i2.2.2.2.2.2.2=q0f x6 x2/\zcr29 x10 i2/\(∀(i3:Pub),q1v x0 x1 x3 x28 x7 i3->zcr43 i2 i3)/\∀(i4:AvB),q0w i2.1 i2.2.2.1 i2.2.2.2.1 i2.2.2.2.2.2.1 i2.2.2.2.2.2.2 i4.1 i4.2.1 i4.2.2->(∃(i5:Pub),(q1v x0 x1 x3 x28 x7 i5)/\GV.ok i4.1 i5)->zcr15 x0 x1 x2 x3 x5 x4 x28 x7 x8 i4 x6 i2)
 abbrev quc:=(GV.y x0.1).1=(GV.y x0.1).1/\(GV.y x0.1).2.1=(GV.y x0.1).2.1/\(GV.y x0.1).2.2=(GV.y x0.1).2.2/\GV.b x0.1=GV.b x0.1/\x32
 abbrev qsq:=x2=x2/\x13=x13/\x11=x11/\x8=x8/\x10=x10/\x4=x4/\x14=x14/\x12=x12/\x15=x15/\x20=x20/\x21=x21/\x5=x5/\x18=x18/\x16=x16/\x19=x19/\x23=x23/\x24=x24/\x25=x25/\(∀(i0:Pub),q1v x0 x1 x3 x6 x7 i0->q1v x0 x1 x3 x6 x7 i0)/\x32
 abbrev zcr21:=List.length (q00 GV.cells x31.2.2)=List.length x31.2.2*5/\(List.length x31.2.2+nat_lit 1)*80<=140737488355328/\((-9223372036854775808:Int)<=(↑x31.1:Int)+1/\(↑x31.1:Int)+1<=9223372036854775807)/\∃(i0:Nat×Int×List GV),x2=x2/\(↑i0.1:Int)=(↑x31.1:Int)+1/\qls x1 x29 (i0.2.1=x27.2.2/\GV.n x0.1=GV.n x0.1/\GV.s x0.1=GV.s x0.1/\List.length i0.2.2=List.length x31.2.2+nat_lit 1/\quc x0 (q2l x7 (x4=x4/\x13=x13/\x11=x11/\x8=x8/\x10=x10/\x5=x5/\x14=x14/\x12=x12/\x15=x15/\x20=x20/\x21=x21/\x9=x9/\x18=x18/\x16=x16/\x19=x19/\x23=x23/\x24=x24/\x25=x25/\q00 GV.cells i0.2.2=q00 GV.cells x31.2.2++[Value.int IntKind.u64 (GV.n x27.1),Value.string (GV.s x27.1),Value.slice (GV.x x27.1).1 (GV.x x27.1).2.1 (GV.x x27.1).2.2,Value.slice (GV.y x27.1).1 (GV.y x27.1).2.1 (GV.y x27.1).2.2,Value.int IntKind.i64 (GV.b x27.1)]/\(∀(i1:Pub),((q1v x0 x7 x3 x6 x1 i1)/\GV.oks x31.2.2 i1)/\GV.ok x27.1 i1->q1v x0 x7 x3 x6 x1 i1)/\(∀(i2:Pub),((q1v x0 x7 x3 x6 x1 i2)/\GV.oks x31.2.2 i2)/\GV.ok x27.1 i2->GV.oks i0.2.2 i2)/\reI x3 (atS x3 x17) x6 x2 x22 i0.1 i0.2.1 (GV.pvs i0.2.2)/\List.length (AT.fs (atS x3 x17))- i0.1<List.length (AT.fs (atS x3 x17))- x31.1/\True)))
 abbrev zcr35:=(0<=(↑x31.1:Int)/\(↑x31.1:Int)<(↑x8:Int))/\x11≠noA/\∃(i0:Int),(∀(i1:Pub),(q1v x0 x1 x3 x6 x7 i1)/\GV.oks x31.2.2 i1->q02 i1 (Addr.add (adr x11 (Int.toNat (↑x31.1:Int)*9)) 2) [Value.int IntKind.i64 i0])/\qzq x2/\∃(i2:AvS),zcr30 x1 i0 x2 x7 i2 (i2.2.2.2.2.2.2=x31.2.1/\zcr29 x10 i2/\(∀(i3:Pub),(q1v x0 x1 x3 x6 x7 i3)/\GV.oks x31.2.2 i3->zcr43 i2 i3)/\∀(i4:AvB),q0w i2.1 i2.2.2.1 i2.2.2.2.1 i2.2.2.2.2.2.1 i2.2.2.2.2.2.2 i4.1 i4.2.1 i4.2.2->(∃(i5:Pub),((q1v x0 x1 x3 x6 x7 i5)/\GV.oks x31.2.2 i5)/\GV.ok i4.1 i5)->zcr21 x0 x7 x2 x3 x4 x5 x6 x1 x12 x9 x15 x14 x16 x13 x18 x19 x8 x17 x11 x24 x20 x21 x22 x23 x25 x26 i4 i2 x31)
 abbrev zcr19:=(zcr35 x0 x1 x2 x3 x4 x5 x6 x7 x8 x9 x10 x11 x12 x13 x14 x15 x16 x17 x18 x19 x20 x21 x22 x23 x24 x25 x26 x31)/\zcr35 x0 x1 x2 x3 x4 x5 x6 x7 x8 x9 x10 x11 x12 x13 x14 x15 x16 x17 x18 x19 x20 x21 x22 x23 x24 x25 x26 x31
 abbrev zcr17:=(decide ((↑x31.1:Int)<(↑x8:Int))=true->zcr19 x0 x1 x2 x3 x4 x5 x6 x7 x8 x9 x10 x11 x12 x13 x14 x15 x16 x17 x18 x19 x20 x21 x22 x23 x24 x25 x26 x31)/\(decide ((↑x31.1:Int)<(↑x8:Int))=false->∀(i18 i19 i20:Nat) (i21:Option Addr) (i22 i23:Nat),(∃(i24:Pub),((q1v x0 x1 x3 x6 x7 i24)/\GV.oks x31.2.2 i24)/\List.length x31.2.2<=i23/\q1l i24 i21 (List.take (List.length x31.2.2*nat_lit 5) (q00 GV.cells x31.2.2)))->∃(i25:AvB),qo1 x0 i25 ((GV.x i25.1).1=i21/\(GV.x i25.1).2.1=List.length x31.2.2/\(GV.x i25.1).2.2=i23/\qyz x0 i25 (GV.b i25.1=GV.b x0.1/\i25.2.1=true/\q2l x7 (i25.2.2=x31.2.1/\qci x17 x3 x2 x22 x6 i25/\(∀(i26:Pub),((q1v x0 x1 x3 x6 x7 i26)/\GV.oks x31.2.2 i26)/\List.length x31.2.2<=i23/\q1l i26 i21 (List.take (List.length x31.2.2*nat_lit 5) (q00 GV.cells x31.2.2))->GV.ok i25.1 i26)/\True))))
 abbrev zcr14:=(∃(i0:Nat×Int×List GV),x2=x2/\(↑i0.1:Int)=0/\q2l x1 (i0.2.1=x4/\GV.n x0.1=GV.n x0.1/\GV.s x0.1=GV.s x0.1/\List.length i0.2.2=0/\quc x0 (q2l x7 (qsq x0 x7 x5 x3 x9 x17 x6 x1 x8 x10 x11 x12 x13 x14 x15 x16 x18 x19 x20 x21 x23 x24 x25 ((∀(i2:Pub),q1v x0 x7 x3 x6 x1 i2->GV.oks i0.2.2 i2)/\reI x3 (atS x3 x22) x6 x2 x4 i0.1 i0.2.1 (GV.pvs i0.2.2)/\True)))))/\∀(i3:Nat×Int×List GV),reI x3 (atS x3 x22) x6 x2 x4 i3.1 i3.2.1 (GV.pvs i3.2.2)->(∃(i4:Pub),(q1v x0 x7 x3 x6 x1 i4)/\GV.oks i3.2.2 i4)->zcr17 x0 x7 x2 x3 x5 x9 x6 x1 x16 x17 x26 x18 x8 x13 x11 x10 x12 x22 x14 x15 x20 x21 x4 x23 x19 x24 x25 i3
 abbrev zcr44:=GV.n x0.1=GV.n x0.1/\GV.s x0.1=GV.s x0.1/\(GV.x x0.1).1=(GV.x x0.1).1/\(GV.x x0.1).2.1=(GV.x x0.1).2.1/\(GV.x x0.1).2.2=(GV.x x0.1).2.2/\x32
 abbrev qex:=((q1v x0 x1 x3 x6 x7 x38)/\GV.ok x30.2.2 x38)/\GV.ok x27.1 x38
 abbrev zcr38:=GV.n x27.1=GV.n x30.2.2/\GV.s x27.1=GV.s x30.2.2/\(GV.x x27.1).1=(GV.x x30.2.2).1/\(GV.x x27.1).2.1=(GV.x x30.2.2).2.1/\(GV.x x27.1).2.2=(GV.x x30.2.2).2.2/\(GV.y x27.1).1=(GV.y x30.2.2).1/\(GV.y x27.1).2.1=(GV.y x30.2.2).2.1/\(GV.y x27.1).2.2=(GV.y x30.2.2).2.2/\GV.b x27.1=GV.b x30.2.2/\x27.2.1=true/\x32
 abbrev zcr48:=Value.slice (GV.x x30.2.2).1 (GV.x x30.2.2).2.1 (GV.x x30.2.2).2.2
 abbrev zcr49:=Value.slice (GV.y x30.2.2).1 (GV.y x30.2.2).2.1 (GV.y x30.2.2).2.2
 abbrev zcr31:=((-9223372036854775808:Int)<=x30.1- 1/\x30.1- 1<=9223372036854775807)/\∃(i0:Int×Int×GV),x2=x2/\i0.1=x30.1- 1/\qls x1 x29 (i0.2.1=q0f x6 x27.2.2/\GV.n i0.2.2=GV.n x39/\GV.s i0.2.2=GV.s x39/\(GV.x i0.2.2).1=(GV.x x39).1/\(GV.x i0.2.2).2.1=(GV.x x39).2.1/\(GV.x i0.2.2).2.2=(GV.x x39).2.2/\(GV.y i0.2.2).1=(GV.y x39).1/\(GV.y i0.2.2).2.1=(GV.y x39).2.1/\(GV.y i0.2.2).2.2=(GV.y x39).2.2/\GV.b i0.2.2=GV.b x39/\q2l x7 (x4=x4/\x13=x13/\x11=x11/\x8=x8/\x10=x10/\x5=x5/\x14=x14/\x12=x12/\x15=x15/\x20=x20/\x21=x21/\x9=x9/\x18=x18/\x16=x16/\x19=x19/\x23=x23/\x24=x24/\x25=x25/\(∀(i1:Pub),(qex x0 x7 x3 x28 x1 x27 x30 i1)/\GV.ok x39 i1->q1v x0 x7 x3 x28 x1 i1)/\(∀(i2:Pub),(qex x0 x7 x3 x28 x1 x27 x30 i2)/\GV.ok x39 i2->GV.ok i0.2.2 i2)/\maI x3 (atS x3 x17) x28 x2 x22 i0.1 i0.2.1 i0.2.2/\Int.toNat i0.1<Int.toNat x30.1/\True))
 abbrev zcr22:=(decide (x2=12)=true->False)/\(decide (x2=12)=false->∃(i0:List Int),(5:Int)=5/\x29.2.2.2.2.1.1=x29.2.2.2.2.1.1/\x29.2.2.2.2.1.2.1=x29.2.2.2.2.1.2.1/\x29.2.2.2.2.1.2.2=x29.2.2.2.2.1.2.2/\x27.2.2=x27.2.2/\(0<=x27.2.2/\x27.2.2<=(↑(List.length i0):Int)/\(0:Int)<5/\(5:Int)<1000000/\q0t i0)/\(∀(i1:Pub),qex x0 x1 x3 x6 x7 x27 x30 i1->slP byV (x29.2.2.2.2.1.1,x29.2.2.2.2.1.2.1,x29.2.2.2.2.1.2.2) i0 i1)/\((-9223372036854775808:Int)<=97+q0s i0 x27.2.2 5/\(97:Int)+q0s i0 x27.2.2 (5:Int)<=9223372036854775807)/\∃(i2:ByteArray),ByteArray.size i2=1/\qod [Value.int IntKind.u8 (IntKind.wrap IntKind.u8 ((97:Int)+q0s i0 x27.2.2 5))] 0 (q1f i2)/\ByteArray.size (mkS [107])+ByteArray.size i2<=9223372036854775807/\AV.agg [AV.sv (Value.int IntKind.u64 (GV.n x30.2.2)),AV.sv (Value.string (GV.s x30.2.2)),AV.sv (zcr48 x30),AV.sv (zcr49 x30),AV.sv (Value.int IntKind.i64 (GV.b x30.2.2))]=AV.agg [AV.sv (Value.int IntKind.u64 (GV.n x30.2.2)),AV.sv (Value.string (GV.s x30.2.2)),AV.sv (zcr48 x30),AV.sv (zcr49 x30),AV.sv (Value.int IntKind.i64 (GV.b x30.2.2))]/\zcr33 x27/\∃(i3:GV×ByteArray×GV),GV.n i3.1=GV.n x30.2.2/\GV.s i3.1=GV.s x30.2.2/\(GV.x i3.1).1=(GV.x x30.2.2).1/\(GV.x i3.1).2.1=(GV.x x30.2.2).2.1/\(GV.x i3.1).2.2=(GV.x x30.2.2).2.2/\(GV.y i3.1).1=(GV.y x30.2.2).1/\(GV.y i3.1).2.1=(GV.y x30.2.2).2.1/\(GV.y i3.1).2.2=(GV.y x30.2.2).2.2/\GV.b i3.1=GV.b x30.2.2/\i3.2.1=mkS [107]++i2/\GV.n i3.2.2=GV.n x27.1/\GV.s i3.2.2=GV.s x27.1/\(GV.x i3.2.2).1=(GV.x x27.1).1/\(GV.x i3.2.2).2.1=(GV.x x27.1).2.1/\(GV.x i3.2.2).2.2=(GV.x x27.1).2.2/\(GV.y i3.2.2).1=(GV.y x27.1).1/\(GV.y i3.2.2).2.1=(GV.y x27.1).2.1/\(GV.y i3.2.2).2.2=(GV.y x27.1).2.2/\GV.b i3.2.2=GV.b x27.1/\(List.length (GV.ks i3.1)=List.length (GV.l i3.1)/\List.length (GV.l i3.1)<1000000)/\(∀(i4:Pub),qex x0 x1 x3 x6 x7 x27 x30 i4->GV.ok i3.1 i4/\GV.ok i3.2.2 i4)/\∀(i5:GV),GV.pv i5=PV.mk (GV.n i3.1) (GV.s i3.1) (qgb i3.2.1 (GV.ks i3.1) (GV.pvs (GV.l i3.1)) (GV.pv i3.2.2)) (q4r i3.2.1 (GV.ks i3.1)) (GV.b i3.1)->(∃(i6:Pub),(qex x0 x1 x3 x6 x7 x27 x30 i6)/\GV.ok i5 i6)->zcr31 x0 x7 x4 x3 x2 x5 i0 x1 x8 x9 x10 x11 x12 x13 x14 x15 x16 x17 x18 x19 x20 x21 x22 x23 x24 x25 x27 x6 x29 x30 i5)
 abbrev zcr20:=((!x27.2.1)=true->∃(i0:AvB),zcr38 i0 x30 (qls x1 x29 (i0.2.2=x27.2.2/\qci x2 x3 x4 x5 x6 i0/\(∀(i1:Pub),qex x0 x7 x3 x6 x1 x27 x30 i1->GV.ok i0.1 i1)/\True)))/\((!x27.2.1)=false->zcr22 x0 x7 x9 x3 x4 x17 x6 x1 x8 x22 x10 x11 x12 x13 x14 x15 x16 x2 x18 x19 x20 x21 x5 x23 x24 x25 x27 x29 x30)
 abbrev zcr18:=qzq x2/\∃(i0:AvS),zcr30 x1 x4 x2 x7 i0 (i0.2.2.2.2.2.2=x30.2.1/\zcr29 x8 i0/\(∀(i1:Pub),(q1v x0 x1 x3 x6 x7 i1)/\GV.ok x30.2.2 i1->zcr43 i0 i1)/\∀(i2:AvB),q0w i0.1 i0.2.2.1 i0.2.2.2.1 i0.2.2.2.2.2.1 i0.2.2.2.2.2.2 i2.1 i2.2.1 i2.2.2->(∃(i3:Pub),qex x0 x1 x3 x6 x7 i2 x30 i3)->zcr20 x0 x7 x5 x3 x2 x9 x6 x1 x10 x17 x12 x11 x15 x13 x14 x16 x19 x4 x18 x24 x20 x21 x22 x23 x25 x26 i2 i0 x30)
 abbrev zcr16:=(decide (0<x30.1)=true->zcr18 x0 x1 x2 x3 x4 x5 x6 x7 x8 x9 x10 x11 x12 x13 x14 x15 x16 x17 x18 x19 x20 x21 x22 x23 x24 x25 x26 x30)/\(decide (0<x30.1)=false->∃(i16:AvB),zcr38 i16 x30 (q2l x7 (i16.2.2=x30.2.1/\qci x5 x3 x2 x9 x6 i16/\(∀(i17:Pub),(q1v x0 x1 x3 x6 x7 i17)/\GV.ok x30.2.2 i17->GV.ok i16.1 i17)/\True)))
 abbrev zcr13:=(qlt x2=true->∃(i0:List Int),(4:Int)=4/\q2l x1 (qhr x0 x7 x4 x3 4 i0 x1 x6 ((∃(i2:Int×Int×GV),x5=x5/\i2.1=q0s i0 x4 4/\q2l x1 (i2.2.1=q0f i0 x4/\GV.n i2.2.2=GV.n x0.1/\GV.s i2.2.2=GV.s x0.1/\(GV.x i2.2.2).1=(GV.x x0.1).1/\(GV.x i2.2.2).2.1=(GV.x x0.1).2.1/\(GV.x i2.2.2).2.2=(GV.x x0.1).2.2/\(GV.y i2.2.2).1=(GV.y x0.1).1/\(GV.y i2.2.2).2.1=(GV.y x0.1).2.1/\(GV.y i2.2.2).2.2=(GV.y x0.1).2.2/\GV.b i2.2.2=GV.b x0.1/\q2l x7 (qsq x0 x7 x2 x3 x9 x17 x6 x1 x8 x10 x11 x12 x13 x14 x15 x16 x18 x19 x20 x21 x23 x24 x25 ((∀(i4:Pub),q1v x0 x7 x3 x6 x1 i4->GV.ok i2.2.2 i4)/\maI x3 (atS x3 x22) x6 x5 x4 i2.1 i2.2.1 i2.2.2/\True))))/\∀(i5:Int×Int×GV),maI x3 (atS x3 x22) x6 x5 x4 i5.1 i5.2.1 i5.2.2->(∃(i6:Pub),(q1v x0 x7 x3 x6 x1 i6)/\GV.ok i5.2.2 i6)->zcr16 x0 x7 x5 x3 x9 x22 x6 x1 x26 x4 x8 x11 x10 x13 x14 x12 x15 x2 x18 x16 x20 x21 x17 x23 x19 x24 x25 i5)))/\(qlt x2=false->∃(i25:AvB),qo1 x0 i25 (qsp x0 i25 (i25.2.1=true/\q2l x1 (i25.2.2=x4/\qci x22 x3 x5 x4 x6 i25/\(∀(i26:Pub),q1v x0 x7 x3 x6 x1 i26->GV.ok i25.1 i26)/\True))))
 abbrev zcr12:=((decide (x2=12)=true->∃(i0:Unit),x4=x4/\qlt x2=decide (x2=12)/\x2=x2/\q2l x1 (x5=x5/\zcr44 x0 (quc x0 (q2l x7 (qsq x0 x7 x2 x3 x9 x17 x6 x1 x8 x10 x11 x12 x13 x14 x15 x16 x18 x19 x20 x21 x23 x24 x25 (True/\True))))))/\(decide (x2=12)=false->∃(i2:Unit),x4=x4/\qlt x2=decide (x2=13)/\x2=x2/\q2l x1 (x5=x5/\zcr44 x0 (quc x0 (q2l x7 (qsq x0 x7 x2 x3 x9 x17 x6 x1 x8 x10 x11 x12 x13 x14 x15 x16 x18 x19 x20 x21 x23 x24 x25 (True/\True)))))))/\∀(i4:Unit),True->zcr13 x0 x1 x2 x3 x5 x4 x6 x7 x8 x9 x10 x11 x12 x13 x14 x15 x16 x17 x18 x19 x20 x21 x22 x23 x24 x25 x26
 abbrev zcr11:=(decide (x2=9)=true->zcr14 x0 x1 x4 x3 x5 x2 x6 x7 x8 x9 x10 x11 x12 x13 x14 x15 x16 x17 x18 x19 x20 x21 x22 x23 x24 x25 x26)/\(decide (x2=9)=false->zcr12 x0 x1 x2 x3 x4 x5 x6 x7 x8 x9 x10 x11 x12 x13 x14 x15 x16 x17 x18 x19 x20 x21 x22 x23 x24 x25 x26)
 abbrev zcr10:=(decide (x2=14)=true->∃(i0:List Int),(↑x8:Int)=(↑x8:Int)/\q2l x1 (zcr52 x4 i0 x8 (qpv x0 x7 x3 x6 x1 i0/\(zcr34 x0 x7 x4 x3 x5 x9 i0 x1 x8 x10 x11 x6)/\zcr34 x0 x7 x4 x3 x5 x9 i0 x1 x8 x10 x11 x6)))/\(decide (x2=14)=false->zcr11 x0 x1 x2 x3 x5 x4 x6 x7 x12 x17 x15 x14 x16 x13 x18 x19 x24 x22 x23 x25 x20 x21 x9 x11 x8 x26 x10)
 abbrev zcr9:=(decide (x2=10)=true->∃(i0:List Int),(↑x8:Int)=(↑x8:Int)/\q2l x1 (zcr52 x4 i0 x8 (qpv x0 x7 x3 x6 x1 i0/\∃(i2:AvB),GV.n i2.1=IntKind.wrap IntKind.u64 (q0s i0 x4 (↑x8:Int))/\GV.s i2.1=GV.s x0.1/\qis x0 x1 x4 x3 x5 x9 i0 x7 i2 x6)))/\(decide (x2=10)=false->zcr10 x0 x1 x2 x3 x4 x9 x6 x7 x10 x5 x12 x11 x15 x13 x14 x16 x8 x17 x18 x19 x20 x21 x22 x23 x24 x25 x26)
 abbrev zcr8:=(decide (x2=7)=true->∃(i0:List Int),(4:Int)=4/\q2l x1 (qhr x0 x7 x4 x3 4 i0 x1 x6 ((0<=q0s i0 x4 4/\q0s i0 x4 (4:Int)<(↑(nat_lit 4):Int))/\∃(i2:ByteArray),(∀(i3:Nat) (i4:Value),[Value.string i2][i3]? =some i4->[Value.string (mkS []),Value.string (mkS [255]),Value.string (mkS [0]),Value.string (mkS [98])][nat_lit 0+Int.toNat (q0s i0 x4 4)*1+i3]? =some i4)/\∃(i5:AvB),GV.n i5.1=GV.n x0.1/\GV.s i5.1=i2/\qis x0 x1 x4 x3 x5 x9 i0 x7 i5 x6)))/\(decide (x2=7)=false->zcr9 x0 x1 x2 x3 x4 x5 x6 x7 x8 x9 x10 x11 x12 x13 x14 x15 x16 x17 x18 x19 x20 x21 x22 x23 x24 x25 x26)
 abbrev zcr7:=(decide (x2=8)=true->∃(i0:List Int),(4:Int)=4/\q2l x1 (qhr x0 x7 x4 x3 4 i0 x1 x6 ((0<=q0s i0 x4 4/\q0s i0 x4 (4:Int)<(↑(nat_lit 4):Int))/\∃(i2:ByteArray),(∀(i3:Nat) (i4:Value),[Value.string i2][i3]? =some i4->[Value.string (mkS []),Value.string (mkS [97]),Value.string (mkS [195,164]),Value.string (mkS [116,101,120,116])][nat_lit 0+Int.toNat (q0s i0 x4 4)*1+i3]? =some i4)/\∃(i5:AvB),GV.n i5.1=GV.n x0.1/\GV.s i5.1=i2/\qis x0 x1 x4 x3 x5 x9 i0 x7 i5 x6)))/\(decide (x2=8)=false->zcr8 x0 x1 x2 x3 x4 x5 x6 x7 x8 x9 x10 x11 x12 x13 x14 x15 x16 x17 x18 x19 x20 x21 x22 x23 x24 x25 x26)
 abbrev zcr6:=(decide (x2=6)=true->∃(i0:List Int),(5:Int)=5/\q2l x1 (qhr x0 x7 x4 x3 5 i0 x1 x6 ((0<=q0s i0 x4 5/\q0s i0 x4 (5:Int)<(↑(nat_lit 5):Int))/\∃(i2:Int),(∀(i3:Nat) (i4:Value),[Value.int IntKind.u64 i2][i3]? =some i4->[Value.int IntKind.u64 0,Value.int IntKind.u64 4607182418800017408,Value.int IntKind.u64 1,Value.int IntKind.u64 9223372036854775808,Value.int IntKind.u64 9218868437227405312][nat_lit 0+Int.toNat (q0s i0 x4 5)*1+i3]? =some i4)/\∃(i5:AvB),GV.n i5.1=i2/\GV.s i5.1=GV.s x0.1/\qis x0 x1 x4 x3 x5 x9 i0 x7 i5 x6)))/\(decide (x2=6)=false->zcr7 x0 x1 x2 x3 x4 x5 x6 x7 x8 x9 x10 x11 x12 x13 x14 x15 x16 x17 x18 x19 x20 x21 x22 x23 x24 x25 x26)
 abbrev zcr5:=qxh x0 x1 x2 x3 x4 x5 x6 x7 x9 5 1065353216 2139095040 1 3212836864 2143289345 2147483648/\(decide (x2=5)=false->zcr6 x0 x1 x2 x3 x4 x5 x6 x7 x8 x9 x10 x11 x12 x13 x14 x15 x16 x17 x18 x19 x20 x21 x22 x23 x24 x25 x26)
 abbrev zcr4:=qxh x0 x1 x2 x3 x4 x5 x6 x7 x9 4 1 18446744073709551615 1099511627776 9223372036854775807 9223372036854775808 9007199254740993/\(decide (x2=4)=false->zcr5 x0 x1 x2 x3 x4 x5 x6 x7 x8 x9 x10 x11 x12 x13 x14 x15 x16 x17 x18 x19 x20 x21 x22 x23 x24 x25 x26)
 abbrev zcr3:=qxh x0 x1 x2 x3 x4 x5 x6 x7 x9 3 1 18446744073709551615 300 2147483647 18446744071562067968 16777217/\(decide (x2=3)=false->zcr4 x0 x1 x2 x3 x4 x5 x6 x7 x8 x9 x10 x11 x12 x13 x14 x15 x16 x17 x18 x19 x20 x21 x22 x23 x24 x25 x26)
 abbrev zcr2:=(0<=x2/\x2<(↑x1.2.1:Int))/\x1.1≠noA/\∃(i0:Int),∃(i1:ByteArray),∃(i2:Option Addr),∃(i3:Nat),∃(i4:Nat),∃(i5:Int),∃(i6:Option Addr),∃(i7:Nat),∃(i8:Nat),∃(i9:Bool),∃(i10:ByteArray),∃(i11:Int),∃(i12:Option Addr),∃(i13:Nat),∃(i14:Nat),∃(i15:Option Addr),∃(i16:Nat),∃(i17:Nat),(∀(i18:Pub),q1v x0 x1 x3 x6 x7 i18->q02 i18 (adr x1.1 (Int.toNat x2*10)) [Value.int IntKind.i64 i0,Value.string i1,Value.slice i2 i3 i4,Value.int IntKind.i64 i5,Value.slice i6 i7 i8,Value.bool i9,Value.string i10,Value.int IntKind.i64 i11,Value.slice i12 i13 i14,Value.slice i15 i16 i17])/\(decide (i0=2)=true->∃(i19:List Int),(2:Int)=2/\q2l x7 (qhr x0 x1 x4 x3 2 i19 x7 x6 (∃(i21:AvB),GV.n i21.1=IntKind.wrap IntKind.u64 (q0s i19 x4 2)/\GV.s i21.1=GV.s x0.1/\qis x0 x7 x4 x3 x2 x5 i19 x1 i21 x6)))/\(decide (i0=2)=false->zcr3 x0 x7 i0 x3 x4 x2 x6 x1 i7 x5 i16 i15 x8 i1 i2 i3 i4 i5 i6 i8 i9 i10 i11 i12 i13 i14 i17)
 abbrev zcr1:=(decide (5<x2)=true->qzm x0 x1 x4 x3 x5 x2 x6 x7)/\(decide (5<x2)=false->∃(i2:List Int),q2l x1 (x4=x4/\True/\qpv x0 x7 x3 x6 x1 i2/\(decide ((↑(List.length i2):Int)<=x4)=true->qzm x0 x1 x4 x3 x5 x2 x6 x7)/\(decide ((↑(List.length i2):Int)<=x4)=false->zcr2 x0 x7 x5 x3 x4 x2 x6 x1 x8)))
 abbrev zcr0:=((!x0.2)=true->qzm x0 x1 x2 x3 x4 x5 x6 x7)/\((!x0.2)=false->zcr1 x0 x1 x5 x3 x2 x4 x6 x7 x8)
end
theorem qum(c:Nat) (S:List AT) (x:SV) (t d:Int) (y:SV) (L:List Int) (n:Int):q68 P (q0r [(37,cNum),(36,qrr)]) (q1s [(14,(q7w qoq).below qiu c),(35,qhf),(38,cPut)]) Try.f14 ((q7w no12).below qiu (c+1)) (wAVal false) ⟨S,x,t,d,y,L,n⟩=(qiu (S,x,t,d,y,L,n)<c+1/\q0j S/\(0<=t/\t<(↑(List.length S):Int))/\no12 (atS S t)/\(0<=d/\d<=6)/\0<=n/\n<=(↑(List.length L):Int)/\q0t L->(∃(p:Pub),True/\q0l S x p/\slP byV y L p)->∃(s:List AT×(Option Addr×Nat×Nat)×Int),s.2.1.1=x.1/\s.2.1.2.1=x.2.1/\s.2.1.2.2=x.2.2/\s.2.2=t/\q0j s.1/\(∀(p:Pub),True/\q0l S x p/\slP byV y L p->q0l s.1 s.2.1 p)/\∀(b:GV×Bool),b.2=lsB s.1 s.2.2/\PV.sn (GV.pv b.1)/\PV.wt (GV.pv b.1)<=10060000/\(b.2=true->PV.fits s.1 s.2.2 (GV.pv b.1)=true)/\(b.2=false\/AT.k (atS s.1 s.2.2)=12\/AT.k (atS s.1 s.2.2)=13->b.1=zV)->(∃(p:Pub),q1v b x S L y p)->zcr0 b y n S t d L x c):=by kernel_rfl
def qxu(c:Nat) (S:List AT) (x:SV) (t d:Int) (y:SV) (L:List Int) (n:Int):=Eq.trans (qum c S x t d y L n) (by delta q1v qo1 qyz qsp q2l qci qzm qpv qhr qis qxh zcr52 qzq zcr30 zcr29 zcr43 zcr50 zcr51 zcr33 qls zcr25 zcr15 zcr34 quc qsq zcr21 zcr35 zcr19 zcr17 zcr14 zcr44 qex zcr38 zcr48 zcr49 zcr31 zcr22 zcr20 zcr18 zcr16 zcr13 zcr12 zcr11 zcr10 zcr9 zcr8 zcr7 zcr6 zcr5 zcr4 zcr3 zcr2 zcr1 zcr0;exact rfl)
theorem qi2{α:Type} {f:α->List Value} {e:Nat} (hf:∀x,(f x).length=e) (l:List α) {i:Nat} (hi:i<l.length):∀(j:Nat) v,(f l[i])[j]? =some v->(q00 f l)[i*e+j]? =some v:=λj v h=>by
 refine q8o hf l i (by omega) j v ?_
 rw[List.drop_eq_getElem_cons hi]
 show(f l[i]++q00 f _)[j]? =some v
 rw[List.getElem?_append_left (List.getElem?_eq_some_iff.1 h).1];exact h
theorem q6f{q:Pub} {n:Int} {s:ByteArray} {a a2:Option Addr} {c c2:Nat} {l:List GV} {ks:List ByteArray} {b:Int} {m m2:Nat} (hm:m=l.length) (hm2:m2=ks.length) (h1:m<=c) (h2:q1l q a (q00 GV.cells l)) (h3:∀w∈l,w.ok q) (k1:m2<=c2) (k2:q1l q a2 (q00 txV ks)):(GV.mk n s (a,m,c) l (a2,m2,c2) ks b).ok q:=by
 unfold GV.ok
 exact⟨⟨hm,h1,h2⟩,⟨hm2,k1,k2⟩,GV.oks_iff.2 h3⟩
theorem qe9(l:List GV):List.take (l.length*5) (q00 GV.cells l)=q00 GV.cells l:=List.take_of_length_le (by rw[q03 q0y];exact Nat.le_refl _)
theorem qd0(l:List ByteArray):List.take (l.length*1) (q00 txV l)=q00 txV l:=List.take_of_length_le (by rw[q03 q13];exact Nat.le_refl _)
theorem tp{v:GV} (hv:v.pv.sn) (hwt:v.pv.wt<100000000000000000) {n:Int} {s:ByteArray} {x y:SV} {l:List GV} {ks:List ByteArray} {b:Int} (hn:0<=n/\n<18446744073709551616) (hl:∀w∈GV.pvs l,w.sm) (hll:l.length<=1001) (hk:ks.length<=1001) (hks:∀k∈ks,k.size<9223372036854775808) (hw:s.size+kzs ks+PV.wts (GV.pvs l)<=v.s.size+kzs v.ks+PV.wts (GV.pvs v.l)+40):q4g v (.mk n s x l y ks b):=by
 have ev:v.pv.wt=30+v.s.size+kzs v.ks+PV.wts (GV.pvs v.l):=by rw[GV.pv_eq,q5f]
 have ew:(GV.mk n s x l y ks b).pv= .mk n s (GV.pvs l) ks b:=by rw[GV.pv]
 unfold q4g
 rw[ew,q5f]
 refine⟨?_,by omega⟩
 rw[PV.sm,GV.pvs_len]
 exact⟨hn,by omega,by omega,by omega,hks,qe8.2 hl⟩
theorem que{l:List ByteArray} {k:Nat} (h:k<l.length) (w:ByteArray):kzs (l.set k w)+l[k].size=kzs l+w.size:=by
 have e:kzs (l.take k)+kzs (l.drop k)=kzs l:=by rw[←q7c,List.take_append_drop]
 rw[List.drop_eq_getElem_cons h,kzs]at e
 rw[List.set_eq_take_append_cons_drop,if_pos h,q7c,kzs];omega
theorem tu_ok(c:Nat) (ht:q0d P 15 (q67.below muTu c)):q0d P 15 (q67.below muTu (c+1)):=by
 refine q0v mixed (q05 q06) (q0g (q04 ht q0q)) (W:=qpt) Try.func15 (by kernel_rfl) (show 1<=1 by decide) (show 1<=1 by decide) (λs=>by kernel_rfl) λ⟨v,(how:Int),(n:Int)⟩=>(qnk c v how n).mpr ?_
 rintro⟨hmu,⟨hsn,hwt⟩,⟨hh0,hh1⟩,hn0,hn1⟩ ⟨p,_,hv⟩
 have hmu:SizeOf.sizeOf v<c+1:=hmu
 have vo:=λq (h:v.ok q)=>(by rw[GV.ok_eq]at h;exact h:slP GV.cells v.x v.l q/\slP txV v.y v.ks q/\GV.oks v.l q)
 have vk:=λq (h:v.ok q)=>GV.oks_iff.1 (vo q h).2.2
 have xl:v.x.2.1=v.l.length:=(vo p hv).1.1
 have yl:v.y.2.1=v.ks.length:=(vo p hv).2.1.1
 have hs:=hsn
 rw[GV.pv_eq]at hs
 obtain⟨hvn,hvs,hvl,hvk,hvks,hvm⟩:=sn_of hs
 rw[GV.pvs_len]at hvl
 have hwe:v.pv.wt=30+v.s.size+kzs v.ks+PV.wts (GV.pvs v.l):=by rw[GV.pv_eq,q5f]
 have hvm1:=λw (hw:w∈GV.pvs v.l)=>(hvm w hw).1
 have e3:Int.tdiv how 3=how / 3:=Int.tdiv_eq_ediv_of_nonneg hh0
 have w8:IntKind.wrap .u8 (how / 3)=how / 3:=by rw[qma];omega
 have e7:Int.tdiv n 7=n / 7:=Int.tdiv_eq_ediv_of_nonneg hn0
 have w64:IntKind.wrap .u64 (n / 7)=n / 7:=by rw[wrapU];omega
 simp only[decide_eq_true_eq,decide_eq_false_iff_not,Bool.not_eq_true',Bool.not_eq_false',true_and,and_true,eq_self,imp_self,implies_true,exists_const,forall_const,Int.toNat_natCast,xl,yl,Nat.zero_add,List.nil_append,e3,w8,e7,w64]
 refine⟨q00 GV.cells v.l,q03 q0y _,λq hq=>(vo q hq).1.2.2,q2t qj4 _,by omega,q00 txV v.ks,q03 q13 _,λq hq=>(vo q hq).2.1.2.2,q2t qpb _,by omega,?_⟩
 have fin:∀(n':Int) (s':ByteArray) (b':Int) (ks':List ByteArray) (a:Option Addr) (cc:Nat) (a2:Option Addr) (c2:Nat),(0<=n'/\n'<18446744073709551616)->s'.size<=v.s.size+1->ks'.length=v.ks.length->kzs ks'=kzs v.ks->(∀x∈ks',x∈v.ks)->∃b:GV,b.n=n'/\b.s=s'/\b.x.1=a/\b.x.2.1=v.l.length/\b.x.2.2=cc/\b.y.1=a2/\b.y.2.1=v.ks.length/\b.y.2.2=c2/\b.b=b'/\q4g v b/\∀q,(v.ok q/\v.l.length<=cc/\q1l q a (List.take (v.l.length*5) (q00 GV.cells v.l)))/\v.ks.length<=c2/\q1l q a2 (List.take (v.ks.length*1) (q00 txV ks'))->b.ok q:=λn' s' b' ks' a cc a2 c2 h1 h2 h3 h4 h5=>
  ⟨.mk n' s' (a,v.l.length,cc) v.l (a2,v.ks.length,c2) ks' b',rfl,rfl,rfl,rfl,rfl,rfl,rfl,rfl,rfl,tp hsn hwt h1 hvm1 (by omega) (by omega) (λk hk=>hvks k (h5 k hk)) (by omega),λq hq=>q6f rfl h3.symm hq.1.2.1 (by have:=hq.1.2.2;rw[qe9]at this;exact this) (vk q hq.1.1) hq.2.1 (by have:=hq.2.2;rw[←h3,qd0]at this;exact this)⟩
 refine⟨λh0=>⟨by decide,λh1=>⟨by decide,⟨by omega,by omega⟩,by omega,⟨⟨?xa,?xb⟩,⟨?xc,?xd⟩,?xe,?xf⟩⟩⟩,by decide,λh70=>⟨by decide,?c0⟩,λh70=>⟨λh71=> ?c1,λh71=>⟨λh72=> ?c2,λh72=>⟨λh73=> ?c3,λh73=>⟨λh74=> ?c4,λh74=>⟨λh75=>⟨λh0=> ?c5,λh0=> ?c7⟩,λh75=> ?c6⟩⟩⟩⟩⟩⟩
 case xa|xb|xc|xd|xe|xf=>
  have hp:(0:Int)<v.l.length:=h0
  have ek:Int.tmod (how / 3) v.l.length=(how / 3) % v.l.length:=Int.tmod_eq_emod_of_nonneg (by omega)
  obtain⟨i,hi,e⟩:=q22 (t:=Int.tmod (how / 3) v.l.length) (n:=v.l.length) (by rw[ek];exact⟨Int.emod_nonneg _ (by omega),Int.emod_lt_of_pos _ hp⟩)
  rw[e]
  simp only[Int.toNat_natCast,q03 q0y]
  have hpi:=q5p hi
  have hmi:v.l[i].pv∈GV.pvs v.l:=by rw[←hpi];exact List.getElem_mem _
  have hwi:=quh hmi
  refine⟨⟨by omega,by omega⟩,v.l[i].n,v.l[i].s,v.l[i].x.1,v.l[i].x.2.1,v.l[i].x.2.2,v.l[i].y.1,v.l[i].y.2.1,v.l[i].y.2.2,v.l[i].b,λj w h=>qi2 q0y v.l hi j w h,by decide,⟨v.l[i],how / 3,n⟩,rfl,rfl,rfl,rfl,rfl,rfl,rfl,rfl,rfl,rfl,rfl,⟨?_,⟨hvm _ hmi,by show v.l[i].pv.wt<_;omega⟩,⟨by show 0<=how / 3;omega,by show how / 3<256;omega⟩,hn0,hn1⟩,λq hq=>vk q hq _ (List.getElem_mem hi),?_⟩
  ·show SizeOf.sizeOf v.l[i]<c
   have h1:=q9z hi
   have h2:SizeOf.sizeOf v.l<SizeOf.sizeOf v:=by cases v;simp[GV.l];omega
   omega
  rintro w ⟨hw1,hw2⟩ ⟨p1,_,hwo⟩
  refine⟨⟨by omega,by omega⟩,by show i*5+5<=_;omega,λa cc _ a2 c2 _=>⟨.mk v.n v.s (a,v.l.length,cc) (v.l.set i w) (a2,v.ks.length,c2) v.ks v.b,rfl,rfl,rfl,rfl,rfl,rfl,rfl,rfl,rfl,?_,λq hq=> ?_⟩⟩
  ·have es:GV.pvs (v.l.set i w)=(GV.pvs v.l).set i w.pv:=by rw[GV.pvs_map,GV.pvs_map,List.map_set]
   have hws:=qpq (l:=GV.pvs v.l) (k:=i) (by rw[GV.pvs_len];exact hi) w.pv
   rw[hpi]at hws
   have hw2:w.pv.wt<=v.l[i].pv.wt+40:=hw2
   refine tp hsn hwt hvn (λu hu=> ?_) (by rw[List.length_set];omega) (by omega) hvks (by rw[es];omega)
   rw[es]at hu
   rcases List.mem_or_eq_of_mem_set hu with hu|rfl
   ·exact hvm1 u hu
   ·exact hw1
  ·have hr:=q6v q0y v.l i hi w
   rw[Nat.zero_add]at hr
   have h2:=hq.1.2.2
   change q1l q a (List.take (v.l.length*5) (spl (q00 GV.cells v.l) (i*5) w.cells))at h2
   rw[←hr,List.take_of_length_le (by rw[q03 q0y,List.length_set];exact Nat.le_refl _)]at h2
   refine q6f (by rw[List.length_set]) rfl hq.1.2.1 h2 (λu hu=> ?_) hq.2.1 (by have:=hq.2.2;rw[qd0]at this;exact this)
   rcases List.mem_or_eq_of_mem_set hu with hu|rfl
   ·exact vk q hq.1.1.1 u hu
   ·exact hq.1.1.2
 ·exactλa cc _ a2 c2 _=>fin _ _ _ _ a cc a2 c2 ⟨by omega,by omega⟩ (by omega) rfl rfl λx hx=>hx
 ·refine⟨?_,λa cc _ a2 c2 _=>fin _ _ _ _ a cc a2 c2 hvn ?_ rfl rfl λx hx=>hx⟩
  ·have:(mkS [255]).size=1:=rfl
   omega
  ·rw[ByteArray.size_append];exact Nat.le_refl _
 ·refine⟨q03 q0y _,by omega,λa cc _ a2 c2 _=>⟨.mk v.n v.s (a,v.l.length+1,cc) (v.l++[zV]) (a2,v.ks.length,c2) v.ks v.b,rfl,rfl,rfl,rfl,rfl,rfl,rfl,rfl,rfl,?_,λq hq=> ?_⟩⟩
  ·have ez:zV.pv.wt=30:=by rw[qe4,q5f,PV.wts,kzs,ms0]
   refine tp hsn hwt hvn (λu hu=> ?_) (by simp;omega) (by omega) hvks (by rw[q6e,q4q,q7o,ez];omega)
   rw[q6e]at hu
   rcases List.mem_append.1 hu with hu|hu
   ·exact hvm1 u hu
   ·simp at hu;subst hu;rw[qe4];exact(q7k (by decide) (by rw[ms0];decide) (by decide) (by decide) (λk hk=>by cases hk) λv hv=>by cases hv).1
  ·have h2:=hq.1.2.2
   have er:q00 GV.cells (v.l++[zV])=q00 GV.cells v.l++zV.cells:=by rw[q0e];rfl
   change q1l q a (List.take ((v.l.length+1)*5) (q00 GV.cells v.l++zV.cells))at h2
   rw[←er,List.take_of_length_le (by rw[q03 q0y];simp)]at h2
   refine q6f (by simp) rfl hq.1.2.1 h2 (λu hu=> ?_) hq.2.1 (by have:=hq.2.2;rw[qd0]at this;exact this)
   rcases List.mem_append.1 hu with hu|hu
   ·exact vk q hq.1.1 u hu
   ·simp at hu;subst hu;exact q6d q
 ·refine⟨q03 q13 _,by omega,λa cc _ a2 c2 _=>⟨.mk v.n v.s (a,v.l.length,cc) v.l (a2,v.ks.length+1,c2) (v.ks++[mkS [97]]) v.b,rfl,rfl,rfl,rfl,rfl,rfl,rfl,rfl,rfl,?_,λq hq=> ?_⟩⟩
  ·have ez:(mkS [97]).size=1:=rfl
   refine tp hsn hwt hvn hvm1 (by omega) (by simp;omega) (λk hk=> ?_) (by rw[q7c,kzs,kzs];omega)
   rcases List.mem_append.1 hk with hk|hk
   ·exact hvks k hk
   ·simp at hk;subst hk;omega
  ·have h2:=hq.2.2
   have er:q00 txV (v.ks++[mkS [97]])=q00 txV v.ks++txV (mkS [97]):=by rw[q0e];rfl
   change q1l q a2 (List.take ((v.ks.length+1)*1) (q00 txV v.ks++txV (mkS [97])))at h2
   rw[←er,List.take_of_length_le (by rw[q03 q13];simp)]at h2
   exact q6f rfl (by simp) hq.1.2.1 (by have:=hq.1.2.2;rw[qe9]at this;exact this) (vk q hq.1.1) hq.2.1 h2
 ·have hb:IntKind.wrap .i64 (Int.tmod (n / 7) 5)=Int.tmod (n / 7) 5:=by
   rw[Int.tmod_eq_emod_of_nonneg (by omega)]
   unfold IntKind.wrap;simp[IntKind.bits,IntKind.signed];omega
  have hb2:Int.tmod (n / 7) 5=(n / 7) % 5:=Int.tmod_eq_emod_of_nonneg (by omega)
  rw[hb]
  exact⟨by decide,by decide,⟨by omega,by omega⟩,λa cc _ a2 c2 _=>fin _ _ _ _ a cc a2 c2 hvn (by omega) rfl rfl λx hx=>hx⟩
 ·rintro a cc ⟨p1,hp1⟩
  have hcc:v.l.length<=cc:=hp1.2.1
  refine⟨hcc,⟨by decide,by omega⟩,λa2 c2 _=>⟨.mk v.n v.s (slA a cc 1 5,0+v.l.length- 1,cc- 1) (v.l.drop 1) (a2,v.ks.length,c2) v.ks v.b,rfl,rfl,rfl,?w,rfl,rfl,rfl,rfl,rfl,?_,λq hq=> ?_⟩⟩
  ·show 0+v.l.length- 1=_
   rw[←xl];kernel_rfl
  ·have hd:PV.wts (GV.pvs (v.l.drop 1))<=PV.wts (GV.pvs v.l):=by
    have:=q45 (GV.pvs v.l) 1
    rw[GV.pvs_map,List.map_drop,←GV.pvs_map];omega
   refine tp hsn hwt hvn (λu hu=>hvm1 u ?_) (by simp;omega) (by omega) hvks (by omega)
   rw[GV.pvs_map,List.map_drop,←GV.pvs_map]at hu
   exact List.mem_of_mem_drop hu
  ·have h2:=hq.1.2.2
   rw[qe9]at h2
   have h2:=q6b (l:=1) (sz:=5) (c:=cc) (us:=q00 GV.cells (v.l.drop 1)) h2 (by omega) (by rw[q03 q0y];omega) (q8o q0y v.l 1 (by omega))
   exact q6f (by simp) rfl (by omega) h2 (λu hu=>vk q hq.1.1 u (List.mem_of_mem_drop hu)) hq.2.1 (by have:=hq.2.2;rw[qd0]at this;exact this)
 ·exactλa cc _ a2 c2 _=>fin _ _ _ _ a cc a2 c2 hvn (by omega) rfl rfl λx hx=>hx
 ·refine⟨⟨by omega,by omega⟩,⟨⟨0,(v.ks.length:Int)- 1,v.ks⟩,rfl,rfl,rfl,⟨⟨by show(0:Int)<=0;decide,by show(0:Int)<=_;omega⟩,⟨by show -1<=(v.ks.length:Int)- 1;omega,by show(v.ks.length:Int)- 1<_;omega⟩,rfl,rfl,λx hx=>hx⟩⟩,?_⟩
  rintro⟨i,k,ks⟩ ⟨⟨i0,i1⟩,⟨k0,k1⟩,l1,l2,l3⟩
  simp only at i0 i1 k0 k1 l1 l2 l3⊢
  refine⟨λhlt=> ?_,λhge a cc _ a2 c2 _=>fin _ _ _ ks a cc a2 c2 hvn (by omega) l1 l2 l3⟩
  obtain⟨i,hi,rfl⟩:=q22 (t:=i) (n:=v.ks.length) ⟨i0,by omega⟩
  obtain⟨k,hk,rfl⟩:=q22 (t:=k) (n:=v.ks.length) ⟨by omega,k1⟩
  have hi2:i<ks.length:=by omega
  have hk2:k<ks.length:=by omega
  have hk3:k<(ks.set i ks[k]).length:=by rw[List.length_set];exact hk2
  have z1:=que hi2 ks[k]
  have z2:=que hk3 ks[i]
  rw[List.getElem_set_ne (by omega)]at z2
  have r1:=q6v q13 ks i hi2 ks[k]
  have r2:=q6v q13 (ks.set i ks[k]) k hk3 ks[i]
  rw[Nat.zero_add]at r1 r2
  rw[r1]at r2
  have r1':spl (q00 txV ks) (i*1) [.string ks[k]]=q00 txV (ks.set i ks[k]):=r1.symm
  simp only[Int.toNat_natCast,r1',q03 q13,List.length_set]
  refine⟨⟨by omega,by omega⟩,ks[k],λj w h=>qi2 q13 ks hk2 j w h,⟨by omega,by omega⟩,ks[i],λj w h=>qi2 q13 ks hi2 j w h,⟨by omega,by omega⟩,by show i*1+1<=_;omega,⟨by omega,by omega⟩,by show k*1+1<=(spl (q00 txV ks) (i*1) [.string ks[k]]).length;rw[r1',q03 q13,List.length_set];omega,⟨by omega,by omega⟩,⟨by omega,by omega⟩,⟨(i:Int)+1,(k:Int)- 1,(ks.set i ks[k]).set k ks[i]⟩,rfl,rfl,?_,⟨⟨by show 0<=(i:Int)+1;omega,by show(i:Int)+1<=_;omega⟩,⟨by show -1<=(k:Int)- 1;omega,by show(k:Int)- 1<_;omega⟩,by simp[l1],by show kzs ((ks.set i ks[k]).set k ks[i])=_;omega,λx hx=> ?_⟩,by show((k:Int)- 1- ((i:Int)+1)+1).toNat<((k:Int)- i+1).toNat;omega⟩
  ·exact r2
  ·rcases List.mem_or_eq_of_mem_set hx with hx|rfl
   ·rcases List.mem_or_eq_of_mem_set hx with hx|rfl
    ·exact l3 x hx
    ·exact l3 _ (List.getElem_mem hk2)
   ·exact l3 _ (List.getElem_mem hi2)
theorem qby:∀n,q0d P 15 (q67.below muTu n)
 |0=>CtR.below_zero (by decide) (by decide) (Sen.enters_of Try.func15 (by kernel_rfl)) λs=>rfl
 |n+1=>tu_ok n (qby n)
theorem qlh:q0d P 15 q67:=CtR.of_below qby
theorem size0{s:ByteArray} (h:s.size=0):s=mkS []:=by
 obtain⟨⟨l⟩⟩:=s
 have:l=[]:=List.length_eq_zero_iff.1 h
 subst this;rfl
theorem q5a{S:List AT} {i:Nat} (hi:i<S.length) {v:GV} (h:PV.fits S i v.pv=true):(isN S[i].k=true->v.s=mkS []/\v.l=[]/\v.ks=[]/\v.b=0)/\(isT S[i].k=true->v.n=0/\v.l=[]/\v.ks=[]/\v.b=0)/\(isQ S[i].k=true->v.n=0/\v.s=mkS []/\(S[i].k≠13->v.ks=[])/\(S[i].k≠14->v.b=0)):=by
 rw[GV.pv_eq,PV.fits,if_neg (by omega)]at h
 simp only[Int.toNat_natCast,List.getElem?_eq_getElem hi,GV.pvs_len]at h
 refine⟨λhk=> ?_,λhk=> ?_,λhk=> ?_⟩
 ·rw[if_pos hk]at h
  unfold qgc at h
  simp only[Bool.and_eq_true,decide_eq_true_eq]at h
  obtain⟨⟨_,h1⟩,⟨h2,h3⟩,h4⟩:=h
  exact⟨size0 h1,List.length_eq_zero_iff.1 h2,List.length_eq_zero_iff.1 h3,h4⟩
 ·have hn:¬isN S[i].k=true:=λg=>by
   unfold isT at hk;unfold isN at g
   have:=of_decide_eq_true hk;have:=of_decide_eq_true g;omega
  rw[if_neg hn,if_pos hk]at h
  unfold qgc at h
  simp only[Bool.and_eq_true,decide_eq_true_eq]at h
  obtain⟨⟨_,h1⟩,⟨h2,h3⟩,h4⟩:=h
  exact⟨h1,List.length_eq_zero_iff.1 h2,List.length_eq_zero_iff.1 h3,h4⟩
 ·have hn:¬isN S[i].k=true:=λg=>by
   unfold isQ at hk;unfold isN at g
   have:=of_decide_eq_true hk;have:=of_decide_eq_true g;omega
  have ht:¬isT S[i].k=true:=λg=>by
   unfold isQ at hk;unfold isT at g
   have:=of_decide_eq_true hk;have:=of_decide_eq_true g;omega
  rw[if_neg hn,if_neg ht,if_pos hk]at h
  simp only[Bool.and_eq_true,decide_eq_true_eq]at h
  obtain⟨⟨⟨h1,_⟩,h2⟩,h3⟩:=h
  have hc:¬(v.ks.length>0/\S[i].k≠13\/v.b≠0/\S[i].k≠14):=λg=>by unfold okP at h1;rw[if_pos g]at h1;cases h1
  exact⟨h2,size0 h3,λhk=>List.length_eq_zero_iff.1 (by omega),λhk=>by omega⟩
theorem q6z(d:Int):10060000<=avW d:=by
 unfold avW
 exact Nat.le_mul_of_pos_right _ (Nat.pow_pos (by decide))
theorem q94{d:Int} (h:d<=5):avW d=31*avW (d+1):=by
 unfold avW
 rw[show(6- d).toNat=(6- (d+1)).toNat+1 by omega,Nat.pow_succ]
 omega
structure AvH(S:List AT) (i:Nat) (hi:i<S.length) (v:GV) (d:Int):Prop where
 hS:q0j S
 ls:lsB S i=true
 ft:PV.fits S i v.pv=true
 sn:v.pv.sn
 wt:v.pv.wt<=10060000
 nl:S[i].k=12\/S[i].k=13->v.l=[]
 d5:d<=5
section
variable {S:List AT} {i:Nat} {hi:i<S.length} {v:GV} {d:Int} {L:List Int} {n n':Int}
theorem avSame(h:AvH S i hi v d) (hn:n<=n'/\n'<=L.length):q0w S i d L n v true n':=⟨h.ls.symm,hn,h.sn,Nat.le_trans h.wt (q6z d),λ_=>h.ft⟩
theorem avN(h:AvH S i hi v d) (hn:n<=n'/\n'<=L.length) {N:Int} (hk:isN S[i].k=true) (hN:0<=N/\N<18446744073709551616) (ho:okN S[i] N=true):q0w S i d L n (.mk N v.s v.x v.l v.y v.ks v.b) true n':=by
 obtain⟨e1,e2,e3,e4⟩:=(q5a hi h.ft).1 hk
 have ep:(GV.mk N v.s v.x v.l v.y v.ks v.b).pv= .mk N (mkS []) [] [] 0:=by rw[GV.pv,e1,e2,e3,e4,GV.pvs]
 unfold q0w
 rw[ep,q5f,PV.wts,kzs,ms0]
 have:=q6z d
 exact⟨h.ls.symm,hn,q7k hN (by rw[ms0];decide) (by decide) (by decide) (λk hk=>by cases hk) (λv hv=>by cases hv),by omega,λ_=>fits_N hi hk ho⟩
theorem avT(h:AvH S i hi v d) (hn:n<=n'/\n'<=L.length) {s:ByteArray} (hk:isT S[i].k=true) (hs:s.size<=1000) (ho:okT S[i] s=true):q0w S i d L n (.mk v.n s v.x v.l v.y v.ks v.b) true n':=by
 obtain⟨e1,e2,e3,e4⟩:=(q5a hi h.ft).2.1 hk
 have ep:(GV.mk v.n s v.x v.l v.y v.ks v.b).pv= .mk 0 s [] [] 0:=by rw[GV.pv,e1,e2,e3,e4,GV.pvs]
 unfold q0w
 rw[ep,q5f,PV.wts,kzs]
 have:=q6z d
 exact⟨h.ls.symm,hn,q7k (by decide) (by omega) (by decide) (by decide) (λk hk=>by cases hk) (λv hv=>by cases hv),by omega,λ_=>quj hi hk ho⟩
theorem qfq{k:Int} (h:k=9\/k=12\/k=13\/k=14):isQ k=true:=by unfold isQ;exact decide_eq_true h
theorem avUni(h:AvH S i hi v d) {b:Nat} (hk:S[i].k=14) (hb:b<S[i].brs.length) {w:GV} {x:SV} {m:Int} (hm:n<=m) (hw:q0w S (S[i].brs[b]) (d+1) L m w true n'):q0w S i d L n (.mk v.n v.s x [w] v.y v.ks (b:Int)) true n':=by
 obtain⟨e1,e2,e3,e4⟩:=(q5a hi h.ft).2.2 (qfq (by omega))
 have e3:=e3 (by omega)
 obtain⟨w1,w2,w3,w4,w5⟩:=hw
 have ep:(GV.mk v.n v.s x [w] v.y v.ks (b:Int)).pv= .mk 0 (mkS []) [w.pv] [] b:=by rw[GV.pv,e1,e2,e3,GV.pvs,GV.pvs]
 have hd:=q94 h.d5
 have:=q6z (d+1)
 unfold q0w
 rw[ep,q5f,kzs,ms0,q7o]
 exact⟨h.ls.symm,⟨by omega,w2.2⟩,q7k (by decide) (by rw[ms0];decide) (by show 1<=1000;decide) (by decide) (λk hk=>by cases hk) (λu hu=>by simp at hu;subst hu;exact w3),by omega,λ_=>qjc hi hk hb (by rw[q79 hb];exact w5 rfl)⟩
theorem avRec(h:AvH S i hi v d) (hk:S[i].k=9) {fs:List GV} {x:SV} {j:Nat} (hj:S[i].fs.length<=j) (hI:reI S S[i] L d n j n' (GV.pvs fs)):q0w S i d L n (.mk v.n v.s x fs v.y v.ks v.b) true n':=by
 obtain⟨e1,e2,e3,e4⟩:=(q5a hi h.ft).2.2 (qfq (by omega))
 have e3:=e3 (by omega)
 have e4:=e4 (by omega)
 obtain⟨⟨l1,l2⟩,l3,l4,l5,l6⟩:=hI
 have hf:=(h.hS.2 S[i] (List.getElem_mem hi)).2.2.2.2.2.2.2.1
 have ep:(GV.mk v.n v.s x fs v.y v.ks v.b).pv= .mk 0 (mkS []) (GV.pvs fs) [] 0:=by rw[GV.pv,e1,e2,e3,e4]
 have hd:=q94 h.d5
 have:=q6z (d+1)
 have hm:(GV.pvs fs).length*avW (d+1)<=30*avW (d+1):=Nat.mul_le_mul_right _ (by omega)
 unfold q0w
 rw[ep,q5f,kzs,ms0]
 exact⟨h.ls.symm,l3,q7k (by decide) (by rw[ms0];decide) (by omega) (by decide) (λk hk=>by cases hk) l5,by omega,λ_=>qlc hi hk (by omega) l4⟩
theorem avArr(h:AvH S i hi v d) (hk:S[i].k=12) {fs:List GV} {x:SV} {m:Int} (hI:arI S S[i] L d n m n' (GV.pvs fs)):q0w S i d L n (.mk v.n v.s x fs v.y v.ks v.b) true n':=by
 obtain⟨e1,e2,e3,e4⟩:=(q5a hi h.ft).2.2 (qfq (by omega))
 have e3:=e3 (by omega)
 have e4:=e4 (by omega)
 obtain⟨⟨l1,l2⟩,l3,l4,l5⟩:=hI
 have ep:(GV.mk v.n v.s x fs v.y v.ks v.b).pv= .mk 0 (mkS []) (GV.pvs fs) [] 0:=by rw[GV.pv,e1,e2,e3,e4]
 have hd:=q94 h.d5
 have:=q6z (d+1)
 have hm:(GV.pvs fs).length*avW (d+1)<=3*avW (d+1):=Nat.mul_le_mul_right _ (by omega)
 unfold q0w
 rw[ep,q5f,kzs,ms0]
 exact⟨h.ls.symm,l3,q7k (by decide) (by rw[ms0];decide) (by omega) (by decide) (λk hk=>by cases hk) (λu hu=>(l4 u hu).2),by omega,λ_=>qk1 hi hk λu hu=>(l4 u hu).1⟩
theorem avMap(h:AvH S i hi v d) (hk:S[i].k=13) {u:GV} {m:Int} (hI:maI S S[i] L d n m n' u):q0w S i d L n u true n':=by
 obtain⟨⟨l1,l2⟩,l3,⟨e1,e2,e4⟩,⟨l4,l5⟩,l6,l7,l8,l9⟩:=hI
 have ep:u.pv= .mk 0 (mkS []) (GV.pvs u.l) u.ks 0:=by rw[GV.pv_eq,e1,e2,e4]
 have hd:=q94 h.d5
 have:=q6z (d+1)
 have hm:(3- m)*((avW (d+1):Int)+12)<=3*((avW (d+1):Int)+12):=Int.mul_le_mul_of_nonneg_right (by omega) (by omega)
 have hl:=GV.pvs_len u.l
 unfold q0w
 rw[ep,q5f,ms0]
 exact⟨h.ls.symm,l3,q7k (by decide) (by rw[ms0];decide) (by omega) (by omega) (λk hk=>by have:=l8 k hk;omega) (λu hu=>(l7 u hu).2),by omega,λ_=>qkq hi hk (by omega) l6 λu hu=>(l7 u hu).1⟩
theorem reI_snoc{a:AT} {j:Nat} {n1 n2:Int} {fs:List GV} (hj:j<a.fs.length) (hI:reI S a L d n j n1 (GV.pvs fs)) {w:GV} {b:Bool} (hb:lsB S (a.fs[j]).ty=true) (hw:q0w S (a.fs[j]).ty (d+1) L n1 w b n2):reI S a L d n (j+1) n2 (GV.pvs (fs++[w])):=by
 obtain⟨⟨l1,l2⟩,l3,l4,l5,l6⟩:=hI
 obtain⟨w1,w2,w3,w4,w5⟩:=hw
 rw[q6e]
 refine⟨⟨by simp[l1],by omega⟩,⟨by omega,w2.2⟩,λk h1 h2=> ?_,λu hu=> ?_,?_⟩
 ·by_cases hk:k<(GV.pvs fs).length
  ·rw[List.getElem_append_left hk];exact l4 k hk h2
  ·obtain rfl:k=j:=by simp at h1;omega
   rw[List.getElem_append_right (by omega)]
   simp only[l1,Nat.sub_self,List.getElem_cons_zero];exact w5 (w1.trans hb)
 ·rcases List.mem_append.1 hu with hu|hu
  ·exact l5 u hu
  ·simp at hu;subst hu;exact w3
 ·rw[q4q,q7o,List.length_append,Nat.add_mul]
  show _<=_+1*_
  omega
theorem arI_snoc{a:AT} {m n1 n2:Int} {fs:List GV} (hm:0<m) (hI:arI S a L d n m n1 (GV.pvs fs)) {w:GV} (hw:q0w S a.it (d+1) L n1 w true n2):arI S a L d n (m- 1) n2 (GV.pvs (fs++[w])):=by
 obtain⟨⟨l1,l2⟩,l3,l4,l5⟩:=hI
 obtain⟨w1,w2,w3,w4,w5⟩:=hw
 rw[q6e]
 refine⟨⟨by omega,by rw[List.length_append,List.length_singleton];omega⟩,⟨by omega,w2.2⟩,λu hu=> ?_,?_⟩
 ·rcases List.mem_append.1 hu with hu|hu
  ·exact l4 u hu
  ·simp at hu;subst hu;exact⟨w5 rfl,w3⟩
 ·rw[q4q,q7o,List.length_append,Nat.add_mul]
  show _<=_+1*_
  omega
theorem maI_put{a:AT} {m n1 n2 n3:Int} {u z:GV} (hm:0<m) (hI:maI S a L d n m n1 u) {w:GV} {k:ByteArray} (hk:vld k=true) (hks:k.size=2) (hw:q0w S a.it (d+1) L n1 w true n2) (hn3:n2<=n3/\n3<=L.length) (hz:z.pv= .mk u.n u.s (qgb k u.ks (GV.pvs u.l) w.pv) (q4r k u.ks) u.b):maI S a L d n (m- 1) n3 z:=by
 obtain⟨⟨l1,l2⟩,l3,⟨e1,e2,e4⟩,⟨l4,l5⟩,l6,l7,l8,l9⟩:=hI
 obtain⟨w1,w2,w3,w4,w5⟩:=hw
 rw[GV.pv_eq]at hz
 injection hz with z1 z2 z3 z4 z5
 have hpl:=qvw k u.ks (GV.pvs u.l) w.pv (by rw[GV.pvs_len];exact l4)
 rw[←z3,←z4,GV.pvs_len,GV.pvs_len]at hpl
 have hkz:=putS_kz (k:=k) (ks:=u.ks)
 have hwz:=putV_wt (k:=k) (ks:=u.ks) (l:=GV.pvs u.l) (w:=w.pv)
 rw[←z3]at hwz
 rw[←z4]at hkz
 have hmul:(3- (m- 1))*((avW (d+1):Int)+12)=(3- m)*((avW (d+1):Int)+12)+((avW (d+1):Int)+12):=by rw[show 3- (m- 1)=(3- m)+1 by omega,Int.add_mul,Int.one_mul]
 refine⟨⟨by omega,by omega⟩,⟨by omega,hn3.2⟩,⟨z1.trans e1,z2.trans e2,z5.trans e4⟩,⟨hpl.1,by omega⟩,by rw[z4];exact qjg hk l6,λy hy=> ?_,λy hy=> ?_,by rw[hmul];omega⟩
 ·rw[z3]at hy
  rcases putV_mem hy with rfl|hy
  ·exact⟨w5 rfl,w3⟩
  ·exact l7 y hy
 ·rw[z4]at hy
  rcases qy1 hy with rfl|hy
  ·omega
  ·exact l8 y hy
end
theorem ql3(M:List Int) {r:Nat} (h:r<M.length):∀(j:Nat) v,[Value.int .u64 (M.getD r 0)][j]? =some v->(M.map (Value.int .u64))[0+r*1+j]? =some v:=λj v hj=>by
  cases j with
  |succ j=>simp at hj
  | zero=>
    rw[Nat.zero_add,Nat.mul_one,Nat.add_zero,List.getElem?_map,List.getElem?_eq_getElem h,←hj,q79 h];rfl
theorem qkj{M:List Int} {p:Int->Prop} (hp:∀x∈M,p x) {r:Nat} (h:r<M.length):p (M.getD r 0):=hp _ (q6t h)
theorem lit_tx(M:List ByteArray) {r:Nat} (h:r<M.length):∀(j:Nat) v,[Value.string (M.getD r (mkS []))][j]? =some v->(M.map Value.string)[0+r*1+j]? =some v:=λj v hj=>by
  cases j with
  |succ j=>simp at hj
  | zero=>
    rw[Nat.zero_add,Nat.mul_one,Nat.add_zero,List.getElem?_map,List.getElem?_eq_getElem h,←hj,List.getD_eq_getElem?_getD,List.getElem?_eq_getElem h];rfl
theorem lit_ti{M:List ByteArray} {p:ByteArray->Prop} (hp:∀x∈M,p x) {r:Nat} (h:r<M.length):p (M.getD r (mkS [])):=hp _ (by rw[List.getD_eq_getElem?_getD,List.getElem?_eq_getElem h];exact List.getElem_mem h)
theorem q4n{q:Pub} {v:GV} (h:v.ok q) (N:Int) (s:ByteArray) (b:Int):(GV.mk N s v.x v.l v.y v.ks b).ok q:=by
 rw[GV.ok_eq]at h;unfold GV.ok;exact h
theorem avalO_ok(c:Nat) (ha:q0d P 14 ((q7w qoq).below qiu c)):q0d P 14 ((q7w no12).below qiu (c+1)):=by
 refine q0v mixed (q05 (q01 qbp (q01 qhv q06))) (q0g (q04 ha (q04 qg7 (q04 qjt q0q)))) (W:=wAVal false) Try.func14 (by kernel_rfl) (show 1<=2 by decide) (show 2<=2 by decide) (λs=>by kernel_rfl) λ⟨S,(x:SV),(t:Int),(d:Int),(y:SV),L,(n:Int)⟩=>(qxu c S x t d y L n).mpr ?_
 rintro⟨hmu,hS,ht,hkap,⟨hd0,hd6⟩,hn0,hn1,hL⟩ ⟨p,_,hx,hy⟩
 have hmu:(10- d).toNat<c+1:=hmu
 obtain⟨i,hi,rfl⟩:=q22 ht
 have hkap:S[i].k≠12:=by have:=hkap;unfold no12 at this;rw[q1n hi]at this;exact this
 have sl:x.2.1=S.length:=hx.1.1
 have hat:=λq (hq:q0l S x q)=>q5r hq hi
 have hao:=λq (hq:q0l S x q)=>hq.2 S[i] (List.getElem_mem hi)
 have hg:=hS.2 S[i] (List.getElem_mem hi)
 have h60:=hS.1
 obtain⟨_,syl,fl,bl⟩:=q2r (hao p hx)
 have hkk:=hg.1
 have hit:=hg.2.1
 have hbr:=hg.2.2.1
 have hne:=hg.2.2.2.1
 have hfr:=λf (hf:f∈S[i].fs)=>(hg.2.2.2.2.1 f hf).1
 have hsy:=hg.2.2.2.2.2.1
 have hf30:=hg.2.2.2.2.2.2.2.1
 have hb30:=hg.2.2.2.2.2.2.2.2.1
 have hs30:=hg.2.2.2.2.2.2.2.2.2
 clear hg
 have hLl:=hL.1
 have nb:=q2k hn1
 have nr:=λ(m:Int) (h:0<m)=>q28 (n:=n) (m:=m) hL h
 have ix:∀{m:Int} (h:0<m),∃r:Nat,(r:Int)<m/\q0s L n m=r:=λ{m} h=>by
  obtain⟨r,hr⟩:=Int.eq_ofNat_of_zero_le (nr m h).1
  exact⟨r,by have:=(nr m h).2;omega,hr⟩
 simp only[decide_eq_true_eq,decide_eq_false_iff_not,Bool.not_eq_true',Bool.not_eq_false',true_and,and_true,eq_self,imp_self,implies_true,exists_const,forall_const,Int.toNat_natCast,sl,q1n hi]
 refine⟨⟨S,x,(i:Int)⟩,rfl,sl,rfl,rfl,hS,λq hq=>hq.1,?_⟩
 rintro⟨v,bb⟩ ⟨hb,vsn,vwt,vf⟩ ⟨p1,⟨hx1,hy1⟩,hv⟩
 simp only at hb vsn vwt vf hv⊢
 have fin0:∃b:AvB,b.1.n=v.n/\b.1.s=v.s/\b.1.x.1=v.x.1/\b.1.x.2.1=v.x.2.1/\b.1.x.2.2=v.x.2.2/\b.1.y.1=v.y.1/\b.1.y.2.1=v.y.2.1/\b.1.y.2.2=v.y.2.2/\b.1.b=v.b/\b.2.1=bb/\b.2.2=n/\q0w S i d L n b.1 b.2.1 b.2.2/\∀q,(q0l S x q/\slP byV y L q)/\v.ok q->b.1.ok q:=⟨⟨v,bb,n⟩,rfl,rfl,rfl,rfl,rfl,rfl,rfl,rfl,rfl,rfl,rfl,⟨hb,⟨Int.le_refl _,hn1⟩,vsn,Nat.le_trans vwt (q6z d),vf.1⟩,λq hq=>hq.2⟩
 refine⟨λ_=>fin0,λhbt=>⟨λ_=>fin0,λhd5=>⟨L,λq hq=>hq.1.2,λ_=>fin0,λhov=> ?_⟩⟩⟩
 obtain rfl:bb=true:=hbt
 have vft:=vf.1 rfl
 have vnl:S[i].k=12\/S[i].k=13->v.l=[]:=λh=>by have:=vf.2 (.inr (by rw[q1n hi];exact h));rw[this];rfl
 have H:AvH S i hi v d:=⟨hS,hb.symm,vft,vsn,vwt,vnl,by omega⟩
 clear fin0 vf
 have hpp:(q0l S x p1/\slP byV y L p1)/\v.ok p1:=⟨⟨hx1,hy1⟩,hv⟩
 have nn:n<=q0f L n/\q0f L n<=L.length:=⟨nb.1,nb.2.1⟩
 refine⟨⟨by omega,by omega⟩,(hat p1 hx1).1,S[i].k,S[i].nm,S[i].al.1,S[i].al.2.1,S[i].al.2.2,S[i].it,S[i].sy.1,S[i].sy.2.1,S[i].sy.2.2,S[i].hd,S[i].df,S[i].sz,S[i].f.1,S[i].f.2.1,S[i].f.2.2,S[i].br.1,S[i].br.2.1,S[i].br.2.2,λq hq=>(hat q hq.1.1).2,λk2=> ?_,λk2=>⟨λk3=> ?_,λk3=>⟨λk4=> ?_,λk4=>⟨λk5=> ?_,λk5=>⟨λk6=> ?_,λk6=>⟨λk8=> ?_,λk8=>⟨λk7=> ?_,λk7=>⟨λk10=> ?_,λk10=>⟨λk14=> ?_,λk14=>⟨λk9=> ?_,λk9=> ?_⟩⟩⟩⟩⟩⟩⟩⟩⟩⟩
 ·obtain⟨r,hr,e⟩:=ix (m:=2) (by decide)
  have w:IntKind.wrap .u64 (r:Int)=r:=by rw[wrapU];omega
  exact⟨L,⟨hn0,hn1,by decide,by decide,hL⟩,λq hq=>hq.1.2,⟨.mk r v.s v.x v.l v.y v.ks v.b,true,q0f L n⟩,by rw[e,w];rfl,rfl,rfl,rfl,rfl,rfl,rfl,rfl,rfl,rfl,rfl,avN H nn (by unfold isN;exact decide_eq_true (by omega)) (by omega) (by unfold okN;rw[if_neg (by omega),if_pos k2];exact decide_eq_true (by omega)),λq hq=>q4n hq.2 _ _ _⟩
 ·obtain⟨r,hr,e⟩:=ix (m:=7) (by decide)
  have hz:=qkj (M:=[0,1,18446744073709551615,300,2147483647,18446744071562067968,16777217]) (p:=λx=>(0<=x/\x<18446744073709551616)/\(x<2147483648\/18446744071562067968<=x)) (by decide) (r:=r) (by simp;omega)
  refine⟨L,?_⟩
  rw[e]
  exact⟨⟨hn0,hn1,by decide,by decide,hL⟩,λq hq=>hq.1.2,⟨by omega,hr⟩,_,ql3 [0,1,18446744073709551615,300,2147483647,18446744071562067968,16777217] (r:=r) (by simp;omega),⟨.mk _ v.s v.x v.l v.y v.ks v.b,true,q0f L n⟩,rfl,rfl,rfl,rfl,rfl,rfl,rfl,rfl,rfl,rfl,rfl,avN H nn (by unfold isN;exact decide_eq_true (by omega)) hz.1 (by unfold okN;rw[if_neg (by omega),if_neg (by omega),if_pos k3];exact decide_eq_true hz.2),λq hq=>q4n hq.2 _ _ _⟩
 ·obtain⟨r,hr,e⟩:=ix (m:=7) (by decide)
  have hz:=qkj (M:=[0,1,18446744073709551615,1099511627776,9223372036854775807,9223372036854775808,9007199254740993]) (p:=λx=>(0<=x/\x<18446744073709551616)) (by decide) (r:=r) (by simp;omega)
  refine⟨L,?_⟩
  rw[e]
  exact⟨⟨hn0,hn1,by decide,by decide,hL⟩,λq hq=>hq.1.2,⟨by omega,hr⟩,_,ql3 [0,1,18446744073709551615,1099511627776,9223372036854775807,9223372036854775808,9007199254740993] (r:=r) (by simp;omega),⟨.mk _ v.s v.x v.l v.y v.ks v.b,true,q0f L n⟩,rfl,rfl,rfl,rfl,rfl,rfl,rfl,rfl,rfl,rfl,rfl,avN H nn (by unfold isN;exact decide_eq_true (by omega)) hz (by unfold okN;rw[if_neg (by omega),if_neg (by omega),if_neg (by omega),if_neg (by omega),if_neg (by omega)]),λq hq=>q4n hq.2 _ _ _⟩
 ·obtain⟨r,hr,e⟩:=ix (m:=7) (by decide)
  have hz:=qkj (M:=[0,1065353216,2139095040,1,3212836864,2143289345,2147483648]) (p:=λx=>(0<=x/\x<18446744073709551616)/\x<4294967296) (by decide) (r:=r) (by simp;omega)
  refine⟨L,?_⟩
  rw[e]
  exact⟨⟨hn0,hn1,by decide,by decide,hL⟩,λq hq=>hq.1.2,⟨by omega,hr⟩,_,ql3 [0,1065353216,2139095040,1,3212836864,2143289345,2147483648] (r:=r) (by simp;omega),⟨.mk _ v.s v.x v.l v.y v.ks v.b,true,q0f L n⟩,rfl,rfl,rfl,rfl,rfl,rfl,rfl,rfl,rfl,rfl,rfl,avN H nn (by unfold isN;exact decide_eq_true (by omega)) hz.1 (by unfold okN;rw[if_neg (by omega),if_neg (by omega),if_neg (by omega),if_pos k5];exact decide_eq_true hz.2),λq hq=>q4n hq.2 _ _ _⟩
 ·obtain⟨r,hr,e⟩:=ix (m:=5) (by decide)
  have hz:=qkj (M:=[0,4607182418800017408,1,9223372036854775808,9218868437227405312]) (p:=λx=>(0<=x/\x<18446744073709551616)) (by decide) (r:=r) (by simp;omega)
  refine⟨L,?_⟩
  rw[e]
  exact⟨⟨hn0,hn1,by decide,by decide,hL⟩,λq hq=>hq.1.2,⟨by omega,hr⟩,_,ql3 [0,4607182418800017408,1,9223372036854775808,9218868437227405312] (r:=r) (by simp;omega),⟨.mk _ v.s v.x v.l v.y v.ks v.b,true,q0f L n⟩,rfl,rfl,rfl,rfl,rfl,rfl,rfl,rfl,rfl,rfl,rfl,avN H nn (by unfold isN;exact decide_eq_true (by omega)) hz (by unfold okN;rw[if_neg (by omega),if_neg (by omega),if_neg (by omega),if_neg (by omega),if_neg (by omega)]),λq hq=>q4n hq.2 _ _ _⟩
 ·obtain⟨r,hr,e⟩:=ix (m:=4) (by decide)
  have hz:=lit_ti (M:=[mkS [],mkS [97],mkS [195,164],mkS [116,101,120,116]]) (p:=λx=>x.size<=1000/\vld x=true) (by decide+kernel) (r:=r) (by simp;omega)
  refine⟨L,?_⟩
  rw[e]
  exact⟨⟨hn0,hn1,by decide,by decide,hL⟩,λq hq=>hq.1.2,⟨by omega,hr⟩,_,lit_tx [mkS [],mkS [97],mkS [195,164],mkS [116,101,120,116]] (r:=r) (by simp;omega),⟨.mk v.n _ v.x v.l v.y v.ks v.b,true,q0f L n⟩,rfl,rfl,rfl,rfl,rfl,rfl,rfl,rfl,rfl,rfl,rfl,avT H nn (by unfold isT;exact decide_eq_true (by omega)) hz.1 (by unfold okT;rw[if_pos k8];exact hz.2),λq hq=>q4n hq.2 _ _ _⟩
 ·obtain⟨r,hr,e⟩:=ix (m:=4) (by decide)
  have hz:=lit_ti (M:=[mkS [],mkS [255],mkS [0],mkS [98]]) (p:=λx=>x.size<=1000) (by decide+kernel) (r:=r) (by simp;omega)
  refine⟨L,?_⟩
  rw[e]
  exact⟨⟨hn0,hn1,by decide,by decide,hL⟩,λq hq=>hq.1.2,⟨by omega,hr⟩,_,lit_tx [mkS [],mkS [255],mkS [0],mkS [98]] (r:=r) (by simp;omega),⟨.mk v.n _ v.x v.l v.y v.ks v.b,true,q0f L n⟩,rfl,rfl,rfl,rfl,rfl,rfl,rfl,rfl,rfl,rfl,rfl,avT H nn (by unfold isT;exact decide_eq_true (by omega)) hz (by unfold okT;rw[if_neg (by omega),if_neg (by omega)]),λq hq=>q4n hq.2 _ _ _⟩
 ·have hsp:=List.length_pos_iff.2 (hsy k10)
  rw[syl]
  obtain⟨r,hr,e⟩:=ix (m:=S[i].sys.length) (by omega)
  have w:IntKind.wrap .u64 (r:Int)=r:=by rw[wrapU];omega
  exact⟨L,⟨hn0,hn1,by omega,by omega,hL⟩,λq hq=>hq.1.2,⟨.mk r v.s v.x v.l v.y v.ks v.b,true,q0f L n⟩,by rw[e,w];rfl,rfl,rfl,rfl,rfl,rfl,rfl,rfl,rfl,rfl,rfl,avN H nn (by unfold isN;exact decide_eq_true (by omega)) (by omega) (by unfold okN;rw[if_neg (by omega),if_neg (by omega),if_neg (by omega),if_neg (by omega),if_pos k10];exact decide_eq_true (by omega)),λq hq=>q4n hq.2 _ _ _⟩
 ·have hbp:=List.length_pos_iff.2 (hne k14)
  rw[bl]
  obtain⟨r,hr,e⟩:=ix (m:=S[i].brs.length) (by omega)
  have hrl:r<S[i].brs.length:=by omega
  have bat:=λq hq=>q4b (hao q hq) hrl
  have bin:=hbr _ (List.getElem_mem hrl)
  have hun:=λw x m n' hm (hw:q0w S S[i].brs[r] (d+1) L m w true n')=>avUni (n:=n) H k14 hrl (w:=w) (x:=x) (m:=m) (n':=n') hm hw
  generalize S[i].brs[r]=bt at*
  refine⟨L,⟨hn0,hn1,by omega,by omega,hL⟩,λq hq=>hq.1.2,?_⟩
  rw[e]
  simp only[Int.toNat_natCast]
  refine⟨?xa,?xb⟩
  case xa|xb=>
   refine⟨⟨by omega,by omega⟩,(bat p1 hx1).1,bt,λq hq=>(bat q hq.1.1).2,⟨by omega,by omega⟩,⟨S,x,bt,d+1,y,L,q0f L n⟩,rfl,sl,rfl,rfl,rfl,rfl,rfl,rfl,rfl,⟨by show(10- (d+1)).toNat<c;omega,hS,bin,trivial,⟨by show 0<=d+1;omega,by show d+1<=6;omega⟩,by show 0<=q0f L n;omega,nn.2,hL⟩,λq hq=>hq.1,?_⟩
   rintro⟨w,b2,n2⟩ hw _
   have hw:q0w S bt (d+1) L (q0f L n) w b2 n2:=hw
   simp only
   refine⟨λhb2 b s _=>⟨⟨.mk v.n v.s (some ⟨b,s+0,none⟩,1,1) [w] v.y v.ks r,true,n2⟩,rfl,rfl,rfl,rfl,rfl,rfl,rfl,rfl,rfl,rfl,trivial,trivial,trivial,rfl,?_,λq hq=> ?_⟩,λhb2=>⟨⟨v,true,n2⟩,rfl,rfl,rfl,rfl,rfl,rfl,rfl,rfl,rfl,rfl,trivial,trivial,trivial,rfl,avSame H ⟨by have:=hw.2.1.1;show n<=n2;omega,hw.2.1.2⟩,λq hq=>hq.1.2⟩⟩
   ·subst hb2;exact hun w _ _ n2 nn.1 hw
   ·have hvo:=hq.1.1.2
    rw[GV.ok_eq]at hvo
    unfold GV.ok
    exact⟨⟨rfl,Nat.le_refl _, .inr ⟨_,rfl,rfl,hq.2⟩⟩,hvo.2.1,q52 hq.1.2⟩
 ·refine⟨⟨⟨0,n,[]⟩,rfl,rfl,rfl,λq hq=>GV.oks_iff.2 λv h=>(by cases h),⟨rfl,Nat.zero_le _⟩,⟨Int.le_refl _,hn1⟩,λk h1 h2=>absurd h1 (by rw[GV.pvs];simp),λv hv=>(by rw[GV.pvs]at hv;cases hv),by rw[GV.pvs,PV.wts];exact Nat.zero_le _⟩,?_⟩
  rintro⟨j,n1,fs⟩ hI ⟨p2,hp2,hfs⟩
  have hI:reI S S[i] L d n j n1 (GV.pvs fs):=hI
  simp only at hfs⊢
  have l1:fs.length=j:=by rw[←GV.pvs_len];exact hI.1.1
  have l2:=hI.1.2
  have l3:=hI.2.1
  have hfl:=qhm hS hi k9 hb.symm
  refine⟨λhlt=>⟨?xc,?xd⟩,λhge a cc _=>⟨⟨.mk v.n v.s (a,fs.length,cc) fs v.y v.ks v.b,true,n1⟩,rfl,rfl,rfl,rfl,rfl,rfl,rfl,rfl,rfl,rfl,rfl,avRec H k9 (by omega) hI,λq hq=> ?_⟩⟩
  case xc|xd=>
   have hjl:j<S[i].fs.length:=by omega
   have bat:=λq hq=>qku (hao q hq) hjl
   have bne:=(q5n (hao p1 hx1) hjl).1
   have bin:=hfr _ (List.getElem_mem hjl)
   have bls:=hfl.2 _ (List.getElem_mem hjl)
   have hsn:=λw n2 b hw=>reI_snoc hjl hI (w:=w) (n2:=n2) (b:=b) bls hw
   generalize S[i].fs[j]=f at*
   refine⟨⟨by omega,by omega⟩,bne,f.ty,λq hq=>bat q hq.1.1.1,⟨by omega,by omega⟩,⟨S,x,f.ty,d+1,y,L,n1⟩,rfl,sl,rfl,rfl,rfl,rfl,rfl,rfl,rfl,⟨by show(10- (d+1)).toNat<c;omega,hS,bin,trivial,⟨by show 0<=d+1;omega,by show d+1<=6;omega⟩,by show 0<=n1;omega,l3.2,hL⟩,λq hq=>hq.1.1,?_⟩
   rintro⟨w,b2,n2⟩ hw _
   have hw:q0w S f.ty (d+1) L n1 w b2 n2:=hw
   simp only
   exact⟨q03 q0y fs,by omega,⟨by omega,by omega⟩,⟨j+1,n2,fs++[w]⟩,by show((j+1:Nat):Int)=_;omega,trivial,trivial,trivial,rfl,by simp,by rw[q0e];rfl,λq hq=>hq.1.1,λq hq=>q9y hq.1.2 (q52 hq.2),hsn w n2 b2 hw,by show _- (j+1)<_;omega⟩
  ·have h2:=hq.2.2
   rw[List.take_of_length_le (by rw[q03 q0y];exact Nat.le_refl _)]at h2
   have hvo:=hq.1.1.2
   rw[GV.ok_eq]at hvo
   unfold GV.ok
   exact⟨⟨rfl,hq.2.1,h2⟩,hvo.2.1,hq.1.2⟩
 ·refine⟨⟨λh=>absurd h hkap,λh=> ?_⟩,λham=> ?_,λham=> ?_⟩
  ·unfold qlt;exact q11 ⟨λg=>by omega,λg=> .inr g⟩
  ·have k13:S[i].k=13:=by unfold qlt at ham;have:=of_decide_eq_true ham;omega
   have vl0:=vnl (.inr k13)
   obtain⟨e1,e2,_,e4⟩:=(q5a hi vft).2.2 (qfq (by omega))
   have e4:=e4 (by omega)
   have vk0:v.ks=[]:=by
    have:=hv;rw[GV.ok_eq]at this
    have hh:=vft
    rw[GV.pv_eq,PV.fits,if_neg (by omega)]at hh
    simp only[Int.toNat_natCast,List.getElem?_eq_getElem hi,GV.pvs_len]at hh
    rw[if_neg (by unfold isN;rw[decide_eq_false (by omega)];decide),if_neg (by unfold isT;rw[decide_eq_false (by omega)];decide),if_pos (qfq (by omega))]at hh
    simp only[Bool.and_eq_true]at hh
    have ho:=hh.1.1.1
    unfold okP at ho
    rw[if_neg (by omega),if_neg (by omega),if_neg (by omega),if_pos k13,Bool.and_eq_true,decide_eq_true_eq,vl0]at ho
    exact List.length_eq_zero_iff.1 ho.1.symm
   obtain⟨r,hr,e⟩:=ix (m:=4) (by decide)
   refine⟨L,⟨hn0,hn1,by decide,by decide,hL⟩,λq hq=>hq.1.2,⟨⟨r,q0f L n,v⟩,e.symm,rfl,rfl,rfl,rfl,rfl,rfl,rfl,rfl,rfl,rfl,λq hq=>hq.2,⟨⟨by show(0:Int)<=r;omega,by show(r:Int)<=3;omega⟩,nn,⟨e1,e2,e4⟩,⟨by rw[vk0,vl0];rfl,by rw[vl0];show(0:Int)<=3- r;omega⟩,by rw[vk0];rfl,λw hw=>(by rw[vl0,GV.pvs]at hw;cases hw),λk hk=>(by rw[vk0]at hk;cases hk),?_⟩⟩,?_⟩
   ·rw[vk0,vl0,GV.pvs,PV.wts,kzs]
    have:0<=(3- (r:Int))*((avW (d+1):Int)+12):=Int.mul_nonneg (by omega) (by omega)
    exact this
   rintro⟨m,n1,u⟩ hI ⟨p2,hp2,hu⟩
   have hI:maI S S[i] L d n m n1 u:=hI
   simp only at hu⊢
   have hI1:=hI.1
   have hI2:=hI.2.1
   have hI4:=hI.2.2.2.1
   have tin:=hit (.inr k13)
   refine⟨λhpos=> ?_,λhneg=>⟨⟨u,true,n1⟩,rfl,rfl,rfl,rfl,rfl,rfl,rfl,rfl,rfl,rfl,rfl,avMap H k13 hI,λq hq=>hq.2⟩⟩
   refine⟨⟨by omega,by omega⟩,⟨S,x,S[i].it,d+1,y,L,n1⟩,rfl,sl,rfl,rfl,rfl,rfl,rfl,rfl,rfl,⟨by show(10- (d+1)).toNat<c;omega,hS,tin,trivial,⟨by show 0<=d+1;omega,by show d+1<=6;omega⟩,by show 0<=n1;omega,hI2.2,hL⟩,λq hq=>hq.1.1,?_⟩
   rintro⟨w,b2,n2⟩ hw _
   have hw:q0w S S[i].it (d+1) L n1 w b2 n2:=hw
   simp only
   have hw1:=hw.2.1
   have e5:=q28 (n:=n2) (m:=5) hL (by decide)
   have n5:=q2k hw1.2
   refine⟨λhb2=>⟨⟨u,true,n2⟩,rfl,rfl,rfl,rfl,rfl,rfl,rfl,rfl,rfl,rfl,trivial,trivial,trivial,rfl,avMap (m:=m) H k13 ?_,λq hq=>hq.1.2⟩,λhb2=>⟨λh=>absurd h (by omega),λ_=> ?_⟩⟩
   ·obtain⟨a1,a2,a3⟩:=hI
    exact⟨a1,⟨by show n<=n2;omega,hw1.2⟩,a3⟩
   subst hb2
   obtain⟨z,hz⟩:=Int.eq_ofNat_of_zero_le e5.1
   have hz5:z<5:=by omega
   have w8:IntKind.wrap .u8 (97+(z:Int))=((97+z:Nat):Int):=by rw[qma];omega
   have s1:(mkS [97+z]).size=1:=rfl
   have s2:(mkS [107]++mkS [97+z]).size=2:=by rw[ByteArray.size_append,s1];rfl
   have s0:(mkS [107]).size=1:=rfl
   refine⟨L,⟨by show 0<=n2;omega,hw1.2,by decide,by decide,hL⟩,λq hq=>hq.1.1.1.2,⟨by omega,by omega⟩,mkS [97+z],s1,λj a hj=> ?_,by omega,⟨u,mkS [107]++mkS [97+z],w⟩,rfl,rfl,rfl,rfl,rfl,rfl,rfl,rfl,rfl,rfl,rfl,rfl,rfl,rfl,rfl,rfl,rfl,rfl,rfl,⟨hI4.1,by show u.l.length<1000000;omega⟩,λq hq=>⟨hq.1.2,hq.2⟩,?_⟩
   ·rw[bc_1 _ (by omega)]at hj;rw[hz,w8,Nat.zero_add];exact hj
   rintro g hg _
   have hg:g.pv=PV.mk u.n u.s (qgb (mkS [107]++mkS [97+z]) u.ks (GV.pvs u.l) w.pv) (q4r (mkS [107]++mkS [97+z]) u.ks) u.b:=hg
   have hvk:vld (mkS [107]++mkS [97+z])=true:=by
    rcases(by omega:z=0\/z=1\/z=2\/z=3\/z=4)with rfl|rfl|rfl|rfl|rfl<;>decide+kernel
   exact⟨⟨by omega,by omega⟩,⟨m- 1,q0f L n2,g⟩,rfl,trivial,trivial,trivial,rfl,rfl,rfl,rfl,rfl,rfl,rfl,rfl,rfl,rfl,λq hq=>hq.1.1.1,λq hq=>hq.2,maI_put hpos hI hvk s2 hw ⟨n5.1,n5.2.1⟩ hg,by show(m- 1).toNat<m.toNat;omega⟩
  ·exact⟨⟨v,true,n⟩,rfl,rfl,rfl,rfl,rfl,rfl,rfl,rfl,rfl,rfl,rfl,avSame H ⟨Int.le_refl _,hn1⟩,λq hq=>hq.2⟩
end
end Go.Proofs.Ytpanaicglidfjaa.Wd
