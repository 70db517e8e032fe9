/-
  What the functions do: contracts, and their questions answered. No condition but what its theorems ask.
-/
import Derived.Test.YtpanaicglidfjaaT2
namespace Go.Proofs.Ytpanaicglidfjaa.Wd
open Go.Proofs.Ytpanaicglidfjaa.Eng Go.Proofs.Ytpanaicglidfjaa.Sen Go.RowKit
set_option linter.defProp false
set_option linter.unusedVariables false
set_option linter.unusedSimpArgs false
set_option maxRecDepth 1000000
open Go.Value (int string slice bool)
open Go.IntKind (i64 u64 u8 u32 i32)
open _root_.List (length take drop)
open _root_.ByteArray (size)
open _root_.Int (toNat)
noncomputable section
section
variable (x0:Int) (x1:SV) (x2:List AT) (x3:SV) (x4:List Int) (x5:ByteArray) (x6:Option Addr) (x7 x8:Nat) (x9:Int) (x10:Option Addr) (x11 x12:Nat) (x13:Bool) (x14:ByteArray) (x15:Int) (x16:Option Addr) (x17 x18:Nat) (x19:Option Addr) (x20 x21:Nat) (x22:Int) (x23:Nat×Int) (x24:Int) (x25:Prop) (x26:Nat×Int)
 abbrev zq1:=(0<=x0/\x0<(↑x1.2.1:Int))/\x1.1≠noA/\x25
 def zey:=x1.1=x1.1/\x1.2.1=x1.2.1/\x1.2.2=x1.2.2/\x25
 def zex:=x0=x0/\x5=x5/\x6=x6/\x7=x7/\x8=x8/\x9=x9/\x10=x10/\x11=x11/\x12=x12/\x13=x13/\x14=x14/\x15=x15/\x16=x16/\x17=x17/\x18=x18/\x19=x19/\x20=x20/\x21=x21/\(∀i0,True/\z05 x2 x1 i0/\slP inV x3 x4 i0->True/\z05 x2 x1 i0/\slP inV x3 x4 i0)/\x25
 def zpy:=x23.1<=length (AT.brs (atS x2 x0))/\((-1:Int)<=x23.2/\x23.2<=100)/\z88 x4 (drop x23.1 (AT.brs (atS x2 x0))) x23.2=z88 x4 (AT.brs (atS x2 x0)) (-1:Int)
 def zyk:=(∀i0,True/\z05 x2 x1 i0/\slP inV x3 x4 i0->q3f i0 (adr x3.1 (toNat x0*1)) [int i64 x9])
 abbrev zq0:=Jb ((↑x23.1:Int)+1)
 def zyl:=(zpy x0 x2 x4 x23)/\length (AT.brs (atS x2 x0))- x23.1<length (AT.brs (atS x2 x0))- x26.1/\True
 def jbo:=zq0 x23/\∃(i0:Nat×Int),(↑i0.1:Int)=(↑x23.1:Int)+1/\zey x1 (i0.2=x0/\zex x9 x3 x2 x1 x4 x5 x6 x7 x8 x15 x10 x11 x12 x13 x14 x22 x16 x17 x18 x19 x20 x21 (zyl x24 x2 x4 i0 x23))
 def jbn:=zq0 x23/\∃(i0:Nat×Int),(↑i0.1:Int)=(↑x23.1:Int)+1/\zey x1 (i0.2=x23.2/\zex x0 x3 x2 x1 x4 x5 x6 x7 x8 x9 x10 x11 x12 x13 x14 x15 x16 x17 x18 x19 x20 x21 (zyl x22 x2 x4 i0 x23))
 def jjz:=Ji (x23.2<0) (jbo x0 x1 x2 x3 x4 x5 x6 x7 x8 x9 x10 x11 x12 x13 x14 x15 x16 x17 x18 x19 x20 x21 x22 x23 x24) (Ji (x0<x23.2) (jbo x0 x1 x2 x3 x4 x5 x6 x7 x8 x9 x10 x11 x12 x13 x14 x15 x16 x17 x18 x19 x20 x21 x22 x23 x24) (jbn x9 x1 x2 x3 x4 x5 x6 x7 x8 x15 x10 x11 x12 x13 x14 x22 x16 x17 x18 x19 x20 x21 x24 x23))
 def jjy:=(0<=(↑x23.1:Int)/\(↑x23.1:Int)<(↑x7:Int))/\x6≠noA/\∃(i0:Int),(∀i1,True/\z05 x2 x1 i1/\slP inV x3 x4 i1->q3f i1 (adr x6 (toNat (↑x23.1:Int)*1)) [int i64 i0])/\zq1 i0 x3 (∃(i2:Int),zyk i0 x1 x2 x3 x4 i2/\Ji (0<=i2) (jjz i2 x3 x2 x1 x4 x5 x10 x8 x11 x0 x16 x12 x17 x13 x14 x9 x19 x18 x20 x6 x7 x21 x15 x23 x22) (jbn x0 x3 x2 x1 x4 x5 x10 x8 x11 x9 x16 x12 x17 x13 x14 x15 x19 x18 x20 x6 x7 x21 x22 x23))
 def zyj:=Jb (x23.2+1)/\rkd x4 (atS x2 x0)=x23.2+1/\True
 def j6q:=Ji (x23.2<0) (rkd x4 (atS x2 x0)= -1/\True) (zyj x0 x2 x4 x23)
 def jjx:=Ji ((↑x23.1:Int)<(↑x7:Int)) (jjy x0 x1 x2 x3 x4 x5 x6 x7 x8 x9 x10 x11 x12 x13 x14 x15 x16 x17 x18 x19 x20 x21 x22 x23) (j6q x22 x2 x4 x23)
 def jjw:=(∃(i0:Nat×Int),(↑i0.1:Int)=0/\zey x1 (i0.2= -1/\zex x0 x3 x2 x1 x4 x5 x6 x7 x8 x9 x10 x11 x12 x13 x14 x15 x16 x17 x18 x19 x20 x21 ((zpy x22 x2 x4 i0)/\True)))/\∀(i2:Nat×Int),zpy x22 x2 x4 i2->jjx x0 x3 x2 x1 x4 x5 x19 x20 x7 x9 x6 x8 x11 x13 x14 x15 x10 x12 x17 x16 x18 x21 x22 i2
 def zpz:=x23.1<=length (AT.fs (atS x2 x0))/\(0<=x23.2/\x23.2<=100)/\z82 x4 (drop x23.1 (AT.fs (atS x2 x0))) x23.2=z82 x4 (AT.fs (atS x2 x0)) 0
 abbrev j6p:=zq0 x23/\∃(i0:Nat×Int),(i0.2=if x0>x23.2 then x0 else x23.2)/\zey x1 ((↑i0.1:Int)=(↑x23.1:Int)+1/\zex x9 x3 x2 x1 x4 x5 x6 x7 x8 x15 x10 x11 x12 x13 x14 x22 x16 x17 x18 x19 x20 x21 ((zpz x24 x2 x4 i0)/\length (AT.fs (atS x2 x24))- i0.1<length (AT.fs (atS x2 x24))- x23.1/\True))
 def jk2:=(0<=(↑x23.1:Int)/\(↑x23.1:Int)<(↑x7:Int))/\x6≠noA/\∃(i0:Int),(∀i1,True/\z05 x2 x1 i1/\slP inV x3 x4 i1->q3f i1 (Addr.add (adr x6 (toNat (↑x23.1:Int)*9)) 2) [int i64 i0])/\zq1 i0 x3 (∃(i2:Int),zyk i0 x1 x2 x3 x4 i2/\Ji (i2<0) (rkd x4 (atS x2 x0)= -1/\True) (j6p i2 x3 x2 x1 x4 x5 x10 x8 x11 x9 x16 x12 x17 x13 x14 x15 x6 x7 x18 x19 x20 x21 x22 x23 x0))
 def jk1:=Ji ((↑x23.1:Int)<(↑x7:Int)) (jk2 x0 x1 x2 x3 x4 x5 x6 x7 x8 x9 x10 x11 x12 x13 x14 x15 x16 x17 x18 x19 x20 x21 x22 x23) (zyj x0 x2 x4 x23)
 def jk0:=(∃(i0:Nat×Int),i0.2=0/\zey x1 ((↑i0.1:Int)=0/\zex x0 x3 x2 x1 x4 x5 x6 x7 x8 x9 x10 x11 x12 x13 x14 x15 x16 x17 x18 x19 x20 x21 ((zpz x22 x2 x4 i0)/\True)))/\∀(i2:Nat×Int),zpz x22 x2 x4 i2->jk1 x22 x3 x2 x1 x4 x5 x16 x17 x7 x0 x6 x8 x11 x13 x14 x9 x10 x12 x18 x19 x20 x21 x15 i2
 def jjv:=zq1 x0 x1 (∃(i0:Int),∃i1,∃i2,∃(i3:Nat),∃(i4:Nat),∃(i5:Int),∃i6,∃(i7:Nat),∃(i8:Nat),∃(i9:Bool),∃i10,∃(i11:Int),∃i12,∃(i13:Nat),∃(i14:Nat),∃i15,∃(i16:Nat),∃(i17:Nat),(∀i18,True/\z05 x2 x1 i18/\slP inV x3 x4 i18->q3f i18 (adr x1.1 (toNat x0*10)) [int i64 i0,string i1,slice i2 i3 i4,int i64 i5,slice i6 i7 i8,bool i9,string i10,int i64 i11,slice i12 i13 i14,slice i15 i16 i17])/\Ji (i0=14) (jjw i0 x3 x2 x1 x4 i1 i2 i3 i4 i5 i6 i7 i8 i9 i10 i11 i12 i13 i14 i15 i16 i17 x0) (jk0 i0 x3 x2 x1 x4 i1 i2 i3 i4 i5 i6 i7 i8 i9 i10 i11 i12 i13 i14 i15 i16 i17 x0))
end
def zdx(S:List AT) (x:SV) (t:Int) (y:SV) (R:List Int):qki P (qfv []) Try.f90 z9i (ziq) ⟨S,x,t,y,R⟩=(z0a S/\zue (length S) R/\0<=t/\t<(↑(length S):Int)->(∃(p:Pub),True/\z05 S x p/\slP inV y R p)->jjv t x S y R):=by kernel_rfl
def zho:=λS x t y R=>Eq.trans (zdx S x t y R) (by delta Ji Jb Jt Jf zq1 zey zex zpy zyk zq0 zyl jbo jbn jjz jjy zyj j6q jjx jjw zpz j6p jk2 jk1 jk0 jjv;exact rfl)
section
variable (x0:SV) (x1:List AT) (x2 x3 x4 x5:Nat) (x6:Nat×Option Addr×Nat×Nat) (x7:Nat) (x8:Nat->Option Obj) (x9:Option Addr) (x10:Nat) (x11:Prop) (x12:Int)
 abbrev z27:=(↑x0.2.1:Int)
 def z7v:=x0.1=x0.1/\x0.2.1=x0.2.1/\x0.2.2=x0.2.2/\x11
 abbrev z7w:=z4g (List.map ini x1) (List.replicate (length x1) 0) x2
 def zq4:=(∀i0,True/\z05 x1 x0 i0->True/\z05 x1 x0 i0)
 abbrev zq6:=(↑x2:Int)<(↑(toNat (z27 x0)):Int)
 def zym:=(∀i0,True/\z05 x1 x0 i0->q3f i0 (Addr.add (adr x0.1 (toNat (↑x2:Int)*10)) 0) [int i64 x12])
 abbrev zkh:=(0:Nat)+toNat (↑x2:Int)*nat_lit 1
 abbrev zkf:=Jb ((↑x2:Int)+1)
 def zkg:=x2<=length x1/\length x1- x2<length x1- x3/\True
 def j6r:=(0<=(↑x2:Int)/\zq6 x0 x2)/\(0:Nat)+toNat (↑x2:Int)*nat_lit 1+length [int i64 0]<=length (spl (z00 inV (z7w x1 x2)) (zkh x2) [int i64 (-1:Int)])/\zkf x2/\∃(i0:Nat),toNat (z27 x0)=toNat (z27 x0)/\(↑i0:Int)=(↑x2:Int)+1/\z7v x0 (z00 inV (z7w x1 i0)=spl (spl (z00 inV (z7w x1 x2)) (zkh x2) [int i64 (-1:Int)]) (zkh x2) [int i64 0]/\zq4 x0 x1/\zkg x1 i0 x2)
 def jbp:=zkf x2/\∃(i0:Nat),toNat (z27 x0)=toNat (z27 x0)/\(↑i0:Int)=(↑x2:Int)+1/\z7v x0 (z00 inV (z7w x1 i0)=spl (z00 inV (z7w x1 x2)) (zkh x2) [int i64 (-1:Int)]/\zq4 x0 x1/\zkg x1 i0 x2)
 def jka:=(0<=(↑x2:Int)/\(↑x2:Int)<(z27 x0))/\x0.1≠noA/\∃(i0:Int),zym x0 x1 x2 i0/\((!decide (i0=14))=true->j6r x0 x1 x2)/\((!decide (i0=14))=false->jbp x0 x1 x2)
 def jk8:=(0<=(↑x2:Int)/\zq6 x0 x2)/\(0:Nat)+toNat (↑x2:Int)*nat_lit 1+length [int i64 (-1:Int)]<=length (z00 inV (z7w x1 x2))/\(0<=(↑x2:Int)/\(↑x2:Int)<(z27 x0))/\x0.1≠noA/\∃(i0:Int),zym x0 x1 x2 i0/\((!decide (i0=9))=true->jka x0 x1 x2)/\((!decide (i0=9))=false->jbp x0 x1 x2)
 def zyn:=(True/\z05 x1 x0 x8)/\True/\toNat (z27 x0)<=x2 / nat_lit 1/\qhc x8 (some (Addr.mk x3 x4 none)) (take (toNat (z27 x0)*nat_lit 1) (z00 inV (z7w x1 x5)))
 def z5k:=(zyn x0 x1 x2 x3 x4 x5 x8)/\slP inV x6.2 (rkN x1 x6.1) x8
 abbrev zq5:=(↑x6.2.2.1:Int)
 def zke:=x6.2.1=x6.2.1/\x6.2.2.1=x6.2.2.1/\x6.2.2.2=x6.2.2.2/\x11
 def zq3:=(↑x6.1:Int)=(↑x6.1:Int)/\(0:Nat)+x6.2.2.1=0+x6.2.2.1/\x11
 abbrev z8w:=z4g (rkS x1 (rkN x1 (toNat (↑x6.1:Int)))) (rkN x1 (toNat (↑x6.1:Int))) x2
 def zq7:=(∀i0,z5k x0 x1 x2 x3 x4 x5 x6 i0->z5k x0 x1 x2 x3 x4 x5 x6 i0)
 def j6t:=zkf x2/\∃(i0:Nat),zke x6 ((↑i0:Int)=(↑x2:Int)+1/\zq3 x6 (z7v x0 (z00 inV (z8w x1 i0 x6)=z00 inV (z8w x1 x2 x6)/\zq7 x0 x1 x3 x4 x5 x7 x6/\zkg x1 i0 x2)))
 def jk9:=(0<=(↑x2:Int)/\(↑x2:Int)<(zq5 x6))/\x6.2.1≠noA/\∃(i0:Int),(∀i1,z5k x0 x1 x3 x4 x5 x7 x6 i1->q3f i1 (adr x6.2.1 (toNat (↑x2:Int)*1)) [int i64 i0])/\Ji (0<=i0) (j6t x0 x1 x2 x3 x4 x5 x6 x7) (∃(i4:RdS),i4.2.1.1=x0.1/\i4.2.1.2.1=x0.2.1/\i4.2.1.2.2=x0.2.2/\i4.2.2.1=(↑x2:Int)/\i4.2.2.2.1.1=x6.2.1/\i4.2.2.2.1.2.1=x6.2.2.1/\i4.2.2.2.1.2.2=x6.2.2.2/\(z0a i4.1/\zue (length i4.1) i4.2.2.2.2/\0<=i4.2.2.1/\i4.2.2.1<(↑(length i4.1):Int))/\(∀i5,z5k x0 x1 x3 x4 x5 x7 x6 i5->z05 i4.1 i4.2.1 i5/\slP inV i4.2.2.2.1 i4.2.2.2.2 i5)/\(0<=(↑x2:Int)/\(↑x2:Int)<(↑((0:Nat)+x6.2.2.1):Int))/\nat_lit 0+toNat (↑x2:Int)*nat_lit 1+length [int i64 (rkd i4.2.2.2.2 (atS i4.1 i4.2.2.1))]<=length (z00 inV (z8w x1 x2 x6))/\zkf x2/\∃(i6:Nat),zke x6 ((↑i6:Int)=(↑x2:Int)+1/\zq3 x6 (z7v x0 (z00 inV (z8w x1 i6 x6)=spl (z00 inV (z8w x1 x2 x6)) (nat_lit 0+toNat (↑x2:Int)*nat_lit 1) [int i64 (rkd i4.2.2.2.2 (atS i4.1 i4.2.2.1))]/\zq7 x0 x1 x3 x4 x5 x7 x6/\zkg x1 i6 x2))))
 def zq2:=(0:Nat)+x6.2.2.1<=x2/\qhc x8 x9 (take (((0:Nat)+x6.2.2.1)*nat_lit 1) (z00 inV (z8w x1 x3 x6)))
 def j6s:=Jb ((↑x6.1:Int)+1)/\∃(i0:Nat×Option Addr×Nat×Nat),i0.2.1=x9/\i0.2.2.1=0+x6.2.2.1/\i0.2.2.2=x2/\(↑i0.1:Int)=(↑x6.1:Int)+1/\z7v x0 ((∀i1,(z5k x0 x1 x3 x4 x5 x7 x6 i1)/\zq2 x1 x2 x10 x6 i1 x9->zyn x0 x1 x3 x4 x5 x7 i1)/\(∀i2,(z5k x0 x1 x3 x4 x5 x7 x6 i2)/\zq2 x1 x2 x10 x6 i2 x9->slP inV i0.2 (rkN x1 i0.1) i2)/\i0.1<=length x1+1/\length x1+1- i0.1<length x1+1- x6.1/\True)
 def jk7:=Ji ((↑x2:Int)<(zq5 x6)) (jk9 x0 x1 x2 x3 x4 x5 x6 x7) (∀(i8 i9 i10:Nat) (i11:Option Addr) (i12 i13:Nat),(∃i14,(z5k x0 x1 x3 x4 x5 x7 x6 i14)/\zq2 x1 i13 x2 x6 i14 i11)->j6s x0 x1 i13 x3 x4 x5 x6 x7 i11 x2)
 def jk6:=Ji ((↑x6.1:Int)<=(zq5 x6)) (∃i0,length i0=x6.2.2.1*1/\(∀i1,z5k x0 x1 x2 x3 x4 x5 x6 i1->qhc i1 x6.2.1 i0)/\qkq i0/\((0:Nat)+x6.2.2.1)*8<=140737488355328/\(∃(i2:Nat),zke x6 ((↑i2:Int)=0/\zq3 x6 (z7v x0 (z00 inV (z8w x1 i2 x6)=[]++i0/\zq7 x0 x1 x2 x3 x4 x5 x6/\i2<=length x1/\True))))/\∀(i4:Nat),i4<=length x1->jk7 x0 x1 i4 x2 x3 x4 x6 x5) (∃(i23:Unit),zke x6 (Pl x6.2.1/\True/\(∀i24,z5k x0 x1 x2 x3 x4 x5 x6 i24->slP inV (x6.2.1,x6.2.2.1,x6.2.2.2) (z04 x1) i24)/\True))
 def jk5:=(∃(i0:Nat×Option Addr×Nat×Nat),i0.2.1=some (Addr.mk x2 x3 none)/\i0.2.2.1=toNat (z27 x0)/\i0.2.2.2=x4 / nat_lit 1/\(↑i0.1:Int)=0/\z7v x0 ((∀i1,zyn x0 x1 x4 x2 x3 x5 i1->zyn x0 x1 x4 x2 x3 x5 i1)/\(∀i2,zyn x0 x1 x4 x2 x3 x5 i2->slP inV i0.2 (rkN x1 i0.1) i2)/\i0.1<=length x1+1/\True))/\∀(i3:Nat×Option Addr×Nat×Nat),i3.1<=length x1+1->(∃i4,z5k x0 x1 x4 x2 x3 x5 i3 i4)->jk6 x0 x1 x4 x2 x3 x5 i3
 def jk4:=Ji (zq6 x0 x2) (jk8 x0 x1 x2) (∀(i10 i11 i12:Nat),(∃i13,zyn x0 x1 i12 i10 i11 x2 i13)->jk5 x0 x1 i10 i11 i12 x2)
 def jk3:=(0<=(z27 x0)/\(z27 x0)<=(z27 x0)/\(↑(8:Nat):Int)*(z27 x0)<=140737488355328/\(z27 x0)<140737488355328)/\(∃(i0:Nat),toNat (z27 x0)=toNat (z27 x0)/\(↑i0:Int)=0/\z7v x0 (z00 inV (z7w x1 i0)=q7h [int i64 0] (toNat (z27 x0))/\zq4 x0 x1/\i0<=length x1/\True))/\∀(i2:Nat),i2<=length x1->jk4 x0 x1 i2
end
def zdy(S:List AT) (x:SV):qki P (qfv [(90,z9i)]) Try.f56 z6n (zir) ⟨S,x⟩=(z0a S->(∃(p:Pub),True/\z05 S x p)->jk3 x S):=by kernel_rfl
def zhq:=λS x=>Eq.trans (zdy S x) (by delta Ji Jb Jt Jf z27 z7v z7w zq4 zq6 zym zkh zkf zkg j6r jbp jka jk8 zyn z5k zq5 zke zq3 z8w zq7 j6t jk9 zq2 j6s jk7 jk6 jk5 jk4 jk3;exact rfl)
section
variable (x0:SV) (x1:AT) (x2:List Int) (x3:Nat×Nat) (x4:Int) (x5:Prop) (x6 x7:Int) (x8:Nat×Nat)
 abbrev z8x:=x0.1=x0.1/\x0.2.1=x0.2.1/\x0.2.2=x0.2.2/\x5
 def j0w:=AT.k x1=AT.k x1/\AT.nm x1=AT.nm x1/\(AT.al x1).1=(AT.al x1).1/\(AT.al x1).2.1=(AT.al x1).2.1/\(AT.al x1).2.2=(AT.al x1).2.2/\AT.it x1=AT.it x1/\(AT.sy x1).1=(AT.sy x1).1/\(AT.sy x1).2.1=(AT.sy x1).2.1/\(AT.sy x1).2.2=(AT.sy x1).2.2/\AT.hd x1=AT.hd x1/\AT.df x1=AT.df x1/\AT.sz x1=AT.sz x1/\(AT.f x1).1=(AT.f x1).1/\(AT.f x1).2.1=(AT.f x1).2.1/\(AT.f x1).2.2=(AT.f x1).2.2/\(AT.br x1).1=(AT.br x1).1/\(AT.br x1).2.1=(AT.br x1).2.1/\(AT.br x1).2.2=(AT.br x1).2.2/\(∀i0,True/\AT.ok x1 i0/\slP inV x0 x2 i0->True/\AT.ok x1 i0/\slP inV x0 x2 i0)/\x5
 def zq8:=x3.1<=length (AT.brs x1)/\x3.2<=x3.1/\(x3.2=x3.1->x3.2=0)/\chG x2 (AT.brs x1) (length (AT.brs x1)- x3.1) x3.1 x3.2=chF x2 (AT.brs x1)
 abbrev zez:=(↑(AT.br x1).2.1:Int)
 def zyp:=(∀i0,True/\AT.ok x1 i0/\slP inV x0 x2 i0->q3f i0 (adr (AT.br x1).1 (toNat (↑x3.1:Int)*1)) [int i64 x4])
 def zkj:=(0<=x4/\x4<(↑x0.2.1:Int))/\x0.1≠noA/\x5
 def zki:=(∀i0,True/\AT.ok x1 i0/\slP inV x0 x2 i0->q3f i0 (adr x0.1 (toNat x4*1)) [int i64 x6])
 def z1s:=decide (0<=x4)=decide (0<=x4)
 def zyq:=(∀i0,True/\AT.ok x1 i0/\slP inV x0 x2 i0->q3f i0 (adr (AT.br x1).1 (toNat (↑x3.2:Int)*1)) [int i64 x4])
 def zf0:=decide (x4<0)=decide (x4<0)
 def zap:=zf0 x4/\zf0 x4/\zf0 x4/\zf0 x4/\x5
 def zq9:=(Jf (0<=x4)->∃(i0:Unit),z8x x0 ((↑x3.2:Int)=(↑x3.2:Int)/\chB x2 (AT.brs x1) (toNat (↑x3.1:Int)) (toNat (↑x3.2:Int))=false/\(↑x3.1:Int)=(↑x3.1:Int)/\j0w x0 x1 x2 (True/\True)))
 def jbq:=(Jt (0<=x4)->∃(i0:Unit),z8x x0 ((↑x3.2:Int)=(↑x3.2:Int)/\chB x2 (AT.brs x1) (toNat (↑x3.1:Int)) (toNat (↑x3.2:Int))=true/\(↑x3.1:Int)=(↑x3.1:Int)/\j0w x0 x1 x2 (True/\True)))/\zq9 x0 x1 x2 x3 x4
 def zyo:=(Jt (0<=x4)->∃(i0:Unit),z8x x0 ((↑x3.2:Int)=(↑x3.2:Int)/\False))/\zq9 x0 x1 x2 x3 x4
 def jkg:=zap x4 (zap x4 (zap x4 (zap x4 (z1s x6/\Ji (x4<0) (jbq x0 x1 x2 x3 x6) (zyo x0 x1 x2 x3 x6)))))
 def j6x:=(Jt (0<=x4)->∃(i0:Unit),z8x x0 ((↑x3.2:Int)=(↑x3.2:Int)/\chB x2 (AT.brs x1) (toNat (↑x3.1:Int)) (toNat (↑x3.2:Int))=decide (x6<x7)/\(↑x3.1:Int)=(↑x3.1:Int)/\j0w x0 x1 x2 (True/\True)))/\zq9 x0 x1 x2 x3 x4
 def jkf:=zap x4 ((0<=(↑x3.1:Int)/\(↑x3.1:Int)<(zez x1))/\(AT.br x1).1≠noA/\zf0 x4/\∃(i0:Int),zyp x0 x1 x2 x3 i0/\zf0 x4/\zkj x0 i0 (zf0 x4/\∃(i2:Int),zki x0 x1 x2 i0 i2/\zf0 x4/\zap x4 ((0<=(↑x3.2:Int)/\(↑x3.2:Int)<(zez x1))/\(AT.br x1).1≠noA/\zf0 x4/\∃(i4:Int),zyq x0 x1 x2 x3 i4/\zf0 x4/\zkj x0 i4 (zf0 x4/\∃(i6:Int),zki x0 x1 x2 i4 i6/\zf0 x4/\z1s x6/\Ji (x4<0) (jbq x0 x1 x2 x3 x6) (j6x x0 x1 x2 x3 x6 i2 i6)))))
 def jke:=z1s x4/\z1s x4/\z1s x4/\z1s x4/\(0<=(↑x3.2:Int)/\(↑x3.2:Int)<(zez x1))/\(AT.br x1).1≠noA/\z1s x4/\∃(i0:Int),zyq x0 x1 x2 x3 i0/\z1s x4/\zkj x0 i0 (z1s x4/\∃(i2:Int),zki x0 x1 x2 i0 i2/\z1s x4/\z1s x4/\Ji (i2<0) (jkg x0 x1 x2 x3 i2 x4) (jkf x0 x1 x2 x3 i2 x4))
 def j6u:=z1s x4/\z1s x4/\z1s x4/\z1s x4/\z1s x4/\z1s x4/\z1s x4/\z1s x4/\z1s x4/\z1s x4/\zyo x0 x1 x2 x3 x4
 abbrev zys:=Jb ((↑x3.1:Int)+1)
 def zyr:=(↑x3.1:Int)=(↑x8.1:Int)+1/\j0w x0 x1 x2 ((zq8 x1 x2 x3)/\length (AT.brs x1)- x3.1<length (AT.brs x1)- x8.1/\True)
 def j6v:=zys x3/\∃(i0:Nat×Nat),z8x x0 ((↑i0.2:Int)=(↑x3.1:Int)/\zyr x0 x1 x2 i0 x3)
 def j6w:=zys x3/\∃(i0:Nat×Nat),z8x x0 ((↑i0.2:Int)=(↑x3.2:Int)/\zyr x0 x1 x2 i0 x3)
 def jkh:=(chB x2 (AT.brs x1) (toNat (↑x3.1:Int)) (toNat (↑x3.2:Int))=true->j6v x0 x1 x2 x3)/\(chB x2 (AT.brs x1) (toNat (↑x3.1:Int)) (toNat (↑x3.2:Int))=false->j6w x0 x1 x2 x3)
 def jkd:=((0<=(↑x3.1:Int)/\(↑x3.1:Int)<(zez x1))/\(AT.br x1).1≠noA/\∃(i0:Int),zyp x0 x1 x2 x3 i0/\zkj x0 i0 (∃(i2:Int),zki x0 x1 x2 i0 i2/\Ji (0<=i2) (jke x0 x1 x2 x3 i2) (j6u x0 x1 x2 x3 i2)))/\∀(i34:Unit),True->jkh x0 x1 x2 x3
 def jkc:=Ji ((↑x3.1:Int)<(zez x1)) (jkd x0 x1 x2 x3) ((↑(chF x2 (AT.brs x1)):Int)=(↑x3.2:Int)/\True)
 def jkb:=(∃(i0:Nat×Nat),z8x x0 ((↑i0.2:Int)=0/\(↑i0.1:Int)=0/\j0w x0 x1 x2 ((zq8 x1 x2 i0)/\True)))/\∀(i2:Nat×Nat),zq8 x1 x2 i2->jkc x0 x1 x2 i2
end
def zdc(a:AT) (y:SV) (R:List Int):qki P (qfv []) Try.f91 z50 (zil) ⟨a,y,R⟩=((length R<1000/\length (AT.brs a)<=30/\∀(b:Int),b∈AT.brs a->0<=b/\b<(↑(length R):Int))->(∃(p:Pub),True/\AT.ok a p/\slP inV y R p)->jkb y a R):=by kernel_rfl
def zg8:=λa y R=>Eq.trans (zdc a y R) (by delta Ji Jb Jt Jf z8x j0w zq8 zez zyp zkj zki z1s zyq zf0 zap zq9 jbq zyo jkg j6x jkf jke j6u zys zyr j6v j6w jkh jkd jkc jkb;exact rfl)
section
variable (x0 x1:SV) (x2:List AT) (x3:List Int) (x4 x5:Nat×List Int) (x6:Int) (x7:ByteArray) (x8:Option Addr) (x9 x10:Nat) (x11:Int) (x12:Option Addr) (x13 x14:Nat) (x15:Bool) (x16:ByteArray) (x17:Int) (x18:Option Addr) (x19 x20:Nat) (x21:Option Addr) (x22 x23:Nat) (x24:List Int) (x25:Nat×List Int) (x26:Prop) (x27:Nat->Option Obj)
 abbrev z63:=True/\z05 x2 x0 x27/\slP inV x1 x3 x27
 abbrev z29:=(↑x0.2.1:Int)
 def z28:=x0.1=x0.1/\x0.2.1=x0.2.1/\x0.2.2=x0.2.2/\x26
 def zaq:=toNat (z29 x0)=toNat (z29 x0)
 def z62:=(∀i0,z63 x0 x1 x2 x3 i0->z63 x0 x1 x2 x3 i0)
 def zqb:=x4.1<=length x2+1/\WB (length x2) x4.2/\wall x2 x3 (length x2+1- x4.1) (↑x4.1:Int) x4.2=wts x2 x3
 def zf2:=zaq x0/\(↑x4.1:Int)=(↑x4.1:Int)/\x26
 def zkl:=x4.1<=length x2/\WB (length x2) x4.2/\z84 x2 x3 (↑x5.1:Int) x4.1 x4.2=wts x2 x3
 abbrev zkm:=Jb ((↑x4.1:Int)+1)
 def zkp:=(↑x4.1:Int)=(↑x5.1:Int)+1
 def j6z:=zkm x4/\∃(i0:Nat×List Int),z28 x0 (zkp i0 x4/\zf2 x0 x5 (z28 x1 (z00 inV i0.2=z00 inV x4.2/\z62 x1 x0 x2 x3/\(zkl x2 x3 i0 x5)/\length x2- i0.1<length x2- x4.1/\True)))
 def zf1:=(0<=(↑x4.1:Int)/\(↑x4.1:Int)<(↑(toNat (z29 x0)):Int))
 abbrev zko:=(0:Nat)+toNat (↑x4.1:Int)*nat_lit 1
 abbrev zkk:=spl (z00 inV x4.2) (zko x4) [int i64 1]
 def zyt:=(∀(i0:Nat) (i1:Value),[int i64 x6][i0]? =some i1->(zkk x4)[(0:Nat)+toNat (↑x4.1:Int)*nat_lit 1+i0]? =some i1)
 abbrev zkn:=if(1000000:Int)<x6+x11 then 1000000 else x6+x11
 def zqc:=WB (length x2) x3/\z84 x2 x24 (↑x4.1:Int) (toNat (↑x5.1:Int)+1) (wfs x3 (toNat (↑x5.1:Int)) (AT.fs (atS x2 (↑x5.1:Int))))=wts x2 x24
 def jkp:=zf1 x0 x4/\∃(i0:Int),zyt x4 i0/\∃(i3:AT×(Option Addr×Nat×Nat)×List Int),AT.k i3.1=x6/\AT.nm i3.1=x7/\(AT.al i3.1).1=x8/\(AT.al i3.1).2.1=x9/\(AT.al i3.1).2.2=x10/\AT.it i3.1=x11/\(AT.sy i3.1).1=x12/\(AT.sy i3.1).2.1=x13/\(AT.sy i3.1).2.2=x14/\AT.hd i3.1=x15/\AT.df i3.1=x16/\AT.sz i3.1=x17/\(AT.f i3.1).1=x18/\(AT.f i3.1).2.1=x19/\(AT.f i3.1).2.2=x20/\(AT.br i3.1).1=x21/\(AT.br i3.1).2.1=x22/\(AT.br i3.1).2.2=x23/\i3.2.1.1=x0.1/\i3.2.1.2.1=x0.2.1/\i3.2.1.2.2=x0.2.2/\(length i3.2.2<1000/\length (AT.brs i3.1)<=30/\∀(i4:Int),i4∈AT.brs i3.1->0<=i4/\i4<(↑(length i3.2.2):Int))/\(∀i5,z63 x1 x0 x2 x3 i5->AT.ok i3.1 i5/\slP inV i3.2.1 i3.2.2 i5)/\(0<=(↑(chF i3.2.2 (AT.brs i3.1)):Int)/\(↑(chF i3.2.2 (AT.brs i3.1)):Int)<(↑x22:Int))/\x21≠noA/\∃(i6:Int),(∀i7,z63 x1 x0 x2 x3 i7->q3f i7 (adr x21 (toNat (↑(chF i3.2.2 (AT.brs i3.1)):Int)*1)) [int i64 i6])/\(0<=i6/\i6<(↑(toNat (z29 x0)):Int))/\∃(i8:Int),(∀(i9:Nat) (i10:Value),[int i64 i8][i9]? =some i10->(zkk x4)[(0:Nat)+toNat i6*nat_lit 1+i9]? =some i10)/\Jb (i0+i8)/\zf1 x0 x4/\(0:Nat)+toNat (↑x4.1:Int)*nat_lit 1+length [int i64 (zkn i0 i8)]<=length (zkk x4)/\∃(i11:Int),zyt x4 i11/\AV.sv (int i64 i11)=AV.sv (int i64 i0)/\AV.sv (slice x21 x22 x23)=AV.sv (slice x21 x22 x23)/\∃(i14:List Int),z28 x0 ((↑x4.1:Int)=(↑x4.1:Int)/\zf2 x0 x5 (z28 x1 (x6=x6/\x7=x7/\x8=x8/\x9=x9/\x10=x10/\x11=x11/\x12=x12/\x13=x13/\x14=x14/\x15=x15/\x16=x16/\x17=x17/\x18=x18/\x19=x19/\x20=x20/\x21=x21/\x22=x22/\x23=x23/\z00 inV i14=spl (zkk x4) (zko x4) [int i64 (zkn i0 i8)]/\z62 x1 x0 x2 x3/\(zqc x2 i14 x5 x4 x3)/\True)))
 def zqa:=x4.1<=length (AT.fs (atS x2 (↑x5.1:Int)))/\WB (length x2) x4.2/\z84 x2 x3 (↑x25.1:Int) (toNat (↑x5.1:Int)+1) (wfs x4.2 (toNat (↑x5.1:Int)) (drop x4.1 (AT.fs (atS x2 (↑x5.1:Int)))))=wts x2 x3
 def jkr:=zf1 x0 x4/\∃(i0:Int),(∀(i1:Nat) (i2:Value),[int i64 i0][i1]? =some i2->(z00 inV x5.2)[(0:Nat)+toNat (↑x4.1:Int)*nat_lit 1+i1]? =some i2)/\(0<=(↑x5.1:Int)/\(↑x5.1:Int)<(↑x9:Int))/\x8≠noA/\∃(i3:Int),(∀i4,z63 x1 x0 x2 x3 i4->q3f i4 (Addr.add (adr x8 (toNat (↑x5.1:Int)*9)) 2) [int i64 i3])/\(0<=i3/\i3<(↑(toNat (z29 x0)):Int))/\∃(i5:Int),(∀(i6:Nat) (i7:Value),[int i64 i5][i6]? =some i7->(z00 inV x5.2)[(0:Nat)+toNat i3*nat_lit 1+i6]? =some i7)/\Jb (i0+i5)/\zf1 x0 x4/\(0:Nat)+toNat (↑x4.1:Int)*nat_lit 1+length [int i64 (zkn i0 i5)]<=length (z00 inV x5.2)/\zkm x5/\∃(i8:Nat×List Int),z28 x0 ((↑x4.1:Int)=(↑x4.1:Int)/\zaq x0/\zkp i8 x5/\(↑x25.1:Int)=(↑x25.1:Int)/\z28 x1 (x6=x6/\x7=x7/\x12=x12/\x10=x10/\x13=x13/\x11=x11/\x18=x18/\x14=x14/\x19=x19/\x15=x15/\x16=x16/\x17=x17/\x8=x8/\x9=x9/\x20=x20/\x21=x21/\x22=x22/\x23=x23/\z00 inV i8.2=spl (z00 inV x5.2) (zko x4) [int i64 (zkn i0 i5)]/\z62 x1 x0 x2 x3/\(zqa x2 x3 i8 x4 x25)/\length (AT.fs (atS x2 (↑x4.1:Int)))- i8.1<length (AT.fs (atS x2 (↑x4.1:Int)))- x5.1/\True))
 def j70:=zkm x4/\∃(i0:Nat×List Int),z28 x0 (zkp i0 x4/\zf2 x0 x5 (z28 x1 (z00 inV i0.2=z00 inV x25.2/\z62 x1 x0 x2 x3/\(zkl x2 x3 i0 x5)/\length x2- i0.1<length x2- x4.1/\True)))
 def jkq:=Ji ((↑x4.1:Int)<(↑x9:Int)) (jkr x0 x1 x2 x3 x5 x4 x6 x7 x8 x9 x10 x11 x12 x13 x14 x15 x16 x17 x18 x19 x20 x21 x22 x23 x25) (j70 x0 x1 x2 x3 x5 x25 x4)
 def jko:=(∃(i0:Nat×List Int),z28 x0 ((↑x4.1:Int)=(↑x4.1:Int)/\zaq x0/\(↑i0.1:Int)=0/\(↑x5.1:Int)=(↑x5.1:Int)/\z28 x1 (x6=x6/\x7=x7/\x8=x8/\x9=x9/\x10=x10/\x11=x11/\x12=x12/\x13=x13/\x14=x14/\x15=x15/\x16=x16/\x17=x17/\x18=x18/\x19=x19/\x20=x20/\x21=x21/\x22=x22/\x23=x23/\z00 inV i0.2=z00 inV x3/\z62 x1 x0 x2 x24/\(zqa x2 x24 i0 x4 x5)/\True)))/\∀(i2:Nat×List Int),zqa x2 x24 i2 x4 x5->jkq x0 x1 x2 x24 i2 x4 x6 x7 x18 x19 x9 x11 x8 x10 x13 x15 x16 x17 x12 x14 x20 x21 x22 x23 x5
 def jkn:=zf1 x0 x4/\(0:Nat)+toNat (↑x4.1:Int)*nat_lit 1+length [int i64 1]<=length (z00 inV x4.2)/\(0<=(↑x4.1:Int)/\(↑x4.1:Int)<(z29 x1))/\x1.1≠noA/\∃(i0:Int),∃i1,∃i2,∃(i3:Nat),∃(i4:Nat),∃(i5:Int),∃i6,∃(i7:Nat),∃(i8:Nat),∃(i9:Bool),∃i10,∃(i11:Int),∃i12,∃(i13:Nat),∃(i14:Nat),∃i15,∃(i16:Nat),∃(i17:Nat),(∀i18,z63 x1 x0 x2 x3 i18->q3f i18 (adr x1.1 (toNat (↑x4.1:Int)*10)) [int i64 i0,string i1,slice i2 i3 i4,int i64 i5,slice i6 i7 i8,bool i9,string i10,int i64 i11,slice i12 i13 i14,slice i15 i16 i17])/\(Ji (i0=14) (jkp x0 x1 x2 x3 x4 x5 i0 i1 i2 i3 i4 i5 i6 i7 i8 i9 i10 i11 i12 i13 i14 i15 i16 i17) (∃(i35:List Int),z28 x0 ((↑x4.1:Int)=(↑x4.1:Int)/\zf2 x0 x5 (z28 x1 (i0=i0/\i1=i1/\i2=i2/\i3=i3/\i4=i4/\i5=i5/\i6=i6/\i7=i7/\i8=i8/\i9=i9/\i10=i10/\i11=i11/\i12=i12/\i13=i13/\i14=i14/\i15=i15/\i16=i16/\i17=i17/\z00 inV i35=spl (z00 inV x4.2) (zko x4) [int i64 1]/\z62 x1 x0 x2 x3/\(zqc x2 i35 x5 x4 x3)/\True)))))/\∀(i37:List Int),zqc x2 i37 x5 x4 x3->jko x0 x1 x2 i37 x4 x5 i0 i1 i2 i3 i4 i5 i6 i7 i8 i9 i10 i11 i12 i13 i14 i15 i16 i17 x3
 def jkm:=(0<=(↑x4.1:Int)/\(↑x4.1:Int)<(z29 x0))/\x0.1≠noA/\∃(i0:Int),(∀i1,z63 x1 x0 x2 x3 i1->q3f i1 (adr x0.1 (toNat (↑x4.1:Int)*1)) [int i64 i0])/\((!decide (i0=(↑x5.1:Int)))=true->j6z x0 x1 x2 x3 x4 x5)/\((!decide (i0=(↑x5.1:Int)))=false->jkn x0 x1 x2 x3 x4 x5)
 def j6y:=zkm x4/\∃(i0:Nat×List Int),z28 x0 (zaq x0/\zkp i0 x4/\z28 x1 (z00 inV i0.2=z00 inV x5.2/\z62 x1 x0 x2 x3/\(zqb x2 x3 i0)/\length x2+1- i0.1<length x2+1- x4.1/\True))
 def jkl:=Ji ((↑x4.1:Int)<(z29 x0)) (jkm x0 x1 x2 x3 x4 x5) (j6y x0 x1 x2 x3 x5 x4)
 def jkk:=(∃(i0:Nat×List Int),z28 x0 ((↑i0.1:Int)=0/\zf2 x0 x4 (z28 x1 (z00 inV i0.2=z00 inV x4.2/\z62 x1 x0 x2 x3/\(zkl x2 x3 i0 x4)/\True))))/\∀(i2:Nat×List Int),zkl x2 x3 i2 x4->jkl x0 x1 x2 x3 i2 x4
 def zyu:=(z63 x0 x1 x2 x3 x27)/\True/\toNat (z29 x1)<=x9 / nat_lit 1/\qhc x27 (some (Addr.mk x10 x13 none)) (take (toNat (z29 x1)*nat_lit 1) (z00 inV x4.2))
 def jkj:=Ji ((↑x4.1:Int)<=(z29 x0)) (jkk x0 x1 x2 x3 x4) (∀(i62 i63 i64:Nat),(∃i65,zyu x1 x0 x2 x3 x4 i64 i62 i63 i65)->∃(i66:Unit),some (Addr.mk i62 i63 none)=some (Addr.mk i62 i63 none)/\zaq x0/\i64 / nat_lit 1=i64 / nat_lit 1/\Pl (some (Addr.mk i62 i63 none))/\True/\(∀i67,zyu x1 x0 x2 x3 x4 i64 i62 i63 i67->slP inV (some (Addr.mk i62 i63 none),toNat (z29 x0),i64 / nat_lit 1) (wts x2 x3) i67)/\True)
 def jki:=(0<=(z29 x0)/\(z29 x0)<=(z29 x0)/\(↑(8:Nat):Int)*(z29 x0)<=140737488355328/\(z29 x0)<140737488355328)/\(∃(i0:Nat×List Int),z28 x0 (zaq x0/\(↑i0.1:Int)=0/\z28 x1 (z00 inV i0.2=q7h [int i64 0] (toNat (z29 x0))/\z62 x1 x0 x2 x3/\(zqb x2 x3 i0)/\True)))/\∀(i2:Nat×List Int),zqb x2 x3 i2->jkj x0 x1 x2 x3 i2
end
def za1(S:List AT) (x y:SV) (R:List Int):qki P (qfv [(91,z50)]) Try.f57 z6q (zcz) ⟨S,x,y,R⟩=(z0a S/\zue (length S) R->(∃(p:Pub),z63 x y S R p)->jki y x S R):=by kernel_rfl
def zeb:=λS x y R=>Eq.trans (za1 S x y R) (by delta Ji Jb Jt Jf z63 z29 z28 zaq z62 zqb zf2 zkl zkm zkp j6z zf1 zko zkk zyt zkn zqc jkp zqa jkr j70 jkq jko jkn jkm j6y jkl jkk zyu jkj jki;exact rfl)
section
variable (x0:Int) (x1:SV) (x2:List AT) (x3:SV) (x4:Nat) (x5:ByteArray) (x6:Option Addr) (x7:Nat) (x8:Int) (x9:Option Addr) (x10 x11:Nat) (x12:Bool) (x13:ByteArray) (x14:Int) (x15:Option Addr) (x16 x17:Nat) (x18:Option Addr) (x19 x20:Nat) (x21:Int) (x22:Nat) (x23:Nat×List GV) (x24:GV) (x25:AT×(Option Addr×Nat×Nat)×List Int) (x26:Nat->Option Obj) (x27:Prop) (x28:LsS)
 abbrev z1t:=True/\z05 x2 x1 x26/\slP inV x3 (z04 x2) x26
 def zqd:=(GV.y x24).1=noA/\(GV.y x24).2.1=0/\(GV.y x24).2.2=0/\x27
 def zyw:=(GV.x x24).1=noA/\(GV.x x24).2.1=0/\(GV.x x24).2.2=0/\zqd x24 (GV.b x24=0/\lsQ x2 x0 x24/\(∀i0,z1t x1 x2 x3 i0->GV.ok x24 i0)/\True)
 def jkz:=(0<=x0/\x0<=x0/\(↑(1:Nat):Int)*x0<=140737488355328/\x0<140737488355328)/\∃i0,size i0=toNat x0/\qh1 (q7h [int u8 0] (toNat x0)) 0 (q19 i0)/\∃(i1:GV),GV.n i1=0/\GV.s i1=i0/\zyw x8 x1 x2 x3 i1
 def zkq:=x1.1=x1.1/\x1.2.1=x1.2.1/\x1.2.2=x1.2.2/\x27
 def zyv:=x28.2.1.1=x1.1/\x28.2.1.2.1=x1.2.1/\x28.2.1.2.2=x1.2.2/\x28.2.2.1=x0/\x28.2.2.2.1=x3.1/\x28.2.2.2.2.1=x3.2.1/\x28.2.2.2.2.2=x3.2.2/\(ztr x28<x4/\z0a x28.1/\lsB x28.1 x28.2.2.1=true)/\x27
 def zyx:=z05 x28.1 x28.2.1 x26/\slP inV x28.2.2.2 (z04 x28.1) x26
 def jkx:=length (z00 GV.cells x23.2)=length x23.2*5/\(length x23.2+nat_lit 1)*80<=140737488355328/\Jb ((↑x23.1:Int)+1)/\∃(i0:Nat×List GV),(↑i0.1:Int)=(↑x23.1:Int)+1/\zkq x1 (zkq x3 (x0=x0/\x5=x5/\x6=x6/\x4=x4/\x7=x7/\x8=x8/\x9=x9/\x10=x10/\x11=x11/\x12=x12/\x13=x13/\x14=x14/\x15=x15/\x16=x16/\x17=x17/\x18=x18/\x19=x19/\x20=x20/\length i0.2=length x23.2+nat_lit 1/\z00 GV.cells i0.2=z00 GV.cells x23.2++[int u64 (GV.n x24),string (GV.s x24),slice (GV.x x24).1 (GV.x x24).2.1 (GV.x x24).2.2,slice (GV.y x24).1 (GV.y x24).2.1 (GV.y x24).2.2,int i64 (GV.b x24)]/\(∀i1,((z1t x3 x2 x1 i1)/\GV.oks x23.2 i1)/\GV.ok x24 i1->z1t x3 x2 x1 i1)/\(∀i2,((z1t x3 x2 x1 i2)/\GV.oks x23.2 i2)/\GV.ok x24 i2->GV.oks i0.2 i2)/\lsI x2 x21 i0.1 (GV.pvs i0.2)/\length (AT.fs (atS x2 x21))- i0.1<length (AT.fs (atS x2 x21))- x23.1/\True))
 def j9m:=(0<=(↑x23.1:Int)/\(↑x23.1:Int)<(↑x4:Int))/\x6≠noA/\∃(i0:Int),(∀i1,(z1t x1 x2 x3 i1)/\GV.oks x23.2 i1->q3f i1 (Addr.add (adr x6 (toNat (↑x23.1:Int)*9)) 2) [int i64 i0])/\∃(i2:LsS),zyv i0 x1 x3 x7 ((∀i3,(z1t x1 x2 x3 i3)/\GV.oks x23.2 i3->zyx i3 i2)/\∀(i4:GV),lsQ i2.1 i2.2.2.1 i4->(∃i5,((z1t x1 x2 x3 i5)/\GV.oks x23.2 i5)/\GV.ok i4 i5)->jkx x0 x3 x2 x1 x10 x5 x9 x11 x8 x15 x16 x17 x12 x13 x14 x6 x4 x19 x18 x20 x22 x21 x23 i4) i2
 def jkw:=(j9m x0 x1 x2 x3 x4 x5 x6 x7 x8 x9 x10 x11 x12 x13 x14 x15 x16 x17 x18 x19 x20 x21 x22 x23)/\(j9m x0 x1 x2 x3 x4 x5 x6 x7 x8 x9 x10 x11 x12 x13 x14 x15 x16 x17 x18 x19 x20 x21 x22 x23)/\j9m x0 x1 x2 x3 x4 x5 x6 x7 x8 x9 x10 x11 x12 x13 x14 x15 x16 x17 x18 x19 x20 x21 x22 x23
 def jkv:=Ji ((↑x23.1:Int)<(↑x4:Int)) (jkw x0 x1 x2 x3 x4 x5 x6 x7 x8 x9 x10 x11 x12 x13 x14 x15 x16 x17 x18 x19 x20 x21 x22 x23) (∀(i27 i28 i29:Nat) (i30:Option Addr) (i31 i32:Nat),(∃i33,((z1t x1 x2 x3 i33)/\GV.oks x23.2 i33)/\length x23.2<=i32/\qhc i33 i30 (take (length x23.2*nat_lit 5) (z00 GV.cells x23.2)))->∃(i34:GV),GV.n i34=0/\GV.s i34=mkS []/\(GV.x i34).1=i30/\(GV.x i34).2.1=length x23.2/\(GV.x i34).2.2=i32/\zqd i34 (GV.b i34=0/\lsQ x2 x21 i34/\(∀i35,((z1t x1 x2 x3 i35)/\GV.oks x23.2 i35)/\length x23.2<=i32/\qhc i35 i30 (take (length x23.2*nat_lit 5) (z00 GV.cells x23.2))->GV.ok i34 i35)/\True))
 def jku:=(∃(i0:Nat×List GV),(↑i0.1:Int)=0/\zkq x1 (zkq x3 (x0=x0/\x5=x5/\x6=x6/\x4=x4/\x7=x7/\x8=x8/\x9=x9/\x10=x10/\x11=x11/\x12=x12/\x13=x13/\x14=x14/\x15=x15/\x16=x16/\x17=x17/\x18=x18/\x19=x19/\x20=x20/\length i0.2=0/\(∀i1,z1t x3 x2 x1 i1->z1t x3 x2 x1 i1)/\(∀i2,z1t x3 x2 x1 i2->GV.oks i0.2 i2)/\lsI x2 x21 i0.1 (GV.pvs i0.2)/\True)))/\∀(i3:Nat×List GV),lsI x2 x21 i3.1 (GV.pvs i3.2)->(∃i4,(z1t x3 x2 x1 i4)/\GV.oks i3.2 i4)->jkv x0 x3 x2 x1 x16 x5 x15 x22 x8 x6 x4 x7 x12 x13 x14 x9 x10 x11 x18 x17 x19 x21 x20 i3
 abbrev zkr:=(↑(chF x25.2.2 (AT.brs x25.1)):Int)
 def jbr:=(0<=(zkr x25)/\(zkr x25)<(↑x4:Int))/\x6≠noA/\∃(i0:Int),(∀i1,z1t x1 x2 x3 i1->q3f i1 (adr x6 (toNat (zkr x25)*1)) [int i64 i0])/\∃(i2:LsS),zyv i0 x1 x3 x7 ((∀i3,z1t x1 x2 x3 i3->zyx i3 i2)/\∀(i4:GV),lsQ i2.1 i2.2.2.1 i4->(∃i5,(z1t x1 x2 x3 i5)/\GV.ok i4 i5)->∀(i6 i7 i8:Nat),(∃i9,((z1t x1 x2 x3 i9)/\GV.ok i4 i9)/\q3f i9 (Addr.mk i6 i7 none) [int u64 (GV.n i4),string (GV.s i4),slice (GV.x i4).1 (GV.x i4).2.1 (GV.x i4).2.2,slice (GV.y i4).1 (GV.y i4).2.1 (GV.y i4).2.2,int i64 (GV.b i4)])->∃(i10:GV),GV.n i10=0/\GV.s i10=mkS []/\(GV.x i10).1=some (Addr.mk i6 (i7+nat_lit 0) none)/\(GV.x i10).2.1=nat_lit 1/\(GV.x i10).2.2=nat_lit 1/\zqd i10 (GV.b i10=(zkr x25)/\lsQ x2 x0 i10/\(∀i11,(((z1t x1 x2 x3 i11)/\GV.ok i4 i11)/\∀(i12:Nat) (i13:Value),[int u64 (GV.n i4),string (GV.s i4),slice (GV.x i4).1 (GV.x i4).2.1 (GV.x i4).2.2,slice (GV.y i4).1 (GV.y i4).2.1 (GV.y i4).2.2,int i64 (GV.b i4)][i12]? =some i13->q67 i11 (Addr.add (Addr.mk i6 i7 none) i12)=some i13)->GV.ok i10 i11)/\True)) i2
 def jky:=Ji (x0=14) (∃(i0:AT×(Option Addr×Nat×Nat)×List Int),AT.k i0.1=x0/\AT.nm i0.1=x5/\(AT.al i0.1).1=x6/\(AT.al i0.1).2.1=x4/\(AT.al i0.1).2.2=x7/\AT.it i0.1=x8/\(AT.sy i0.1).1=x9/\(AT.sy i0.1).2.1=x10/\(AT.sy i0.1).2.2=x11/\AT.hd i0.1=x12/\AT.df i0.1=x13/\AT.sz i0.1=x14/\(AT.f i0.1).1=x15/\(AT.f i0.1).2.1=x16/\(AT.f i0.1).2.2=x17/\(AT.br i0.1).1=x18/\(AT.br i0.1).2.1=x19/\(AT.br i0.1).2.2=x20/\i0.2.1.1=x1.1/\i0.2.1.2.1=x1.2.1/\i0.2.1.2.2=x1.2.2/\(length i0.2.2<1000/\length (AT.brs i0.1)<=30/\∀(i1:Int),i1∈AT.brs i0.1->0<=i1/\i1<(↑(length i0.2.2):Int))/\(∀i2,z1t x3 x2 x1 i2->AT.ok i0.1 i2/\slP inV i0.2.1 i0.2.2 i2)/\(jbr x21 x3 x2 x1 x19 x18 x22 i0)/\jbr x21 x3 x2 x1 x19 x18 x22 i0) (∃(i31:GV),GV.n i31=0/\GV.s i31=mkS []/\zyw x21 x3 x2 x1 i31)
 def jkt:=Ji (x0=9) (jku x0 x1 x2 x3 x4 x5 x6 x7 x8 x9 x10 x11 x12 x13 x14 x15 x16 x17 x18 x19 x20 x21 x22) (jky x0 x1 x2 x3 x4 x5 x6 x7 x8 x9 x10 x11 x12 x13 x14 x15 x16 x17 x18 x19 x20 x21 x22)
 def jks:=(0<=x0/\x0<(↑x1.2.1:Int))/\x1.1≠noA/\∃(i0:Int),∃i1,∃i2,∃(i3:Nat),∃(i4:Nat),∃(i5:Int),∃i6,∃(i7:Nat),∃(i8:Nat),∃(i9:Bool),∃i10,∃(i11:Int),∃i12,∃(i13:Nat),∃(i14:Nat),∃i15,∃(i16:Nat),∃(i17:Nat),(∀i18,z1t x1 x2 x3 i18->q3f i18 (adr x1.1 (toNat x0*10)) [int i64 i0,string i1,slice i2 i3 i4,int i64 i5,slice i6 i7 i8,bool i9,string i10,int i64 i11,slice i12 i13 i14,slice i15 i16 i17])/\Ji (i0=11) (jkz i11 x1 x2 x3 x0) (jkt i0 x3 x2 x1 i3 i1 i2 i4 i5 i6 i7 i8 i9 i10 i11 i12 i13 i14 i15 i16 i17 x0 x4)
end
def zds(n:Nat) (S:List AT) (x:SV) (t:Int) (y:SV):qkj P (qfv [(91,z50)]) (qgy [(58,z33.below ztr n)]) Try.f58 (z33.below ztr (n+1)) (zio) ⟨S,x,t,y⟩=(ztr (S,x,t,y)<n+1/\z0a S/\lsB S t=true->(∃(p:Pub),z1t x S y p)->jks t x S y n):=by kernel_rfl
def zh3:=λn S x t y=>Eq.trans (zds n S x t y) (by delta Ji Jb Jt Jf z1t zqd zyw jkz zkq zyv zyx jkx j9m jkw jkv jku zkr jbr jky jkt jks;exact rfl)
section
variable (x0:Int) (x1:Nat) (x2:Option Addr) (x3:List AT) (x4:SV) (x5:Nat) (x6:List AT×Option Addr×Nat×Nat) (x7:Option Addr) (x8 x9:Nat) (x10:WtS) (x11:GV×Bool) (x12:Prop) (x13:Nat->Option Obj) (x14:(Option Addr×Nat×Nat)×Int)
 abbrev zyz:=(True/\z05 x3 x4 x13)/\slP inV (x2,x1,x5) (z04 x6.1) x13
 def jbt:= !(decide (0<=x14.2)&&decide (x14.2<(↑x14.1.2.1:Int)))
 def jbs:=(x11.2=lsB x3 x0/\PV.sn (GV.pv x11.1)/\PV.wt (GV.pv x11.1)<=60000/\(x11.2=true->PV.fits x3 x0 (GV.pv x11.1)=true)/\(x11.2=false\/AT.k (atS x3 x0)=12\/AT.k (atS x3 x0)=13->x11.1=zV))
 def j9n:=GV.n x11.1=0/\GV.s x11.1=mkS []/\(GV.x x11.1).1=noA/\(GV.x x11.1).2.1=0/\(GV.x x11.1).2.2=0/\(GV.y x11.1).1=noA/\(GV.y x11.1).2.1=0/\(GV.y x11.1).2.2=0/\GV.b x11.1=0/\x11.2=false/\jbs x0 x3 x11/\x12
 def zyy:=(zyz x1 x2 x3 x4 x5 x6 x13)/\slP inV (x7,x8,x9) (wts x10.1 x10.2.2.2) x13
 def jl1:=(0<=x0/\x0<(↑x1:Int))/\x2≠noA/\∃(i0:Int),(∀i1,zyy x5 x7 x3 x4 x8 x6 x2 x1 x9 x10 i1->q3f i1 (adr x2 (toNat x0*1)) [int i64 i0])/\Ji (2000<i0) (∃(i2:GV×Bool),j9n x0 x3 i2 ((∀i3,zyy x5 x7 x3 x4 x8 x6 x2 x1 x9 x10 i3->GV.ok i2.1 i3)/\True)) (∃(i4:LsS),i4.2.1.1=x4.1/\i4.2.1.2.1=x4.2.1/\i4.2.1.2.2=x4.2.2/\i4.2.2.1=x0/\i4.2.2.2.1=x7/\i4.2.2.2.2.1=x5/\i4.2.2.2.2.2=x8/\(z0a i4.1/\lsB i4.1 i4.2.2.1=true)/\(∀i5,zyy x5 x7 x3 x4 x8 x6 x2 x1 x9 x10 i5->z05 i4.1 i4.2.1 i5/\slP inV i4.2.2.2 (z04 i4.1) i5)/\∀(i6:GV),lsQ i4.1 i4.2.2.1 i6->(∃i7,(zyy x5 x7 x3 x4 x8 x6 x2 x1 x9 x10 i7)/\GV.ok i6 i7)->∃(i8:GV×Bool),GV.n i8.1=GV.n i6/\GV.s i8.1=GV.s i6/\(GV.x i8.1).1=(GV.x i6).1/\(GV.x i8.1).2.1=(GV.x i6).2.1/\(GV.x i8.1).2.2=(GV.x i6).2.2/\(GV.y i8.1).1=(GV.y i6).1/\(GV.y i8.1).2.1=(GV.y i6).2.1/\(GV.y i8.1).2.2=(GV.y i6).2.2/\GV.b i8.1=GV.b i6/\i8.2=true/\jbs x0 x3 i8/\(∀i9,(zyy x5 x7 x3 x4 x8 x6 x2 x1 x9 x10 i9)/\GV.ok i6 i9->GV.ok i8.1 i9)/\True)
 def jl0:=(0<=x0/\x0<(↑x1:Int))/\x2≠noA/\∃(i0:Int),(∀i1,zyz x1 x2 x3 x4 x5 x6 i1->q3f i1 (adr x2 (toNat x0*1)) [int i64 i0])/\Ji (i0<0) (∃(i2:GV×Bool),j9n x0 x3 i2 ((∀i3,zyz x1 x2 x3 x4 x5 x6 i3->GV.ok i2.1 i3)/\True)) (∃(i4:WtS),i4.2.1.1=x4.1/\i4.2.1.2.1=x4.2.1/\i4.2.1.2.2=x4.2.2/\i4.2.2.1.1=x2/\i4.2.2.1.2.1=x1/\i4.2.2.1.2.2=x5/\(z0a i4.1/\zue (length i4.1) i4.2.2.2)/\(∀i5,zyz x1 x2 x3 x4 x5 x6 i5->z05 i4.1 i4.2.1 i5/\slP inV i4.2.2.1 i4.2.2.2 i5)/\∀(i6:Unit),True->∀(i7:Option Addr) (i8 i9:Nat),(∃i10,zyy x1 x2 x3 x4 x5 x6 i7 i8 i9 i4 i10)->jl1 x0 i8 i7 x3 x4 x1 x6 x2 x5 i9 i4)
end
def zdr(S:List AT) (x:SV) (t:Int):qkj P (qfv [(56,z6n),(30,j0l),(57,z6q)]) (qgy [(58,z33)]) Try.f35 z9f (λ_=>{}) ⟨S,x,t⟩=(z0a S->(∃(p:Pub),True/\z05 S x p)->∃(s:List AT×Option Addr×Nat×Nat),s.2.1=x.1/\s.2.2.1=x.2.1/\s.2.2.2=x.2.2/\z0a s.1/\(∀(p:Pub),True/\z05 S x p->z05 s.1 s.2 p)/\∀(b:Unit),True->∀(a:Option Addr) (n c:Nat),(∃(p:Pub),zyz n a S x c s p)->∃(s_1:(Option Addr×Nat×Nat)×Int),s_1.1.1=x.1/\s_1.1.2.1=x.2.1/\s_1.1.2.2=x.2.2/\s_1.2=t/\True/\((jbt s_1)=true->∃(b:GV×Bool),j9n t S b ((∀(p:Pub),zyz n a S x c s p->GV.ok b.1 p)/\True))/\((jbt s_1)=false->jl0 t n a S x c s)):=by kernel_rfl
def zh1:=λS x t=>Eq.trans (zdr S x t) (by delta Ji Jt Jf zyz jbt jbs j9n zyy jl1 jl0;exact rfl)
section
variable {R:List Int}
def z1z{y:SV} {p:Pub} (h:slP inV y R p) {k:Nat} (hk:k<R.length):y.1≠noA/\q3f p (adr y.1 (k*1)) [.int .i64 (rAt R (k:Int))]:=by
 rw[z1b hk];exact z14 z20 (by decide) h hk
variable {S:List AT}
def z0v{i:Nat} (hi:i<S.length):atS S (i:Int)=S[i]:=by unfold atS;rw[Int.toNat_natCast,List.getElem?_eq_getElem hi];rfl
def z8d{a:AT} {p:Pub} (h:a.ok p) {j:Nat} (hj:j<a.fs.length):q3f p ((adr a.f.1 (j*9)).add 2) [.int .i64 a.fs[j].ty]:=λi v hi=>by
 cases i with
 |zero=>have:=(z1y h hj).2 2 v hi;rw[Addr.add_add];exact this
 |succ i=>simp at hi
def zfs{R B:List Int} {j:Nat} (hj:j<B.length) (m:Int):z88 R (B.drop j) m=z88 R (B.drop (j+1)) (if 0<=rAt R B[j]/\(m<0\/rAt R B[j]<m)then rAt R B[j]else m):=by rw[List.drop_eq_getElem_cons hj,z88]
def zhc{B:List AF} {j:Nat} (hj:j<B.length) (m:Int):z82 R (B.drop j) m=if rAt R B[j].ty<0 then -1 else z82 R (B.drop (j+1)) (if m<rAt R B[j].ty then rAt R B[j].ty else m):=by rw[List.drop_eq_getElem_cons hj,z82]
def zhp:q58 P 90 z9i:=by
 refine qkl mixed (qdh qk5) (W:=ziq) Try.func90 (by kernel_rfl) (by decide) (by decide) (λs=>by kernel_rfl) λ⟨S,(x:SV),(t:Int),(y:SV),R⟩=>(zho S x t y R).mpr ?_
 rintro⟨hS,⟨hRl,hR⟩,ht0,ht1⟩ ⟨p,_,hx,hy⟩
 obtain⟨i,rfl⟩:=Int.eq_ofNat_of_zero_le ht0
 have hi:i<S.length:=by omega
 have sl:x.2.1=S.length:=hx.1.1
 have yl:y.2.1=R.length:=hy.1
 have hat:=λq (hq:z05 S x q/\slP inV y R q)=>z2d hq.1 hi
 have hao:=λq (hq:z05 S x q/\slP inV y R q)=>hq.1.2 S[i] (List.getElem_mem hi)
 have hgd:=hS.2 S[i] (List.getElem_mem hi)
 simp only[sbS,exists_const,forall_const,Int.toNat_natCast,sl,yl,z0v hi]
 have hpp:z05 S x p/\slP inV y R p:=⟨hx,hy⟩
 have h60:=hS.1
 obtain⟨_,_,fl,bl⟩:=z1f (hao p hpp)
 have hb30:=hgd.2.2.2.2.2.2.2.2.1
 have hf30:=hgd.2.2.2.2.2.2.2.1
 have hbr:=hgd.2.2.1
 have hfr:=λf (hf:f∈S[i].fs)=>(hgd.2.2.2.2.1 f hf).1
 clear hgd
 refine⟨⟨by omega,by omega⟩,(hat p hpp).1,S[i].k,S[i].nm,S[i].al.1,S[i].al.2.1,S[i].al.2.2,S[i].it,S[i].sy.1,S[i].sy.2.1,S[i].sy.2.2,S[i].hd,S[i].df,S[i].sz,S[i].f.1,S[i].f.2.1,S[i].f.2.2,S[i].br.1,S[i].br.2.1,S[i].br.2.2,λq hq=>(hat q hq).2,λhk=>⟨⟨⟨0, -1⟩,rfl,rfl,Nat.zero_le _,⟨by decide,by decide⟩,rfl⟩,?_⟩,λhk=>⟨⟨⟨0,0⟩,rfl,rfl,Nat.zero_le _,⟨by decide,by decide⟩,rfl⟩,?_⟩⟩
 ·rintro⟨j,m⟩ ⟨hj,⟨hm1,hm2⟩,hb⟩
  simp only at hj hm1 hm2 hb⊢
  refine⟨λhlt=> ?_,λhge=> ?_⟩
  ·have hjl:j<S[i].brs.length:=by omega
   have hd:=zfs (R:=R) hjl m
   have bin:=hbr _ (List.getElem_mem hjl)
   have bat:=λq hq=>z1u (hao q hq) hjl
   rw[hb]at hd
   generalize S[i].brs[j]=b at*
   obtain⟨k,hk2,rfl⟩:=z12 bin
   have hkR:k<R.length:=by omega
   obtain⟨r1,r2⟩:=hR k bin
   refine⟨⟨by omega,by omega⟩,(bat p hpp).1,(k:Int),λq hq=>(bat q hq).2,⟨by omega,by omega⟩,(z1z hy hkR).1,rAt R k,λq hq=>(by rw[Int.toNat_natCast];exact(z1z hq.2 hkR).2),λh0=>⟨λh1=>⟨⟨by omega,by omega⟩,⟨j+1,rAt R k⟩,by show((j+1:Nat):Int)=_;omega,rfl,⟨by show j+1<=_;omega,⟨r1,r2⟩,?_⟩,by show _- (j+1)<_;omega⟩,λh1=>⟨λh2=>⟨⟨by omega,by omega⟩,⟨j+1,rAt R k⟩,by show((j+1:Nat):Int)=_;omega,rfl,⟨by show j+1<=_;omega,⟨r1,r2⟩,?_⟩,by show _- (j+1)<_;omega⟩,λh2=>⟨⟨by omega,by omega⟩,⟨j+1,m⟩,by show((j+1:Nat):Int)=_;omega,rfl,⟨by show j+1<=_;omega,⟨hm1,hm2⟩,?_⟩,by show _- (j+1)<_;omega⟩⟩⟩,λh0=>⟨⟨by omega,by omega⟩,⟨j+1,m⟩,by show((j+1:Nat):Int)=_;omega,rfl,⟨by show j+1<=_;omega,⟨hm1,hm2⟩,?_⟩,by show _- (j+1)<_;omega⟩⟩
   ·rw[if_pos ⟨h0, .inl h1⟩]at hd;exact hd.symm
   ·rw[if_pos ⟨h0, .inr h2⟩]at hd;exact hd.symm
   ·rw[if_neg (by omega)]at hd;exact hd.symm
   ·rw[if_neg (by omega)]at hd;exact hd.symm
  ·rw[List.drop_of_length_le (by omega),z88]at hb
   unfold rkd
   rw[if_pos hk,←hb]
   exact⟨λh=>by rw[if_pos h],λh=>⟨⟨by omega,by omega⟩,by rw[if_neg h]⟩⟩
 ·rintro⟨j,m⟩ ⟨hj,⟨hm1,hm2⟩,hb⟩
  simp only at hj hm1 hm2 hb⊢
  have er:rkd R S[i]=z82 R S[i].fs 0:=by unfold rkd;rw[if_neg hk]
  rw[er,←hb]
  refine⟨λhlt=> ?_,λhge=> ?_⟩
  ·have hjl:j<S[i].fs.length:=by omega
   have hd:=zhc (R:=R) hjl m
   have bin:=hfr _ (List.getElem_mem hjl)
   have bat:=λq hq=>z8d (hao q hq) hjl
   have bne:=(z1y (hao p hpp) hjl).1
   rw[hd]
   generalize S[i].fs[j]=f at*
   obtain⟨k,hk2,e⟩:=z12 bin
   rw[e]at hd bin⊢
   have hkR:k<R.length:=by omega
   obtain⟨r1,r2⟩:=hR k bin
   refine⟨⟨by omega,by omega⟩,bne,(k:Int),λq hq=>(by have:=bat q hq;rw[e]at this;exact this),⟨by omega,by omega⟩,(z1z hy hkR).1,rAt R k,λq hq=>(by rw[Int.toNat_natCast];exact(z1z hq.2 hkR).2),λh0=>by rw[if_pos h0],λh0=>⟨⟨by omega,by omega⟩,⟨j+1,if m<rAt R k then rAt R k else m⟩,rfl,by show((j+1:Nat):Int)=_;omega,⟨by show j+1<=_;omega,⟨?_,?_⟩,?_⟩,by show _- (j+1)<_;omega⟩⟩
   ·show 0<=if m<rAt R k then rAt R k else m
    split<;>omega
   ·show(if m<rAt R k then rAt R k else m)<=100
    split<;>omega
   ·rw[if_neg h0]
  ·rw[List.drop_of_length_le (by omega),z82]
   exact⟨⟨by omega,by omega⟩,rfl⟩
def z73{A B:List Int} (h:A.length=B.length) (i:Nat):(z4g A B i).length=B.length:=by unfold z4g;simp;omega
def zui{α:Type} (X:List α) (b v:α) (Y:List α):(X++b::Y).set X.length v=X++v::Y:=by
 induction X with
 |nil=>rfl
 |cons a X ih=>simp
def ztn{A B:List Int} (h:A.length=B.length) {i:Nat} (hi:i<B.length):(z4g A B i).set i (rAt A i)=z4g A B (i+1):=by
 unfold z4g
 have hA:i<A.length:=by omega
 have e:(A.take i).length=i:=by simp;omega
 have:=zui (A.take i) B[i] A[i] (B.drop (i+1))
 rw[e]at this
 rw[z1b hA,List.drop_eq_getElem_cons hi,this,List.take_succ_eq_append_getElem hA,List.append_assoc]
 rfl
def zmw{A B:List Int} (h:A.length=B.length) {i:Nat} (hi:i<B.length) (e:rAt A i=rAt B i):z4g A B i=z4g A B (i+1):=by
 unfold z4g
 have hA:i<A.length:=by omega
 rw[z1b hA,z1b hi]at e
 rw[List.drop_eq_getElem_cons hi,←e,List.take_succ_eq_append_getElem hA,List.append_assoc]
 rfl
def zca(A B:List Int):z4g A B 0=B:=by unfold z4g;simp
def zhb{A B:List Int} (h:A.length=B.length) {i:Nat} (hi:B.length<=i):z4g A B i=A:=by
 unfold z4g
 rw[List.take_of_length_le (by omega),List.drop_of_length_le (by omega),List.append_nil]
def z0z(W:List Int) (i:Nat) (hi:i<W.length) (v:Int):z00 inV (W.set i v)=spl (z00 inV W) (0+i*1) [.int .i64 v]:=z3l z20 W i hi v
def z74{A B:List Int} (h:A.length=B.length) {i:Nat} (hi:i<B.length) {v:Int} (e:rAt A i=v):z00 inV (z4g A B (i+1))=spl (z00 inV (z4g A B i)) (0+i*1) [.int .i64 v]:=by
 rw[←ztn h hi,e];exact z0z _ _ (by rw[z73 h];exact hi) _
def zba:∀n:Nat,q7h [.int .i64 0] n=z00 inV (List.replicate n 0)
 |0=>rfl
 |n+1=>by rw[q7h,zba n];rfl
def zht{K:Int} (h:RKI S R K) (hK:K<=100):zue S.length R:=⟨h.1,λt ht=>by
 obtain⟨j,hj,rfl⟩:=z12 ht
 have:=(h.2 j hj).1
 omega⟩
end
def zhr:q58 P 56 z6n:=by
 refine qkl mixed (qdh (qh9 zhp qk5)) (W:=zir) Try.func56 (by kernel_rfl) (by decide) (by decide) (λs=>by kernel_rfl) λ⟨S,(x:SV)⟩=>(zhq S x).mpr ?_
 rintro hS ⟨p,_,hx⟩
 have sl:x.2.1=S.length:=hx.1.1
 have h60:=hS.1
 simp only[sbS,exists_const,forall_const,Int.toNat_natCast,sl]
 have ml:(S.map ini).length=(List.replicate S.length (0:Int)).length:=by simp
 refine⟨⟨by omega,by omega,by omega,by omega⟩,⟨0,rfl,by rw[zca];exact(zba _).symm,Nat.zero_le _⟩,?_⟩
 intro i hi
 refine⟨λhlt=> ?_,λhge=> ?_⟩
 ·have hil:i<S.length:=by omega
  have hat:=λq (hq:z05 S x q)=>z2d hq hil
  have c0:∀q,z05 S x q->q3f q ((adr x.1 (i*10)).add 0) [.int .i64 S[i].k]:=λq hq j v hj=>by
   cases j with
   |zero=>have:=(hat q hq).2 0 v hj;rw[Addr.add_add];exact this
   |succ j=>simp at hj
  have ei:rAt (S.map ini) i=ini S[i]:=by rw[z1b (by simpa using hil)];simp
  have hrl:(z00 inV (z4g (S.map ini) (List.replicate S.length 0) i)).length=S.length*1:=by rw[z01 z20,z73 ml];simp
  have two:spl (spl (z00 inV (z4g (S.map ini) (List.replicate S.length 0) i)) (0+i*1) [.int .i64 (-1)]) (0+i*1) [.int .i64 0]=spl (z00 inV (z4g (S.map ini) (List.replicate S.length 0) i)) (0+i*1) [.int .i64 0]:=by
   have hm:i<(z4g (S.map ini) (List.replicate S.length 0) i).length:=by rw[z73 ml];simpa using hil
   rw[←z0z _ _ hm,←z0z _ _ (by rw[List.length_set];exact hm),←z0z _ _ hm,List.set_set]
  simp only[hrl,two,q8f,List.length_singleton]
  refine⟨⟨by omega,by omega⟩,by omega,⟨by omega,by omega⟩,(hat p hx).1,S[i].k,c0,λh9=>⟨⟨by omega,by omega⟩,(hat p hx).1,S[i].k,c0,λh14=>⟨⟨by omega,by omega⟩,by omega,⟨by omega,by omega⟩,i+1,by omega,z74 ml (by simpa using hil) ?_,by omega,by omega⟩,λh14=>⟨⟨by omega,by omega⟩,i+1,by omega,z74 ml (by simpa using hil) ?_,by omega,by omega⟩⟩,λh9=>⟨⟨by omega,by omega⟩,i+1,by omega,z74 ml (by simpa using hil) ?_,by omega,by omega⟩⟩
  ·rw[ei];unfold ini;rw[if_neg (by omega)]
  ·rw[ei];unfold ini;rw[if_pos (by omega)]
  ·rw[ei];unfold ini;rw[if_pos (by omega)]
 ·have ex:z4g (S.map ini) (List.replicate S.length 0) i=rkN S 0:=by rw[zhb ml (by simp;omega)];rfl
  have tk:∀k,List.take (S.length*1) (z00 inV (rkN S k))=z00 inV (rkN S k):=λk=>List.take_of_length_le (by rw[z01 z20,z2k];exact Nat.le_refl _)
  rw[ex,tk]
  rintro b s u _
  refine⟨⟨⟨0,(some ⟨b,s,none⟩,S.length,u / 1)⟩,rfl,rfl,rfl,rfl,λq hq=>⟨(z2k S 0).symm,hq.2.1,hq.2.2⟩,Nat.zero_le _⟩,?_⟩
  rintro⟨j,y⟩ hj ⟨p1,hp1,hy1⟩
  simp only at hj hy1⊢
  have yl:y.2.1=S.length:=hy1.1.trans (z2k S j)
  have lj:=z2k S j
  have ls:=z78 S _ lj
  have lm:(rkS S (rkN S j)).length=(rkN S j).length:=by omega
  simp only[yl]
  refine⟨λhle=>⟨z00 inV (rkN S j),by rw[z01 z20,z2k],λq hq=>hq.2.2.2,z1g (λx v hv=>by simp[inV]at hv;subst hv;rfl) _,by omega,⟨0,rfl,by rw[zca];rfl,Nat.zero_le _⟩,?_⟩,λhgt=> ?_⟩
  ·intro i hi
   refine⟨λhlt=> ?_,λhge=> ?_⟩
   ·have hil:i<S.length:=by omega
    have ra:=zhu lj hil
    have hrl:(z00 inV (z4g (rkS S (rkN S j)) (rkN S j) i)).length=S.length*1:=by rw[z01 z20,z73 lm,lj]
    simp only[hrl,List.length_singleton]
    refine⟨⟨by omega,by omega⟩,(z1z hy1 (show i<(rkN S j).length by omega)).1,rAt (rkN S j) i,λq hq=>(z1z hq.2 (show i<(rkN S j).length by omega)).2,λh0=>⟨⟨by omega,by omega⟩,i+1,by omega,?_,by omega,by omega⟩,λh0=>⟨⟨S,x,(i:Int),y,rkN S j⟩,rfl,sl,rfl,rfl,rfl,yl,rfl,⟨hS,zht (zse hS j) (by omega),by show 0<=(i:Int);omega,by show(i:Int)<_;omega⟩,λq hq=>⟨hq.1.1,hq.2⟩,⟨by omega,by omega⟩,by omega,⟨by omega,by omega⟩,i+1,by omega,z74 lm (by omega) ?_,by omega,by omega⟩⟩
    ·rw[if_pos h0]at ra
     rw[zmw lm (by omega) ra]
    ·rw[if_neg h0]at ra
     rw[ra]
     show rkd _ _=rkd _ (atS S (i:Int))
     rw[z0v hil]
   ·have e2:z4g (rkS S (rkN S j)) (rkN S j) i=rkN S (j+1):=by rw[zhb lm (by omega)];rfl
    have e3:(0+S.length)*1=S.length*1:=by omega
    rw[e2,e3,tk]
    rintro a c _
    exact⟨⟨by omega,by omega⟩,⟨j+1,(a,0+S.length,c)⟩,rfl,rfl,rfl,by show((j+1:Nat):Int)=_;omega,λq hq=>hq.1.1,λq hq=>⟨by show 0+S.length=(rkN S (j+1)).length;rw[z2k,Nat.zero_add],hq.2.1,hq.2.2⟩,by show j+1<=_;omega,by show _- (j+1)<_;omega⟩
  ·obtain rfl:j=S.length+1:=by omega
   refine⟨trivial,λq hq=> ?_⟩
   have:=hq.2
   unfold z04
   exact⟨by show S.length=_;rw[z2k],by have h:=this.2;rw[yl]at h;exact h⟩
section
variable {i:Nat}
def z3t{B:List Int} (h:i<B.length):B.getD i 0=B[i]:=by rw[List.getD_eq_getElem?_getD,List.getElem?_eq_getElem h];rfl
def z8b:q58 P 91 z50:=by
 refine qkl mixed (qdh qk5) (W:=zil) Try.func91 (by kernel_rfl) (by decide) (by decide) (λs=>by kernel_rfl) λ⟨a,(y:SV),R⟩=>(zg8 a y R).mpr ?_
 rintro⟨hRl,hb30,hbr⟩ ⟨p,_,ha,hy⟩
 obtain⟨_,_,_,bl⟩:=z1f ha
 have yl:y.2.1=R.length:=hy.1
 simp only[sbS,exists_const,forall_const,Int.toNat_natCast,yl,bl]
 refine⟨⟨⟨0,0⟩,rfl,rfl,Nat.zero_le _,Nat.le_refl _,λ_=>rfl,rfl⟩,?_⟩
 rintro⟨i,m⟩ ⟨hi,hmi,hm0,hc⟩
 simp only at hi hmi hm0 hc⊢
 refine⟨λhlt=>⟨?_,?_⟩,λhge=> ?_⟩
 ·have hil:i<a.brs.length:=by omega
  have hml:m<a.brs.length:=by omega
  have gi:=z3t hil
  have gm:=z3t hml
  have hap:a.ok p/\slP inV y R p:=⟨ha,hy⟩
  have ci:=λq (hq:a.ok q/\slP inV y R q)=>z1u hq.1 hil
  have cm:=λq (hq:a.ok q/\slP inV y R q)=>z1u hq.1 hml
  obtain⟨j,hj,ej⟩:=z12 (hbr _ (List.getElem_mem hil))
  obtain⟨k,hk,ek⟩:=z12 (hbr _ (List.getElem_mem hml))
  rw[ej]at gi ci
  rw[ek]at gm cm
  unfold chB
  rw[gi,gm]
  have rj:=λq (hq:a.ok q/\slP inV y R q)=>z1z hq.2 hj
  have rk:=λq (hq:a.ok q/\slP inV y R q)=>z1z hq.2 hk
  refine⟨⟨by omega,by omega⟩,(ci p hap).1,(j:Int),λq hq=>(ci q hq).2,⟨by omega,by omega⟩,(rj p hap).1,rAt R j,λq hq=>(rj q hq).2,λh0=>⟨⟨by omega,by omega⟩,(cm p hap).1,(k:Int),λq hq=>(cm q hq).2,⟨by omega,by omega⟩,(rk p hap).1,rAt R k,λq hq=>(rk q hq).2,?_⟩,?_⟩
  ·refine⟨λh1=>⟨λ_=>⟨λ_=>decide_eq_true ⟨h0, .inl h1⟩,λh=>absurd h0 h⟩,λh=>absurd h1 h⟩,λh1=>⟨⟨by omega,by omega⟩,(ci p hap).1,(j:Int),λq hq=>(ci q hq).2,⟨by omega,by omega⟩,(rj p hap).1,rAt R j,λq hq=>(rj q hq).2,⟨by omega,by omega⟩,(cm p hap).1,(k:Int),λq hq=>(cm q hq).2,⟨by omega,by omega⟩,(rk p hap).1,rAt R k,λq hq=>(rk q hq).2,λh=>absurd h h1,λ_=>⟨λ_=> ?_,λh=>absurd h0 h⟩⟩⟩
   exact z08 ⟨λh=>h.2.resolve_left h1,λh=>⟨h0, .inr h⟩⟩
  ·exactλh=>⟨λg=>absurd g h,λ_=>decide_eq_false λg=>h g.1⟩
 ·have e:a.brs.length- i=(a.brs.length- (i+1))+1:=by omega
  rw[e,chG]at hc
  refine⟨λh=>⟨⟨by omega,by omega⟩,⟨i+1,i⟩,rfl,by show((i+1:Nat):Int)=_;omega,⟨by show i+1<=_;omega,by show i<=i+1;omega,λh=>(by have h:i=i+1:=h;omega),?_⟩,by show _- (i+1)<_;omega⟩,λh=>⟨⟨by omega,by omega⟩,⟨i+1,m⟩,rfl,by show((i+1:Nat):Int)=_;omega,⟨by show i+1<=_;omega,by show m<=i+1;omega,λh=>(by have h:m=i+1:=h;omega),?_⟩,by show _- (i+1)<_;omega⟩⟩
  ·unfold chB at h
   rw[if_pos (of_decide_eq_true h)]at hc;exact hc
  ·unfold chB at h
   rw[if_neg (of_decide_eq_false h)]at hc;exact hc
 ·rw[show a.brs.length- i=0 by omega,chG]at hc
  rw[hc]
variable {S:List AT} {R:List Int} {k:Nat}
def ziu(hk:k<=S.length) (W:List Int):z84 S R (k:Int) 0 W=wall S R (S.length+1- k) k W:=by
 unfold z84
 rw[show S.length+1- k=(S.length- k)+1 by omega,wall,Int.toNat_natCast,Nat.sub_zero]
def zit{k:Int} (hi:i<S.length) (h:¬rAt R i=k) (W:List Int):z84 S R k i W=z84 S R k (i+1) W:=by
 unfold z84
 rw[show S.length- i=(S.length- (i+1))+1 by omega,zo5,if_neg h]
def zis{k:Int} (hi:i<S.length) (h:rAt R i=k) (W:List Int):z84 S R k i W=z84 S R k (i+1) (wfs (wU R W i S[i]) i S[i].fs):=by
 unfold z84
 have e:S.getD i zA=S[i]:=by rw[List.getD_eq_getElem?_getD,List.getElem?_eq_getElem hi];rfl
 rw[show S.length- i=(S.length- (i+1))+1 by omega,zo5,if_pos h,e,w1]
def zny(hi:S.length<=i) (W:List Int):z84 S R (k:Int) i W=wall S R (S.length+1- (k+1)) ((k+1:Nat):Int) W:=by
 unfold z84
 rw[show S.length- i=0 by omega,zo5,Int.toNat_natCast,show S.length+1- (k+1)=S.length- k by omega]
 rfl
def z2q{W:List Int} (hk:k<W.length):∀(j:Nat) v,[Value.int .i64 (rAt W k)][j]? =some v->(z00 inV W)[0+k*1+j]? =some v:=λj v h=>by
  cases j with
  |succ j=>simp at h
  | zero=>
    have e:z00 inV W=W.map (Value.int .i64):=by
      clear hk h
      induction W with
      |nil=>rfl
      |cons a W ih=>show [Value.int .i64 a]++z00 inV W=_;rw[ih];rfl
    rw[e,Nat.zero_add,Nat.mul_one,Nat.add_zero,List.getElem?_map,List.getElem?_eq_getElem hk,←h,z1b hk]
    rfl
def zec:q58 P 57 z6q:=by
 refine qkl mixed (qdh (qh9 z8b qk5)) (W:=zcz) Try.func57 (by kernel_rfl) (by decide) (by decide) (λs=>by kernel_rfl) λ⟨S,(x:SV),(y:SV),R⟩=>(zeb S x y R).mpr ?_
 rintro⟨hS,hRl,hR⟩ ⟨p,_,hx,hy⟩
 have sl:x.2.1=S.length:=hx.1.1
 have yl:y.2.1=S.length:=hy.1.trans hRl
 have h60:=hS.1
 have hpp:z05 S x p/\slP inV y R p:=⟨hx,hy⟩
 simp only[sbS,exists_const,forall_const,Int.toNat_natCast,sl,yl]
 have WB0:WB S.length (List.replicate S.length 0):=⟨by simp,λi hi=>by rw[z1b (by simpa using hi)];simp⟩
 refine⟨⟨by omega,by omega,by omega,by omega⟩,⟨⟨0,List.replicate S.length 0⟩,rfl,(zba _).symm,Nat.zero_le _,WB0,rfl⟩,?_⟩
 rintro⟨k,W⟩ ⟨hk,hW,hw⟩
 simp only at hk hW hw⊢
 refine⟨λhle=> ?_,λhgt=> ?_⟩
 ·refine⟨⟨⟨0,W⟩,rfl,rfl,Nat.zero_le _,hW,by show z84 S R (k:Int) 0 W=_;rw[ziu (by omega)];exact hw⟩,?_⟩
  rintro⟨i,V⟩ ⟨hi,hV,hv⟩
  simp only at hi hV hv⊢
  refine⟨λhlt=> ?_,λhge=>⟨⟨by omega,by omega⟩,⟨k+1,V⟩,by show((k+1:Nat):Int)=_;omega,rfl,⟨by show k+1<=_;omega,hV,by show wall S R _ _ V=_;rw[←zny (i:=i) (by omega)];exact hv⟩,by show _- (k+1)<_;omega⟩⟩
  have hil:i<S.length:=by omega
  have hat:=λq (hq:z05 S x q/\slP inV y R q)=>z2d hq.1 hil
  have hao:=λq (hq:z05 S x q/\slP inV y R q)=>hq.1.2 S[i] (List.getElem_mem hil)
  have hgd:=hS.2 S[i] (List.getElem_mem hil)
  have ri:=λq (hq:z05 S x q/\slP inV y R q)=>z1z hq.2 (show i<R.length by omega)
  obtain⟨_,_,fl,bl⟩:=z1f (hao p hpp)
  have hbr:=hgd.2.2.1
  have hne:=hgd.2.2.2.1
  have hfr:=λf (hf:f∈S[i].fs)=>(hgd.2.2.2.2.1 f hf).1
  have hb30:=hgd.2.2.2.2.2.2.2.2.1
  have hf30:=hgd.2.2.2.2.2.2.2.1
  clear hgd
  have hVl:V.length=S.length:=hV.1
  have hrw:=z01 z20 V
  have sp1:spl (z00 inV V) (0+i*1) [.int .i64 1]=z00 inV (V.set i 1):=(z0z V i (by omega) 1).symm
  have hV1:=z66 hV hil (v:=1) (by omega)
  simp only[z0v hil,sp1,hrw,z01 z20,List.length_set,List.length_singleton]
  refine⟨⟨by omega,by omega⟩,(ri p hpp).1,rAt R i,λq hq=>(ri q hq).2,λhnk=>⟨⟨by omega,by omega⟩,⟨i+1,V⟩,by show((i+1:Nat):Int)=_;omega,rfl,⟨by show i+1<=_;omega,hV,by show z84 S R _ (i+1) V=_;rw[←zit hil hnk];exact hv⟩,by show _- (i+1)<_;omega⟩,λhkk=>⟨⟨by omega,by omega⟩,by omega,⟨by omega,by omega⟩,(hat p hpp).1,S[i].k,S[i].nm,S[i].al.1,S[i].al.2.1,S[i].al.2.2,S[i].it,S[i].sy.1,S[i].sy.2.1,S[i].sy.2.2,S[i].hd,S[i].df,S[i].sz,S[i].f.1,S[i].f.2.1,S[i].f.2.2,S[i].br.1,S[i].br.2.1,S[i].br.2.2,λq hq=>(hat q hq).2,⟨λh14=> ?_,λh14=> ?_⟩,?_⟩⟩
  ·have hcl:chF R S[i].brs<S[i].brs.length:=zbn (hne h14)
   have bat:=λq (hq:z05 S x q/\slP inV y R q)=>z1u (hao q hq) hcl
   have gd:=z3t hcl
   have bin:=hbr _ (List.getElem_mem hcl)
   have hdo:=zis hil hkk V
   have eU:wU R V i S[i]=(V.set i 1).set i (wMn (rAt (V.set i 1) i) (rAt (V.set i 1) (S[i].brs.getD (chF R S[i].brs) 0))):=by unfold wU;rw[if_pos h14]
   rw[gd]at eU
   generalize S[i].brs[chF R S[i].brs]=b at*
   obtain⟨t,ht,rfl⟩:=z12 bin
   have e1:rAt (V.set i 1) i=1:=by rw[z25 (by omega),if_pos rfl]
   have hl1:(V.set i 1).length=S.length:=hV1.1
   have g1:=z2q (W:=V.set i 1) (k:=i) (by omega)
   have g2:=z2q (W:=V.set i 1) (k:=t) (by omega)
   have rt:=hV1.2 t ht
   rw[e1]at g1 eU
   refine⟨⟨by omega,by omega⟩,1,g1,⟨S[i],y,R⟩,rfl,rfl,rfl,rfl,rfl,rfl,rfl,rfl,rfl,rfl,rfl,rfl,rfl,rfl,rfl,rfl,rfl,rfl,rfl,yl,rfl,⟨by show R.length<1000;omega,hb30,λb hb=>by have:=hbr b hb;show 0<=b/\b<(R.length:Int);omega⟩,λq hq=>⟨hao q hq,hq.2⟩,⟨by omega,by show((chF R S[i].brs:Nat):Int)<_;omega⟩,(bat p hpp).1,(t:Int),λq hq=>(bat q hq).2,⟨by omega,by omega⟩,rAt (V.set i 1) t,λj v h=>g2 j v h,⟨by omega,by omega⟩,⟨by omega,by omega⟩,by omega,1,g1,rfl,wU R V i S[i],?_,?_,?_⟩
   ·rw[eU];exact z0z _ _ (by omega) _
   ·rw[eU];exact z66 hV1 hil (zcw (by omega) rt.1)
   ·rw[←hdo];exact hv
  ·have hdo:=zis hil hkk V
   have eU:wU R V i S[i]=V.set i 1:=by unfold wU;rw[if_neg h14]
   refine⟨wU R V i S[i],by rw[eU],by rw[eU];exact hV1,by rw[←hdo];exact hv⟩
  ·rintro V2 ⟨hV2,hw2⟩
   refine⟨⟨⟨0,V2⟩,rfl,rfl,Nat.zero_le _,hV2,hw2⟩,?_⟩
   rintro⟨m,V3⟩ ⟨hm,hV3,hw3⟩
   simp only at hm hV3 hw3⊢
   refine⟨λhlt=> ?_,λhge=>⟨⟨by omega,by omega⟩,⟨i+1,V3⟩,by show((i+1:Nat):Int)=_;omega,rfl,⟨by show i+1<=_;omega,hV3,?_⟩,by show _- (i+1)<_;omega⟩⟩
   ·have hml:m<S[i].fs.length:=by omega
    have bat:=λq hq=>z8d (hao q hq) hml
    have bne:=(z1y (hao p hpp) hml).1
    have bin:=hfr _ (List.getElem_mem hml)
    rw[List.drop_eq_getElem_cons hml,wfs]at hw3
    generalize S[i].fs[m]=f at*
    obtain⟨t,ht,e⟩:=z12 bin
    rw[e]at hw3
    have hl3:V3.length=S.length:=hV3.1
    have g1:=z2q (W:=V3) (k:=i) (by omega)
    have g2:=z2q (W:=V3) (k:=t) (by omega)
    have r1:=hV3.2 i hil
    have r2:=hV3.2 t ht
    refine⟨⟨by omega,by omega⟩,rAt V3 i,g1,⟨by omega,by omega⟩,bne,(t:Int),λq hq=>(by have:=bat q hq;rw[e]at this;exact this),⟨by omega,by omega⟩,rAt V3 t,λj v h=>g2 j v h,⟨by omega,by omega⟩,⟨by omega,by omega⟩,by omega,⟨by omega,by omega⟩,⟨m+1,V3.set i (wMn (rAt V3 i) (rAt V3 t))⟩,by show((m+1:Nat):Int)=_;omega,z0z _ _ (by omega) _,⟨by show m+1<=_;omega,z66 hV3 hil (zcw r1.1 r2.1),hw3⟩,by show _- (m+1)<_;omega⟩
   ·rw[List.drop_of_length_le (by omega),wfs]at hw3;exact hw3
 ·rw[show S.length+1- k=0 by omega,wall]at hw
  rintro b s u _
  have hl:W.length=S.length:=hW.1
  refine⟨trivial,λq hq=>⟨by show S.length=(wts S R).length;rw[←hw,hl],hq.2.1,?_⟩⟩
  have h2:=hq.2.2
  rw[List.take_of_length_le (by rw[z01 z20,hl];exact Nat.le_refl _)]at h2
  rw[←hw];exact h2
end
section
def z2y(n:Int) (s:ByteArray) (l:List PV) (ks:List ByteArray) (b:Int):(PV.mk n s l ks b).wt=30+0*s.size+kzs ks+PV.wts l:=by rw[PV.wt]
variable {S:List AT}
def zha(hS:z0a S) {i:Nat} (hi:i<S.length) (h:lsB S i=true):1<=lsW S i:=by
 obtain⟨_,h1,h2⟩:=z1l.1 h
 exact((zd0 hS (zd1 hS)).2 i hi h1).1
def z5d:zV.pv= .mk 0 (mkS []) [] [] 0:=by unfold zV;rw[GV.pv,GV.pvs]
def ms0:(mkS []).size=0:=rfl
def zc9(hS:z0a S) {i:Nat} (hi:i<S.length) (h:lsB S i=true) (h9:S[i].k≠9) (h11:S[i].k≠11) (h14:S[i].k≠14):lsQ S i zV:=by
 have hp:=zha hS hi h
 have hg:=hS.2 S[i] (List.getElem_mem hi)
 have hk:=hg.1
 have hsy:=hg.2.2.2.2.2.1
 have e0:(mkS []).size=0:=rfl
 refine⟨?_,?_,?_,λ_=>rfl⟩
 ·rw [z5d]
  by_cases hN:isN S[i].k=true
  ·refine zrf hi hN ?_
   unfold okN
   (repeat' split)<;>first|rfl| (exact decide_eq_true (by first|omega|rfl))|skip
   next h10=>
    have:=List.length_pos_iff.2 (hsy h10)
    exact decide_eq_true (by omega)
  ·by_cases hT:isT S[i].k=true
   ·refine zgl hi hT ?_
    unfold okT
    split
    ·decide+kernel
    ·first|rfl|rw[if_neg h11]
   ·have hN':¬(S[i].k=1\/S[i].k=2\/S[i].k=3\/S[i].k=4\/S[i].k=5\/S[i].k=6\/S[i].k=10):=λh=>hN (by unfold isN;exact decide_eq_true h)
    have hT':¬(S[i].k=7\/S[i].k=8\/S[i].k=11):=λh=>hT (by unfold isT;exact decide_eq_true h)
    rcases(by omega:S[i].k=12\/S[i].k=13)with h|h
    ·exact zbx hi h λv hv=>by cases hv
    ·exact zbz hi h rfl rfl λv hv=>by cases hv
 ·rw[z5d];exact z38 (by decide) (by rw[ms0];decide) (by decide) (by decide) (λk hk=>by cases hk) λv hv=>by cases hv
 ·rw[z5d,z2y,PV.wts,kzs,ms0];omega
def zjb(n:Nat):(zB n).size=n:=by unfold zB mkS;show(List.toArray _).size=n;simp
def zth(hS:z0a S) {i:Nat} (hi:i<S.length) (h:lsB S i=true) (h11:S[i].k=11):lsQ S i (.mk 0 (zB S[i].sz.toNat) (none,0,0) [] (none,0,0) [] 0):=by
 have hp:=zha hS hi h
 have hg:=(hS.2 S[i] (List.getElem_mem hi)).2.2.2.2.2.2.1 h11
 have ep:(GV.mk 0 (zB S[i].sz.toNat) (none,0,0) [] (none,0,0) [] 0).pv= .mk 0 (zB S[i].sz.toNat) [] [] 0:=by rw[GV.pv,GV.pvs]
 have hz:=zjb S[i].sz.toNat
 refine⟨?_,?_,?_,λh=>by rw[z0v hi]at h;omega⟩
 ·rw[ep]
  refine zgl hi (by unfold isT;exact decide_eq_true (by omega)) ?_
  unfold okT
  rw[if_neg (by omega),if_pos h11,hz];exact decide_eq_true (by omega)
 ·rw[ep];exact z38 (by decide) (by rw[hz];omega) (by decide) (by decide) (λk hk=>by cases hk) λv hv=>by cases hv
 ·rw[ep,z2y,PV.wts,kzs,hz];omega
def zti(hS:z0a S) {i:Nat} (hi:i<S.length) (h:lsB S i=true) (h9:S[i].k=9) {fs:List GV} {x:SV} (hI:lsI S i S[i].fs.length (GV.pvs fs)):lsQ S i (.mk 0 (mkS []) x fs (none,0,0) [] 0):=by
 obtain⟨l1,l2,l3,l4,l5⟩:=hI
 rw[z0v hi]at l2 l5
 simp only[z0v hi]at l3
 have hw:=(z9q hS hi h9 h).1
 have hg:=hS.2 S[i] (List.getElem_mem hi)
 have hf:=hg.2.2.2.2.2.2.2.1
 rw[List.take_length]at l5
 have ep:(GV.mk 0 (mkS []) x fs (none,0,0) [] 0).pv= .mk 0 (mkS []) (GV.pvs fs) [] 0:=by rw[GV.pv]
 refine⟨?_,?_,?_,λh=> ?_⟩
 ·rw[ep];exact zc0 hi h9 l1 l3
 ·rw[ep];exact z38 (by decide) (by rw[ms0];decide) (by omega) (by decide) (λk hk=>by cases hk) l4
 ·rw[ep,z2y,kzs,ms0]
  show((30+0+0+PV.wts (GV.pvs fs):Nat):Int)<=30*rAt (wts S (z04 S)) i
  omega
 ·rw[z0v hi]at h;omega
def ztj(hS:z0a S) {i:Nat} (hi:i<S.length) (h:lsB S i=true) (h14:S[i].k=14) {w:GV} {x:SV} (hw:lsQ S (S[i].brs.getD (chF (z04 S) S[i].brs) 0) w):lsQ S i (.mk 0 (mkS []) x [w] (none,0,0) [] (chF (z04 S) S[i].brs:Nat)):=by
 have hne:=(hS.2 S[i] (List.getElem_mem hi)).2.2.2.1 h14
 have hc:=zbn (R:=z04 S) hne
 have hu:=zh9 hS hi h14 h
 have ep:(GV.mk 0 (mkS []) x [w] (none,0,0) [] (chF (z04 S) S[i].brs:Nat)).pv= .mk 0 (mkS []) [w.pv] [] (chF (z04 S) S[i].brs:Nat):=by rw[GV.pv,GV.pvs,GV.pvs]
 obtain⟨w1,w2,w3,w4⟩:=hw
 refine⟨?_,?_,?_,λh=> ?_⟩
 ·rw[ep];exact zc1 hi h14 hc w1
 ·rw[ep];exact z38 (by decide) (by rw[ms0];decide) (by show 1<=_;decide) (by decide) (λk hk=>by cases hk) λv hv=>by simp at hv;subst hv;exact w2
 ·rw[ep,z2y,kzs,ms0,z41]
  unfold lsW at w3⊢
  omega
 ·rw[z0v hi]at h;omega
def j1e{S:List AT} (hS:z0a S) {i:Nat} (hi:i<S.length) (h:lsB S i=true) (h14:S[i].k=14):lsB S (S[i].brs.getD (chF (z04 S) S[i].brs) 0)=true/\rAt (z04 S) (S[i].brs.getD (chF (z04 S) S[i].brs) 0)<rAt (z04 S) i:=by
 obtain⟨_,h1,h2⟩:=z1l.1 h
 obtain⟨c1,c2,c3⟩:=z6s (zd1 hS) hi h14 h1
 have hb:=(hS.2 S[i] (List.getElem_mem hi)).2.2.1 _ (z3e c1)
 have hu:=zh9 hS hi h14 h
 exact⟨z1l.2 ⟨hb,c2,by omega⟩,c3⟩
def z3j(l:List GV) (v:GV):GV.pvs (l++[v])=GV.pvs l++[v.pv]:=by rw[GV.pvs_map,GV.pvs_map];simp
def zmv(hS:z0a S) {i:Nat} (hi:i<S.length) {j:Nat} {fs:List GV} (hj:j<S[i].fs.length) (hI:lsI S i j (GV.pvs fs)) {w:GV} (hw:lsQ S (S[i].fs[j]).ty w):lsI S i (j+1) (GV.pvs (fs++[w])):=by
 obtain⟨l1,l2,l3,l4,l5⟩:=hI
 obtain⟨w1,w2,w3,w4⟩:=hw
 rw[z3j]
 unfold lsI
 simp only[z0v hi]at l2 l3 l5⊢
 refine⟨by simp[l1],by omega,λk h1 h2=> ?_,λv hv=> ?_,?_⟩
 ·by_cases hk:k<(GV.pvs fs).length
  ·rw[List.getElem_append_left hk];exact l3 k hk h2
  ·obtain rfl:k=j:=by simp at h1;omega
   rw[List.getElem_append_right (by omega)]
   simp only[l1,Nat.sub_self,List.getElem_cons_zero];exact w1
 ·rcases List.mem_append.1 hv with hv|hv
  ·exact l4 v hv
  ·simp at hv;subst hv;exact w2
 ·have hs:∀(A B:List AF),z3y (wts S (z04 S)) (A++B)=z3y (wts S (z04 S)) A+z3y (wts S (z04 S)) B:=λA B=>by
   induction A with
   |nil=>rw[List.nil_append,z3y,Int.zero_add]
   |cons a A ih=>rw[List.cons_append,z3y,z3y,ih];omega
  rw[z2m,z41,List.take_succ_eq_append_getElem hj,hs,z3y,z3y]
  unfold lsW at w3
  omega
end
def zsd:∀n:Nat,q7h [.int .u8 0] n=q19 (zB n)
  |0=>rfl
  | n+1=>by
    rw[q7h,zsd n]
    unfold zB mkS q19
    simp[List.replicate_succ]
def zmr(n:Nat) (hl:q1u P 58 (z33.below ztr n)):q1u P 58 (z33.below ztr (n+1)):=by
 refine qjr mixed (qdh (qh9 z8b qk5)) (qe7 (qh8 hl qk4)) (W:=zio) Try.func58 (by kernel_rfl) (show 1<=1 by decide) (show 1<=1 by decide) (λs=>by kernel_rfl) λ⟨S,(x:SV),(t:Int),(y:SV)⟩=>(zh3 n S x t y).mpr ?_
 rintro⟨hmu,hS,hls⟩ ⟨p,_,hx,hy⟩
 have hmu:(rAt (z04 S) t).toNat<n+1:=hmu
 obtain⟨ht,hr0,hw⟩:=z1l.1 hls
 obtain⟨i,hi,rfl⟩:=z12 ht
 have hR:=zd1 hS
 have hpp:z05 S x p/\slP inV y (z04 S) p:=⟨hx,hy⟩
 have sl:x.2.1=S.length:=hx.1.1
 have hRl:=hR.1
 have yl:y.2.1=S.length:=hy.1.trans hRl
 have hat:=λq (hq:z05 S x q/\slP inV y (z04 S) q)=>z2d hq.1 hi
 have hao:=λq (hq:z05 S x q/\slP inV y (z04 S) q)=>hq.1.2 S[i] (List.getElem_mem hi)
 have hg:=hS.2 S[i] (List.getElem_mem hi)
 have h60:=hS.1
 obtain⟨_,_,fl,bl⟩:=z1f (hao p hpp)
 have hbr:=hg.2.2.1
 have hne:=hg.2.2.2.1
 have hfr:=λf (hf:f∈S[i].fs)=>(hg.2.2.2.2.1 f hf).1
 have hb30:=hg.2.2.2.2.2.2.2.2.1
 have hf30:=hg.2.2.2.2.2.2.2.1
 have hsz:=hg.2.2.2.2.2.2.1
 clear hg
 simp only[sbS,exists_const,forall_const,Int.toNat_natCast,sl,yl,z0v hi]
 refine⟨⟨by omega,by omega⟩,(hat p hpp).1,S[i].k,S[i].nm,S[i].al.1,S[i].al.2.1,S[i].al.2.2,S[i].it,S[i].sy.1,S[i].sy.2.1,S[i].sy.2.2,S[i].hd,S[i].df,S[i].sz,S[i].f.1,S[i].f.2.1,S[i].f.2.2,S[i].br.1,S[i].br.2.1,S[i].br.2.2,λq hq=>(hat q hq).2,λh11=> ?_,λh11=>⟨λh9=> ?_,λh9=>⟨λh14=> ?_,λh14=> ?_⟩⟩⟩
 ·have hz:=hsz h11
  refine⟨⟨by omega,by omega,by omega,by omega⟩,zB S[i].sz.toNat,zjb _,λj v hj=> ?_, .mk 0 (zB S[i].sz.toNat) (none,0,0) [] (none,0,0) [] 0,rfl,rfl,rfl,rfl,rfl,rfl,rfl,rfl,rfl,zth hS hi hls h11,λq hq=> ?_⟩
  ·rw[zsd,Nat.zero_add];exact hj
  ·unfold GV.ok;exact⟨z06,z06,by unfold GV.oks;trivial⟩
 ·have hrec:=z9q hS hi h9 hls
  have hrk:=(hR.2 i hi).2.2.1 h9 hr0
  refine⟨⟨⟨0,[]⟩,rfl,rfl,λq hq=>GV.oks_iff.2 λv h=>(by cases h),?_⟩,?_⟩
  ·unfold lsI
   rw[GV.pvs]
   exact⟨rfl,Nat.zero_le _,λk h1 h2=>absurd h1 (by simp),λv hv=>(by cases hv),by rw[PV.wts,List.take_zero,z3y];decide⟩
  rintro⟨j,fs⟩ hI ⟨p1,hp1,hfs⟩
  have hI:lsI S i j (GV.pvs fs):=hI
  have l1:fs.length=j:=by rw[←GV.pvs_len];exact hI.1
  have l2:j<=S[i].fs.length:=by have:=hI.2.1;rw[z0v hi]at this;exact this
  simp only at hfs⊢
  refine⟨λhlt=>⟨?xa,?xb,?xc⟩,λhge=> ?_⟩
  case xa|xb|xc=>
   have hjl:j<S[i].fs.length:=by omega
   have bat:=λq hq=>z8d (hao q hq) hjl
   have bne:=(z1y (hao p hpp) hjl).1
   have bin:=hfr _ (List.getElem_mem hjl)
   have blt:=hrk _ (List.getElem_mem hjl)
   have bls:=hrec.2 _ (List.getElem_mem hjl)
   have hsn:=λw hw=>zmv hS hi hjl hI (w:=w) hw
   generalize S[i].fs[j]=f at*
   refine⟨⟨by omega,by omega⟩,bne,f.ty,λq hq=>bat q hq.1,⟨S,x,f.ty,y⟩,rfl,sl,rfl,rfl,rfl,yl,rfl,⟨by show(rAt (z04 S) f.ty).toNat<n;omega,hS,bls⟩,λq hq=>hq.1,?_⟩
   rintro w hw _
   exact⟨z01 z0o fs,by omega,⟨by omega,by omega⟩,⟨j+1,fs++[w]⟩,by show((j+1:Nat):Int)=_;omega,by simp,by rw[z07];rfl,λq hq=>hq.1.1,λq hq=>z54 hq.1.2 (z2j hq.2),hsn w hw,by show _- (j+1)<_;omega⟩
  ·intro a c _
   have hj:j=S[i].fs.length:=by omega
   rw[hj]at hI
   refine⟨.mk 0 (mkS []) (a,fs.length,c) fs (none,0,0) [] 0,rfl,rfl,rfl,rfl,rfl,rfl,rfl,rfl,rfl,zti hS hi hls h9 hI,λq hq=> ?_⟩
   have h2:=hq.2.2
   rw[List.take_of_length_le (by rw[z01 z0o];exact Nat.le_refl _)]at h2
   unfold GV.ok
   exact⟨⟨rfl,hq.2.1,h2⟩,z06,hq.1.2⟩
 ·have hcl:=zbn (R:=z04 S) (hne h14)
  obtain⟨c1,c2⟩:=j1e hS hi hls h14
  have c3:=(z1l.1 c1).2.1
  have hq0:=λw x hw=>ztj hS hi hls h14 (w:=w) (x:=x) hw
  have gd:=z3t hcl
  have bat:=λq (hq:z05 S x q/\slP inV y (z04 S) q)=>z1u (hao q hq) hcl
  rw[gd]at c1 c2 c3 hq0
  refine⟨⟨S[i],y,z04 S⟩,rfl,rfl,rfl,rfl,rfl,rfl,rfl,rfl,rfl,rfl,rfl,rfl,rfl,rfl,rfl,rfl,rfl,rfl,rfl,yl,rfl,⟨by show(z04 S).length<1000;omega,hb30,λb hb=>by have:=hbr b hb;show 0<=b/\b<((z04 S).length:Int);omega⟩,λq hq=>⟨hao q hq,hq.2⟩,⟨?xa,?xb⟩⟩
  case xa|xb=>
   refine⟨⟨by omega,by show((chF (z04 S) S[i].brs:Nat):Int)<_;omega⟩,(bat p hpp).1,S[i].brs[chF (z04 S) S[i].brs],λq hq=>(bat q hq).2,⟨S,x,S[i].brs[chF (z04 S) S[i].brs],y⟩,rfl,sl,rfl,rfl,rfl,yl,rfl,⟨by show(rAt (z04 S) _).toNat<n;omega,hS,c1⟩,λq hq=>hq,?_⟩
   rintro w hw _ b s _
   refine⟨.mk 0 (mkS []) (some ⟨b,s+0,none⟩,1,1) [w] (none,0,0) [] (chF (z04 S) S[i].brs:Nat),rfl,rfl,rfl,rfl,rfl,rfl,rfl,rfl,rfl,hq0 _ _ hw,λq hq=> ?_⟩
   unfold GV.ok
   exact⟨⟨rfl,Nat.le_refl _, .inr ⟨_,rfl,rfl,hq.2⟩⟩,z06,z2j hq.1.2⟩
 ·exact⟨zV,rfl,rfl,rfl,rfl,rfl,rfl,rfl,rfl,rfl,zc9 hS hi hls h9 h11 h14,λq hq=>z3m q⟩
def z8h:∀n,q1u P 58 (z33.below ztr n)
 |0=>CtR.below_zero (by decide) (by decide) (Sen.enters_of Try.func58 (by kernel_rfl)) λs=>rfl
 |n+1=>zmr n (z8h n)
def zh4:q1u P 58 z33:=CtR.of_below z8h
def z8g:q1u P 35 z9f:=by
 refine qjr mixed (qdh (qh9 zhr (qh9 z6z (qh9 zec qk5)))) (qe7 (qh8 zh4 qk4)) (W:=λ_=>{}) Try.func35 (by kernel_rfl) (show 1<=1 by decide) (show 1<=1 by decide) (λs=>by kernel_rfl) λ⟨S,(x:SV),(t:Int)⟩=>(zh1 S x t).mpr ?_
 rintro hS ⟨p,_,hx⟩
 have sl:x.2.1=S.length:=hx.1.1
 have hR:=zd1 hS
 have hRl:=hR.1
 have h60:=hS.1
 simp only[sbS,exists_const,forall_const,Int.toNat_natCast,sl]
 have no:lsB S t=false->∀(Q:(Nat->Option Obj)->Prop),∃b:GV×Bool,b.1.n=0/\b.1.s=mkS []/\b.1.x.1=noA/\b.1.x.2.1=0/\b.1.x.2.2=0/\b.1.y.1=noA/\b.1.y.2.1=0/\b.1.y.2.2=0/\b.1.b=0/\b.2=false/\(b.2=lsB S t/\b.1.pv.sn/\b.1.pv.wt<=60000/\(b.2=true->PV.fits S t b.1.pv=true)/\(b.2=false\/(atS S t).k=12\/(atS S t).k=13->b.1=zV))/\∀p,Q p->b.1.ok p:=λhf Q=>⟨⟨zV,false⟩,rfl,rfl,rfl,rfl,rfl,rfl,rfl,rfl,rfl,rfl,⟨hf.symm,by show zV.pv.sn;rw[z5d];exact z38 (by decide) (by rw[ms0];decide) (by decide) (by decide) (λk hk=>by cases hk) λv hv=>(by cases hv),by show zV.pv.wt<=_;rw[z5d,z2y,PV.wts,kzs,ms0];decide,λh=>(by cases h),λ_=>rfl⟩,λq _=>z3m q⟩
 refine⟨⟨S,x⟩,rfl,sl,rfl,hS,λq hq=>hq,?_⟩
 rintro a n c ⟨p1,hp1,hr1⟩
 have hn:n=S.length:=hr1.1.trans hRl
 refine⟨⟨x,t⟩,rfl,sl,rfl,rfl,λh=>no (by simp only[sl]at h;unfold lsB;rw[h];rfl) _,λh=> ?_⟩
 simp only[sl,Bool.and_eq_true,decide_eq_true_eq]at h
 obtain⟨i,hi,rfl⟩:=z12 h
 have hWB:=(zd0 hS hR).1
 refine⟨⟨by omega,by omega⟩,(z1z hr1 (show i<(z04 S).length by omega)).1,rAt (z04 S) i,λq hq=>(z1z hq.2 (show i<(z04 S).length by omega)).2,λhneg=>no ?_ _,λhpos=>⟨⟨S,x,(a,n,c),z04 S⟩,rfl,sl,rfl,rfl,rfl,rfl,⟨hS,zht hR (by omega)⟩,λq hq=>⟨hq.1,hq.2⟩,?_⟩⟩
 ·cases hb:lsB S (i:Int)with
  |false=>rfl
  |true=>have:=(z1l.1 hb).2.1;omega
 rintro a5 n2 c1 ⟨p2,_,hw2⟩
 have hn2:n2=S.length:=hw2.1.trans hWB.1
 have hwl:=hWB.1
 refine⟨⟨by omega,by omega⟩,(z1z hw2 (show i<(wts S (z04 S)).length by omega)).1,rAt (wts S (z04 S)) i,λq hq=>(z1z hq.2 (show i<(wts S (z04 S)).length by omega)).2,λhgt=>no ?_ _,λhle=> ?_⟩
 ·cases hb:lsB S (i:Int)with
  |false=>rfl
  |true=>have:=(z1l.1 hb).2.2;omega
 have hls:lsB S (i:Int)=true:=z1l.2 ⟨h,by omega,by omega⟩
 refine⟨⟨S,x,(i:Int),(a,n,c)⟩,rfl,sl,rfl,rfl,rfl,rfl,rfl,⟨hS,hls⟩,λq hq=>⟨hq.1.1,hq.1.2⟩,?_⟩
 rintro v hv _
 obtain⟨v1,v2,v3,v4⟩:=hv
 refine⟨⟨v,true⟩,rfl,rfl,rfl,rfl,rfl,rfl,rfl,rfl,rfl,rfl,⟨hls.symm,v2,?_,λ_=>v1,λh=>h.elim (λh=>(by cases h)) v4⟩,λq hq=>hq.2⟩
 have v3:(v.pv.wt:Int)<=30*rAt (wts S (z04 S)) i:=v3
 show v.pv.wt<=60000
 omega
def zh2:q1u P 35 zg1:=by
  obtain⟨a1,a2,a3,a4⟩:=z8g
  refine⟨a1,a2,a3,λs=> ?_⟩
  obtain⟨h0,e0,r⟩:=a4 s
  refine⟨h0,e0,λF I w vs b1 b2 b3 b4 hp b5 b6 b7=>(r F I w vs b1 b2 b3 b4 hp.1 b5 b6 b7).mono λe w' h=> ?_⟩
  obtain⟨⟨v,b⟩,h1,hpost,e1,z,I',he,hr,g,hm⟩:=h
  have hz:v=zV:=hpost.2.2.2.2 (.inr (.inl hp.2))
  subst hz
  refine⟨b,h1,hpost.1,e1,z,I',he,?_,g,hm⟩
  have hr:VR I' (.tup [zV.av, .sv (.bool b)]) z:=hr
  cases hr with
  | tup h=>cases h with
    | cons h1 h2=>cases h1 with
      | agg h=>
        have:=qiq (l:=zV.cells) h
        subst this
        exact .tup (.cons (.agg (.cons (.int _ _) (.cons (.str _) (.cons .nsl (.cons .nsl (.cons (.int _ _) .nil)))))) h2)
def avW(d:Int):Nat:=60000*31 ^ (6- d).toNat
abbrev AvS:=List AT×SV×Int×Int×SV×List Int×Int
abbrev AvB:=GV×Bool×Int
def jn9(S:List AT) (x y:SV) (L:List Int):PF:=⟨true,λp=>z05 S x p/\slP byV y L p,λ_ _ h e=>⟨z18 h e.1,z0d h e.2⟩⟩
def z0i(S:List AT) (t d:Int) (L:List Int) (n:Int) (v:GV) (b:Bool) (n':Int):Prop:=b=lsB S t/\(n<=n'/\n'<=L.length)/\v.pv.sn/\v.pv.wt<=avW d/\(b=true->PV.fits S t v.pv=true)
def z2l(v w:GV):Prop:=w.pv.sz/\w.pv.wt<=v.pv.wt+40
def z3r(κ:AT->Prop):CtR where
 σ:=AvS
 args:=λ⟨S,x,t,d,y,L,n⟩=>[.ptr 1 0,scA x, .sv (.int .i64 t), .sv (.int .i64 d)]
 h:=λ⟨S,x,t,d,y,L,n⟩=>pkO y n
 m:=2
 pre:=λ⟨S,x,t,d,y,L,n⟩=>z0a S/\(0<=t/\t<S.length)/\κ (atS S t)/\(0<=d/\d<=6)/\0<=n/\n<=L.length/\z0g L
 mem:=λ⟨S,x,t,d,y,L,n⟩=>jn9 S x y L
 β:=λ_=>AvB
 post:=λ⟨S,x,t,d,y,L,n⟩ ⟨v,b,n'⟩=>z0i S t d L n v b n'
 pm:=λ_ ⟨v,b,n'⟩=>vM v
 r:=λ_ ⟨v,b,n'⟩=> .tup [v.av, .sv (.bool b)]
 h':=λ⟨S,x,t,d,y,L,n⟩ ⟨v,b,n'⟩=>pkO y n'
 m':=2
def z9s:AvS->Nat:=λ⟨S,x,t,d,y,L,n⟩=>(10- d).toNat
def zdo(k:Int):Bool:=decide (k=12\/k=13)
def j8v(a:AT):Prop:=a.k=12
def j8x(a:AT):Prop:=a.k≠12
def zff(a:AT):Prop:=True
def jc5(h:T AO) (vb n:Nat):AO:=match h.get vb with
 |some (.cells ty fz g [a,b,_,d,e])=> .cells ty fz g [a,b, .ssl 40 0 n 5 41,d,e]
 |_=> .cells 0 none false []
def arI(S:List AT) (a:AT) (L:List Int) (d n i n1:Int) (l:List PV):Prop:=(0<=i/\i+l.length<=3)/\(n<=n1/\n1<=L.length)/\(∀v∈l,PV.fits S a.it v=true/\v.sn)/\PV.wts l<=l.length*avW (d+1)
def maI(S:List AT) (a:AT) (L:List Int) (d n i n1:Int) (v:GV):Prop:=(0<=i/\i<=3)/\(n<=n1/\n1<=L.length)/\(v.n=0/\v.s=mkS []/\v.b=0)/\(v.ks.length=v.l.length/\v.l.length<=3- i)/\z1q v.ks=true/\(∀w∈GV.pvs v.l,PV.fits S a.it w=true/\w.sn)/\(∀k∈v.ks,k.size<1000)/\((kzs v.ks+PV.wts (GV.pvs v.l):Nat):Int)<=(3- i)*(avW (d+1)+12)
def reI(S:List AT) (a:AT) (L:List Int) (d n:Int) (j:Nat) (n1:Int) (l:List PV):Prop:=(l.length=j/\j<=a.fs.length)/\(n<=n1/\n1<=L.length)/\(∀(i:Nat) (h1:i<l.length) (h2:i<a.fs.length),PV.fits S (a.fs[i]).ty l[i]=true)/\(∀v∈l,v.sn)/\PV.wts l<=l.length*avW (d+1)
def znx(arr:Bool):AvS->WayF:=λ⟨S,x,t,d,y,L,n⟩=>{
  pubE:=[206]
  spl:=λi=>match i with
    |24=>some 9
    |32=>some 10
    |43=>some 9
    |_=>none
  flo:=λi=>match i with
    |24=>some (13,[9])
    |32=>some (14,[10])
    |_=>none
  cut:=λi tt _=>match i with
    |36=>swc zdo 166 46 [0,3,5,8,10,12,46] tt
    |_=>none
  ann :=λid tt hh=>match jc6 tt 10 with
    | some vb=>match id with
      |1=>some {σ:=Nat×Int×List GV,pre:=λ⟨j,n1,fs⟩=>reI S (atS S t) L d n j n1 (GV.pvs fs),mem:=λ⟨j,n1,fs⟩=>gsM fs,t:=λ⟨j,n1,fs⟩=>[(16, .sv (.int .i64 (j:Int)))],h:=λ⟨j,n1,fs⟩=>pkO y n1++[(vb,jc5 hh vb fs.length),(40, .row 37 0 (z00 GV.cells fs))],more:=60,μ:=λ⟨j,n1,fs⟩=>(atS S t).fs.length- j,keep:=[0,3,5,8,10,12]}
      | _=>match arr with
        |true=>some {σ:=Int×Int×List GV,pre:=λ⟨i,n1,fs⟩=>arI S (atS S t) L d n i n1 (GV.pvs fs),mem:=λ⟨i,n1,fs⟩=>gsM fs,t:=λ⟨i,n1,fs⟩=>[(19, .sv (.int .i64 i))],h:=λ⟨i,n1,fs⟩=>pkO y n1++[(vb,jc5 hh vb fs.length),(40, .row 37 0 (z00 GV.cells fs))],more:=60,μ:=λ⟨i,n1,fs⟩=>i.toNat,keep:=[0,3,5,8,10,12]}
        |false=>some {σ:=Int×Int×GV,pre:=λ⟨i,n1,v⟩=>maI S (atS S t) L d n i n1 v,mem:=λ⟨i,n1,v⟩=>vM v,t:=λ⟨i,n1,v⟩=>[(19, .sv (.int .i64 i))],h:=λ⟨i,n1,v⟩=>pkO y n1++[(vb,avO v)],more:=0,μ:=λ⟨i,n1,v⟩=>i.toNat,keep:=[0,3,5,8,10,12]}
    |none=>none}
abbrev TuS:=GV×Int×Int
def z34:CtR:=ctN TuS (λ⟨v,how,n⟩=>[v.av, .sv (.int .u8 how), .sv (.int .u64 n)]) (λ⟨v,how,n⟩=>(v.pv.sn/\v.pv.wt<100000000000000000)/\(0<=how/\how<256)/\0<=n/\n<18446744073709551616) (λ⟨v,how,n⟩=>vM v) GV (λ⟨v,how,n⟩ w=>z2l v w) (λ_ w=>vM w) λ_ w=>w.av
def ztt:TuS->Nat:=λ⟨v,how,n⟩=>SizeOf.sizeOf v
def jn7(t:T AV) (h:T AO) (s f:Nat):Option Nat:=match t.get s with
  | some (.ptr b _)=>match h.get b with
    | some (.cells _ _ _ l)=>match l[f]? with
      |some a=>rid a
      |none=>none
    |_=>none
  |_=>none
def tuI(v:GV) (i k:Int) (ks:List ByteArray):Prop:=(0<=i/\i<=v.ks.length)/\(-1<=k/\k<v.ks.length)/\ks.length=v.ks.length/\kzs ks=kzs v.ks/\∀x∈ks,x∈v.ks
def ziv:TuS->WayF:=λ⟨v,how,n⟩=>{
 pubE:=[51,127]
 pub:=λi k=>match i,k with
  |24,2=>[124]
  |_,_=>[]
 spl:=λi=>match i with
  |5=>some 11
  |_=>none
 flo:=λi=>match i with
  |5=>some (11,[0,1])
  |_=>none
 flu:=λi=>match i with
  |5=>[(11,[2])]
  |_=>[]
 cut:=λi _ _=>match i with
  |7=>some {σ:=Unit,t:=λ_=>[],h:=λ_=>[],more:=0,μ:=λ_=>0,keep:=[2,6,7]}
  |_=>none
 ann:=λ_ t h=>match jn7 t h 7 3 with
  |some r=>some {σ:=Int×Int×List ByteArray,pre:=λ⟨i,k,ks⟩=>tuI v i k ks,t:=λ⟨i,k,ks⟩=>[(9, .sv (.int .i64 i)),(10, .sv (.int .i64 k))],h:=λ⟨i,k,ks⟩=>[(r, .row 9 0 (z00 txV ks))],more:=0,μ:=λ⟨i,k,ks⟩=>(k- i+1).toNat,keep:=[6,7]}
  |none=>none}
section
variable (x0:Int) (x1 x2:GV) (x3 x4:List Value) (x5:Int) (x6:Nat) (x7:Int×Int×List ByteArray) (x8:Nat->Option Obj) (x9 x10:Option Addr) (x11:Nat) (x12:Prop)
 abbrev zf5:=(0:Nat)+(GV.x x1).2.1
 abbrev z3q:=(0:Nat)+(GV.y x1).2.1
 abbrev zz4:=slice (GV.y x1).1 (GV.y x1).2.1 (GV.y x1).2.2
 abbrev z5l:=(↑(zf5 x1):Int)
 abbrev zf4:=IntKind.wrap u8 (Int.tdiv x0 3)
 def zz5:=(0<=Int.tmod (zf4 x0) (z5l x1)/\Int.tmod (zf4 x0) (z5l x1)<(z5l x1))
 def zqe:=((True/\GV.ok x1 x8)/\GV.ok x2 x8)/\(0:Nat)+(GV.x x1).2.1<=x6/\qhc x8 x9 (take ((zf5 x1)*nat_lit 5) (spl ([]++x3) (nat_lit 0+toNat (Int.tmod (zf4 x0) (z5l x1))*nat_lit 5) [int u64 (GV.n x2),string (GV.s x2),slice (GV.x x2).1 (GV.x x2).2.1 (GV.x x2).2.2,slice (GV.y x2).1 (GV.y x2).2.1 (GV.y x2).2.2,int i64 (GV.b x2)]))
 def zz6:=(0:Nat)+(GV.y x1).2.1<=x6/\qhc x8 x9 (take ((z3q x1)*nat_lit 1) ([]++x3))
 def z8z:=GV.n x1=GV.n x2/\GV.s x1=GV.s x2/\x12
 def zz3:=(GV.x x1).1=x9/\(GV.x x1).2.1=0+(GV.x x2).2.1/\(GV.x x1).2.2=x6/\x12
 def zqg:=(GV.y x1).1=x9/\(GV.y x1).2.1=0+(GV.y x2).2.1/\(GV.y x1).2.2=x6/\x12
 abbrev zar:=zz3 x1 x2 x6 x9 (zqg x1 x2 x11 x10 x12)
 def jl2:=zz5 x0 x1/\nat_lit 0+toNat (Int.tmod (zf4 x0) (z5l x1))*nat_lit 5+length [int u64 (GV.n x2),string (GV.s x2),slice (GV.x x2).1 (GV.x x2).2.1 (GV.x x2).2.2,slice (GV.y x2).1 (GV.y x2).2.1 (GV.y x2).2.2,int i64 (GV.b x2)]<=length ([]++x3)/\∀(i0 i1 i2:Nat) (i3:Option Addr) (i4 i5:Nat),(∃i6,zqe x0 x1 x2 x3 i5 i6 i3)->∀(i7 i8 i9:Nat) (i10:Option Addr) (i11 i12:Nat),(∃i13,(zqe x0 x1 x2 x3 i5 i13 i3)/\zz6 x1 x4 i12 i13 i10)->∃(i14:GV),z8z i14 x1 (zar i14 x1 i5 i3 i10 i12 (GV.b i14=GV.b x1/\z2l x1 i14/\(∀i15,(zqe x0 x1 x2 x3 i5 i15 i3)/\zz6 x1 x4 i12 i15 i10->GV.ok i14 i15)/\True))
 def zz2:=zz5 x0 x1/\∃(i0:Int),∃i1,∃i2,∃(i3:Nat),∃(i4:Nat),∃i5,∃(i6:Nat),∃(i7:Nat),∃(i8:Int),(∀(i9:Nat) (i10:Value),[int u64 i0,string i1,slice i2 i3 i4,slice i5 i6 i7,int i64 i8][i9]? =some i10->([]++x3)[nat_lit 0+toNat (Int.tmod (zf4 x0) (z5l x1))*nat_lit 5+i9]? =some i10)/\(3:Int)≠0/\∃(i11:TuS),GV.n i11.1=i0/\GV.s i11.1=i1/\(GV.x i11.1).1=i2/\(GV.x i11.1).2.1=i3/\(GV.x i11.1).2.2=i4/\(GV.y i11.1).1=i5/\(GV.y i11.1).2.1=i6/\(GV.y i11.1).2.2=i7/\GV.b i11.1=i8/\i11.2.1=IntKind.wrap u8 (Int.tdiv x0 3)/\i11.2.2=x5/\(ztt i11<x6/\(PV.sn (GV.pv i11.1)/\PV.wt (GV.pv i11.1)<100000000000000000)/\(0<=i11.2.1/\i11.2.1<256)/\0<=i11.2.2/\i11.2.2<18446744073709551616)/\(∀i12,True/\GV.ok x1 i12->GV.ok i11.1 i12)/\∀(i13:GV),z2l i11.1 i13->(∃i14,(True/\GV.ok x1 i14)/\GV.ok i13 i14)->jl2 x0 x1 i13 x3 x4
 def jl4:=(3:Int)≠0/\Jb (IntKind.wrap u8 (Int.tdiv x0 3))/\(z5l x1)≠0/\((zz2 x0 x1 x3 x4 x5 x6)/\zz2 x0 x1 x3 x4 x5 x6)/\((zz2 x0 x1 x3 x4 x5 x6)/\zz2 x0 x1 x3 x4 x5 x6)/\(zz2 x0 x1 x3 x4 x5 x6)/\zz2 x0 x1 x3 x4 x5 x6
 def zks:=GV.n x1=GV.n x1/\GV.s x1=GV.s x1/\(0:Nat)+(GV.x x1).2.1=0+(GV.x x1).2.1/\(0:Nat)+(GV.y x1).2.1=0+(GV.y x1).2.1/\GV.b x1=GV.b x1/\[]++x3=[]++x3/\x12
 def zkt:=(∀i0,True/\GV.ok x1 i0->True/\GV.ok x1 i0)
 def jl3:=(3:Int)≠0/\Ji (0<Int.tmod x0 3) (jl4 x0 x1 x3 x4 x5 x6) (∃(i90:Unit),x5=x5/\zks x1 x3 ([]++x4=[]++x4/\zkt x1/\True/\True))
 abbrev zas:=Int.tmod x0 (7:Int)=x5
 def zsb:=(True/\GV.ok x1 x8)/\(0:Nat)+(GV.x x1).2.1<=x6/\qhc x8 x9 (take ((zf5 x1)*nat_lit 5) ([]++x3))
 def z8y:=∃i0,zsb x1 x3 x6 i0 x9
 def zf6:=∃i0,(zsb x1 x3 x6 i0 x9)/\zz6 x1 x4 x11 i0 x10
 def zf3:=z2l x1 x2/\(∀i0,(zsb x1 x3 x6 i0 x9)/\zz6 x1 x4 x11 i0 x10->GV.ok x2 i0)/\True
 def j74:=(7:Int)≠0/\∀(i0 i1 i2:Nat) (i3:Option Addr) (i4 i5:Nat),(z8y x1 x3 i5 i3)->∀(i7 i8 i9:Nat) (i10:Option Addr) (i11 i12:Nat),(zf6 x1 x3 x4 i5 i3 i10 i12)->∃(i14:GV),GV.n i14=IntKind.wrap u64 (Int.tdiv x0 7)/\GV.s i14=GV.s x1/\zar i14 x1 i5 i3 i10 i12 (GV.b i14=GV.b x1/\zf3 x1 i14 x3 x4 i5 i3 i10 i12)
 def j73:=size (GV.s x1)+size (mkS [255])<=9223372036854775807/\∀(i0 i1 i2:Nat) (i3:Option Addr) (i4 i5:Nat),(z8y x1 x3 i5 i3)->∀(i7 i8 i9:Nat) (i10:Option Addr) (i11 i12:Nat),(zf6 x1 x3 x4 i5 i3 i10 i12)->∃(i14:GV),GV.n i14=GV.n x1/\GV.s i14=GV.s x1++mkS [255]/\zar i14 x1 i5 i3 i10 i12 (GV.b i14=GV.b x1/\zf3 x1 i14 x3 x4 i5 i3 i10 i12)
 def zqf:=(True/\GV.ok x1 x8)/\(0:Nat)+(GV.x x1).2.1+nat_lit 1<=x6/\qhc x8 x9 (take (((0:Nat)+(GV.x x1).2.1+nat_lit 1)*nat_lit 5) ([]++x3++[int u64 0,string (mkS []),slice noA 0 0,slice noA 0 0,int i64 0]))
 def jl7:=length ([]++x3)=(zf5 x1)*5/\((0:Nat)+(GV.x x1).2.1+nat_lit 1)*80<=140737488355328/\∀(i0 i1 i2:Nat) (i3:Option Addr) (i4 i5:Nat),(∃i6,zqf x1 x3 i5 i6 i3)->∀(i7 i8 i9:Nat) (i10:Option Addr) (i11 i12:Nat),(∃i13,(zqf x1 x3 i5 i13 i3)/\zz6 x1 x4 i12 i13 i10)->∃(i14:GV),z8z i14 x1 ((GV.x i14).1=i3/\(GV.x i14).2.1=0+(GV.x x1).2.1+nat_lit 1/\(GV.x i14).2.2=i5/\zqg i14 x1 i12 i10 (GV.b i14=GV.b x1/\z2l x1 i14/\(∀i15,(zqf x1 x3 i5 i15 i3)/\zz6 x1 x4 i12 i15 i10->GV.ok i14 i15)/\True))
 def zz0:=(0:Nat)+(GV.y x1).2.1+nat_lit 1<=x6/\qhc x8 x9 (take (((0:Nat)+(GV.y x1).2.1+nat_lit 1)*nat_lit 1) ([]++x3++[string (mkS [97])]))
 def j71:=length ([]++x3)=(z3q x1)*1/\((0:Nat)+(GV.y x1).2.1+nat_lit 1)*16<=140737488355328/\∀(i0 i1 i2:Nat) (i3:Option Addr) (i4 i5:Nat),(z8y x1 x4 i5 i3)->∀(i7 i8 i9:Nat) (i10:Option Addr) (i11 i12:Nat),(∃i13,(zsb x1 x4 i5 i13 i3)/\zz0 x1 x3 i12 i13 i10)->∃(i14:GV),z8z i14 x1 (zz3 i14 x1 i5 i3 ((GV.y i14).1=i10/\(GV.y i14).2.1=0+(GV.y x1).2.1+nat_lit 1/\(GV.y i14).2.2=i12/\GV.b i14=GV.b x1/\z2l x1 i14/\(∀i15,(zsb x1 x4 i5 i15 i3)/\zz0 x1 x3 i12 i15 i10->GV.ok i14 i15)/\True))
 abbrev zz1:=Int.tmod (IntKind.wrap u64 (Int.tdiv x0 7)) 5
 def j72:=(7:Int)≠0/\(5:Int)≠0/\Jb (IntKind.wrap i64 (zz1 x0)- 1)/\∀(i0 i1 i2:Nat) (i3:Option Addr) (i4 i5:Nat),(z8y x1 x3 i5 i3)->∀(i7 i8 i9:Nat) (i10:Option Addr) (i11 i12:Nat),(zf6 x1 x3 x4 i5 i3 i10 i12)->∃(i14:GV),z8z i14 x1 (zar i14 x1 i5 i3 i10 i12 (GV.b i14=IntKind.wrap i64 (zz1 x0)- 1/\zf3 x1 i14 x3 x4 i5 i3 i10 i12))
 def jl8:=(0<=x7.2.1/\x7.2.1<(↑(z3q x1):Int))/\∃i0,(∀(i1:Nat) (i2:Value),[string i0][i1]? =some i2->(z00 txV x7.2.2)[nat_lit 0+toNat x7.2.1*nat_lit 1+i1]? =some i2)/\(0<=x7.1/\x7.1<(↑(z3q x1):Int))/\∃i3,(∀(i4:Nat) (i5:Value),[string i3][i4]? =some i5->(z00 txV x7.2.2)[nat_lit 0+toNat x7.1*nat_lit 1+i4]? =some i5)/\(0<=x7.1/\x7.1<(↑(z3q x1):Int))/\nat_lit 0+toNat x7.1*nat_lit 1+length [string i0]<=length (z00 txV x7.2.2)/\(0<=x7.2.1/\x7.2.1<(↑(z3q x1):Int))/\nat_lit 0+toNat x7.2.1*nat_lit 1+length [string i3]<=length (spl (z00 txV x7.2.2) (nat_lit 0+toNat x7.1*nat_lit 1) [string i0])/\AV.ssl (nat_lit 8) (nat_lit 0) (z3q x1) (nat_lit 1) (nat_lit 9)=AV.ssl (nat_lit 8) (nat_lit 0) (z3q x1) (nat_lit 1) (nat_lit 9)/\Jb (x7.1+1)/\Jb (x7.2.1- 1)/\∃(i6:Int×Int×List ByteArray),i6.1=x7.1+1/\i6.2.1=x7.2.1- 1/\zks x1 x3 (z00 txV i6.2.2=spl (spl (z00 txV x7.2.2) (nat_lit 0+toNat x7.1*nat_lit 1) [string i0]) (nat_lit 0+toNat x7.2.1*nat_lit 1) [string i3]/\zkt x1/\tuI x1 i6.1 i6.2.1 i6.2.2/\toNat (i6.2.1- i6.1+1)<toNat (x7.2.1- x7.1+1)/\True)
 def jl6:=Ji (x7.1<x7.2.1) (jl8 x1 x3 x7) (∀(i8 i9 i10:Nat) (i11:Option Addr) (i12 i13:Nat),(z8y x1 x3 i13 i11)->∀(i15 i16 i17:Nat) (i18:Option Addr) (i19 i20:Nat),(∃i21,(zsb x1 x3 i13 i21 i11)/\(0:Nat)+(GV.y x1).2.1<=i20/\qhc i21 i18 (take ((z3q x1)*nat_lit 1) (z00 txV x7.2.2)))->∃(i22:GV),z8z i22 x1 (zar i22 x1 i13 i11 i18 i20 (GV.b i22=GV.b x1/\z2l x1 i22/\(∀i23,(zsb x1 x3 i13 i23 i11)/\(0:Nat)+(GV.y x1).2.1<=i20/\qhc i23 i18 (take ((z3q x1)*nat_lit 1) (z00 txV x7.2.2))->GV.ok i22 i23)/\True)))
 def jl5:=Jb ((↑(z3q x1):Int)- 1)/\(∃(i0:Int×Int×List ByteArray),i0.1=0/\i0.2.1=(↑(z3q x1):Int)- 1/\zks x1 x3 (z00 txV i0.2.2=[]++x4/\zkt x1/\tuI x1 i0.1 i0.2.1 i0.2.2/\True))/\∀(i2:Int×Int×List ByteArray),tuI x1 i2.1 i2.2.1 i2.2.2->jl6 x1 x3 i2
end
def za0(c:Nat) (v:GV) (how n:Int):qkj P (qfv []) (qgy [(15,z34.below ztt c)]) Try.f15 (z34.below ztt (c+1)) (ziv) ⟨v,how,n⟩=(ztt (v,how,n)<c+1/\(PV.sn (GV.pv v)/\PV.wt (GV.pv v)<100000000000000000)/\(0<=how/\how<256)/\0<=n/\n<18446744073709551616->(∃(p:Pub),True/\GV.ok v p)->∃(us:List Value),length us=(GV.x v).2.1*5/\(∀(p:Pub),True/\GV.ok v p->qhc p (GV.x v).1 us)/\qkq us/\(zf5 v)*80<=140737488355328/\∃(us_1:List Value),length us_1=(GV.y v).2.1*1/\(∀(p:Pub),True/\GV.ok v p->qhc p (GV.y v).1 us_1)/\qkq us_1/\(z3q v)*16<=140737488355328/\AV.sv (zz4 v)=AV.sv (zz4 v)/\(Ji (0<(z5l v)) (jl3 how v us us_1 n c) (∃(s:Unit),n=n/\zks v us ([]++us_1=[]++us_1/\zkt v/\True/\True)))/\∀(s:Unit),True->(7:Int)≠0/\Ji (zas n 0) (j74 n v us us_1) (Ji (zas n 1) (j73 v us us_1) (Ji (zas n 2) (jl7 v us us_1) (Ji (zas n 3) (j71 v us_1 us) (Ji (zas n 4) (j72 n v us us_1) (Ji (zas n 5) (Ji (0<(z5l v)) (∀(b s u:Nat) (a:Option Addr) (n c:Nat),(z8y v us c a)->(0:Nat)+(GV.x v).2.1<=c/\((0:Int)<=1/\1<=(z5l v))/\∀(b s u:Nat) (a_2:Option Addr) (n c_1:Nat),(zf6 v us us_1 c a a_2 c_1)->∃(b:GV),z8z b v ((GV.x b).1=slA a c (nat_lit 1) 5/\(GV.x b).2.1=(Nat.brecOn.go (motive:=λ(x:Nat)=>Nat->Nat) (GV.x v).2.1 Nat.add._f).1 0- nat_lit 1/\(GV.x b).2.2=c- nat_lit 1/\zqg b v c_1 a_2 (GV.b b=GV.b v/\zf3 v b us us_1 c a a_2 c_1))) (∀(b s u:Nat) (a:Option Addr) (n c:Nat),(z8y v us c a)->∀(b s u:Nat) (a_2:Option Addr) (n c_1:Nat),(zf6 v us us_1 c a a_2 c_1)->∃(b:GV),z8z b v (zar b v c a a_2 c_1 (GV.b b=GV.b v/\zf3 v b us us_1 c a a_2 c_1)))) (jl5 v us us_1))))))):=by kernel_rfl
def ze5:=λc v how n=>Eq.trans (za0 c v how n) (by delta Ji Jb Jt Jf zf5 z3q zz4 z5l zf4 zz5 zqe zz6 z8z zz3 zqg zar jl2 zz2 jl4 zks zkt jl3 zas zsb z8y zf6 zf3 j74 j73 zqf jl7 zz0 j71 zz1 j72 jl8 jl6 jl5;exact rfl)
section
variable (x0:Bool) (x1:SV) (x2:Int) (x3:List AT) (x4 x5:Int) (x6:List Int) (x7:SV) (x8:Nat) (x9:Int) (x10:Nat) (x11:Option Addr) (x12:Nat) (x13:ByteArray) (x14:Option Addr) (x15 x16:Nat) (x17:Int) (x18:Option Addr) (x19:Nat) (x20:ByteArray) (x21:Int) (x22:Option Addr) (x23 x24 x25:Nat) (x26:AvB) (x27:List Int) (x28:AvS) (x29:Nat×Int×List GV) (x30:Int×Int×List GV) (x31:Prop) (x32:Nat->Option Obj) (x33 x34 x35 x36 x37:Int)
 abbrev z11:=(True/\z05 x3 x1 x32/\slP byV x7 x6 x32)/\GV.ok zV x32
 def z90:=GV.n x26.1=0/\GV.s x26.1=mkS []/\x31
 def zf8:=(GV.y x26.1).1=noA/\(GV.y x26.1).2.1=0/\(GV.y x26.1).2.2=0/\x31
 def zku:=(GV.x x26.1).1=noA/\(GV.x x26.1).2.1=0/\(GV.x x26.1).2.2=0/\zf8 x26 (GV.b x26.1=0/\x31)
 def z1c:=x1.1=x1.1/\x1.2.1=x1.2.1/\x1.2.2=x1.2.2/\x31
 abbrev zav:=z0i x3 x2 x4 x6 x5 x26.1 x26.2.1 x26.2.2
 def zqn:=zav x2 x3 x4 x5 x6 x26/\(∀i0,z11 x1 x3 x6 x7 i0->GV.ok x26.1 i0)/\True
 def zqk:=∃(i0:AvB),z90 i0 (zku i0 (i0.2.1=x0/\z1c x1 (i0.2.2=x2/\zqn x7 x4 x3 x5 x2 x6 x1 i0)))
 def zkw:=(∀i0,z11 x1 x3 x6 x7 i0->slP byV (x7.1,x7.2.1,x7.2.2) x27 i0)
 def zau:=x2=x2/\(0<=x2/\x2<=(↑(length x6):Int)/\0<x4/\x4<1000000/\z0g x6)/\zkw x1 x3 x27 x7 x6/\x31
 def zat:=zku x26 (x26.2.1=true/\z1c x1 (x26.2.2=z09 x6 x2/\zqn x7 x4 x3 x5 x2 x27 x1 x26))
 def zqh:=(Jt (x2=x17)->∃(i0:List Int),(7:Int)=7/\z1c x1 (zau x7 x4 x3 7 i0 x1 x6 ((0<=z0h i0 x4 7/\z0h i0 x4 (7:Int)<(↑(nat_lit 7):Int))/\∃(i2:Int),(∀(i3:Nat) (i4:Value),[int u64 i2][i3]? =some i4->[int u64 0,int u64 x21,int u64 x33,int u64 x34,int u64 x35,int u64 x36,int u64 x37][nat_lit 0+toNat (z0h i0 x4 7)*1+i3]? =some i4)/\∃(i5:AvB),GV.n i5.1=i2/\GV.s i5.1=mkS []/\zat x1 x4 x3 x5 x9 i0 x7 i5 x6)))
 def zza:=x2=x2/\(0<=x2/\x2<=(↑(length x6):Int)/\0<(↑x8:Int)/\(↑x8:Int)<1000000/\z0g x6)/\x31
 abbrev zqm:=Jb (x2+1)
 def zqj:=x28.2.1.1=x1.1/\x28.2.1.2.1=x1.2.1/\x28.2.1.2.2=x1.2.2/\x28.2.2.1=x2/\x28.2.2.2.1=x4+1/\x28.2.2.2.2.1.1=x7.1/\x28.2.2.2.2.1.2.1=x7.2.1/\x28.2.2.2.2.1.2.2=x7.2.2/\x31
 def zqi:=(z9s x28<x8/\z0a x28.1/\(0<=x28.2.2.1/\x28.2.2.1<(↑(length x28.1):Int))/\zff (atS x28.1 x28.2.2.1)/\(0<=x28.2.2.2.1/\x28.2.2.2.1<=6)/\0<=x28.2.2.2.2.2.2/\x28.2.2.2.2.2.2<=(↑(length x28.2.2.2.2.2.1):Int)/\z0g x28.2.2.2.2.2.1)
 def zql:=z05 x28.1 x28.2.1 x32/\slP byV x28.2.2.2.2.1 x28.2.2.2.2.2.1 x32
 abbrev zaw:=(GV.x x26.1).2.1
 abbrev zax:=(GV.x x26.1).2.2
 abbrev zay:=(GV.y x26.1).2.1
 abbrev zaz:=(GV.y x26.1).2.2
 def zz7:=AV.agg [AV.sv (int u64 (GV.n x26.1)),AV.sv (string (GV.s x26.1)),AV.sv (slice (GV.x x26.1).1 (zaw x26) (zax x26)),AV.sv (slice (GV.y x26.1).1 (zay x26) (zaz x26)),AV.sv (int i64 (GV.b x26.1))]=AV.agg [AV.sv (int u64 (GV.n x26.1)),AV.sv (string (GV.s x26.1)),AV.sv (slice (GV.x x26.1).1 (zaw x26) (zax x26)),AV.sv (slice (GV.y x26.1).1 (zay x26) (zaz x26)),AV.sv (int i64 (GV.b x26.1))]
 def zf7:=x1.1=x28.2.2.2.2.1.1/\x1.2.1=x28.2.2.2.2.1.2.1/\x1.2.2=x28.2.2.2.2.1.2.2/\x31
 def j7i:=zz7 x26/\∀(i0 i1 i2:Nat),(∃i3,((z11 x1 x3 x6 x7 i3)/\GV.ok x26.1 i3)/\q3f i3 (Addr.mk i0 i1 none) [int u64 (GV.n x26.1),string (GV.s x26.1),slice (GV.x x26.1).1 (zaw x26) (zax x26),slice (GV.y x26.1).1 (zay x26) (zaz x26),int i64 (GV.b x26.1)])->∃(i4:AvB),z90 i4 ((GV.x i4.1).1=some (Addr.mk i0 (i1+nat_lit 0) none)/\(GV.x i4.1).2.1=nat_lit 1/\(GV.x i4.1).2.2=nat_lit 1/\zf8 i4 (GV.b i4.1=z0h x27 x2 (↑x8:Int)/\i4.2.1=true/\zf7 x7 x28 (i4.2.2=x26.2.2/\zav x4 x3 x5 x2 x6 i4/\(∀i5,(((z11 x1 x3 x6 x7 i5)/\GV.ok x26.1 i5)/\∀(i6:Nat) (i7:Value),[int u64 (GV.n x26.1),string (GV.s x26.1),slice (GV.x x26.1).1 (zaw x26) (zax x26),slice (GV.y x26.1).1 (zay x26) (zaz x26),int i64 (GV.b x26.1)][i6]? =some i7->q67 i5 (Addr.add (Addr.mk i0 i1 none) i6)=some i7)->GV.ok i4.1 i5)/\True)))
 def j79:=(x26.2.1=true->j7i x1 x2 x3 x4 x5 x6 x7 x8 x26 x27 x28)/\(x26.2.1=false->∃(i8:AvB),z90 i8 (zku i8 (i8.2.1=true/\zf7 x7 x28 (i8.2.2=x26.2.2/\zav x4 x3 x5 x2 x6 i8/\(∀i9,(z11 x1 x3 x6 x7 i9)/\GV.ok x26.1 i9->GV.ok i8.1 i9)/\True))))
 def zz8:=(0<=z0h x6 x2 (↑x8:Int)/\z0h x6 x2 (↑x8:Int)<(↑x8:Int))/\x11≠noA/\∃(i0:Int),(∀i1,z11 x1 x3 x27 x7 i1->q3f i1 (adr x11 (toNat (z0h x6 x2 (↑x8:Int))*1)) [int i64 i0])/\zqm x4/\∃(i2:AvS),zqj x1 i0 x4 x7 i2 (i2.2.2.2.2.2.2=z09 x6 x2/\zqi x10 i2/\(∀i3,z11 x1 x3 x27 x7 i3->zql i2 i3)/\∀(i4:AvB),z0i i2.1 i2.2.2.1 i2.2.2.2.1 i2.2.2.2.2.2.1 i2.2.2.2.2.2.2 i4.1 i4.2.1 i4.2.2->(∃i5,(z11 x1 x3 x27 x7 i5)/\GV.ok i4.1 i5)->j79 x1 x2 x3 x5 x4 x27 x7 x8 i4 x6 i2)
 def zkv:=x2=x2/\x13=x13/\x11=x11/\x8=x8/\x10=x10/\x4=x4/\x14=x14/\x12=x12/\x15=x15/\x0=x0/\x20=x20/\x5=x5/\x18=x18/\x16=x16/\x19=x19/\x22=x22/\x23=x23/\x24=x24/\(∀i0,z11 x1 x3 x6 x7 i0->z11 x1 x3 x6 x7 i0)/\x31
 def j7g:=length (z00 GV.cells x29.2.2)=length x29.2.2*5/\(length x29.2.2+nat_lit 1)*80<=140737488355328/\Jb ((↑x29.1:Int)+1)/\∃(i0:Nat×Int×List GV),x2=x2/\(↑i0.1:Int)=(↑x29.1:Int)+1/\zf7 x1 x28 (i0.2.1=x26.2.2/\length i0.2.2=length x29.2.2+nat_lit 1/\z1c x7 (x4=x4/\x13=x13/\x11=x11/\x8=x8/\x10=x10/\x5=x5/\x14=x14/\x12=x12/\x15=x15/\x0=x0/\x20=x20/\x9=x9/\x18=x18/\x16=x16/\x19=x19/\x22=x22/\x23=x23/\x24=x24/\z00 GV.cells i0.2.2=z00 GV.cells x29.2.2++[int u64 (GV.n x26.1),string (GV.s x26.1),slice (GV.x x26.1).1 (zaw x26) (zax x26),slice (GV.y x26.1).1 (zay x26) (zaz x26),int i64 (GV.b x26.1)]/\(∀i1,((z11 x7 x3 x6 x1 i1)/\GV.oks x29.2.2 i1)/\GV.ok x26.1 i1->z11 x7 x3 x6 x1 i1)/\(∀i2,((z11 x7 x3 x6 x1 i2)/\GV.oks x29.2.2 i2)/\GV.ok x26.1 i2->GV.oks i0.2.2 i2)/\reI x3 (atS x3 x17) x6 x2 x21 i0.1 i0.2.1 (GV.pvs i0.2.2)/\length (AT.fs (atS x3 x17))- i0.1<length (AT.fs (atS x3 x17))- x29.1/\True))
 def zz9:=(0<=(↑x29.1:Int)/\(↑x29.1:Int)<(↑x8:Int))/\x11≠noA/\∃(i0:Int),(∀i1,(z11 x1 x3 x6 x7 i1)/\GV.oks x29.2.2 i1->q3f i1 (Addr.add (adr x11 (toNat (↑x29.1:Int)*9)) 2) [int i64 i0])/\zqm x2/\∃(i2:AvS),zqj x1 i0 x2 x7 i2 (i2.2.2.2.2.2.2=x29.2.1/\zqi x10 i2/\(∀i3,(z11 x1 x3 x6 x7 i3)/\GV.oks x29.2.2 i3->zql i2 i3)/\∀(i4:AvB),z0i i2.1 i2.2.2.1 i2.2.2.2.1 i2.2.2.2.2.2.1 i2.2.2.2.2.2.2 i4.1 i4.2.1 i4.2.2->(∃i5,((z11 x1 x3 x6 x7 i5)/\GV.oks x29.2.2 i5)/\GV.ok i4.1 i5)->j7g x0 x7 x2 x3 x4 x5 x6 x1 x12 x9 x15 x14 x16 x13 x18 x19 x8 x17 x11 x23 x20 x21 x22 x24 x25 i4 i2 x29)
 def j7d:=(zz9 x0 x1 x2 x3 x4 x5 x6 x7 x8 x9 x10 x11 x12 x13 x14 x15 x16 x17 x18 x19 x20 x21 x22 x23 x24 x25 x29)/\zz9 x0 x1 x2 x3 x4 x5 x6 x7 x8 x9 x10 x11 x12 x13 x14 x15 x16 x17 x18 x19 x20 x21 x22 x23 x24 x25 x29
 def j7b:=Ji ((↑x29.1:Int)<(↑x8:Int)) (j7d x0 x1 x2 x3 x4 x5 x6 x7 x8 x9 x10 x11 x12 x13 x14 x15 x16 x17 x18 x19 x20 x21 x22 x23 x24 x25 x29) (∀(i18 i19 i20:Nat) (i21:Option Addr) (i22 i23:Nat),(∃i24,((z11 x1 x3 x6 x7 i24)/\GV.oks x29.2.2 i24)/\length x29.2.2<=i23/\qhc i24 i21 (take (length x29.2.2*nat_lit 5) (z00 GV.cells x29.2.2)))->∃(i25:AvB),z90 i25 ((GV.x i25.1).1=i21/\(GV.x i25.1).2.1=length x29.2.2/\(GV.x i25.1).2.2=i23/\zf8 i25 (GV.b i25.1=0/\i25.2.1=true/\z1c x7 (i25.2.2=x29.2.1/\zav x17 x3 x2 x21 x6 i25/\(∀i26,((z11 x1 x3 x6 x7 i26)/\GV.oks x29.2.2 i26)/\length x29.2.2<=i23/\qhc i26 i21 (take (length x29.2.2*nat_lit 5) (z00 GV.cells x29.2.2))->GV.ok i25.1 i26)/\True))))
 def j7a:=(∃(i0:Nat×Int×List GV),x2=x2/\(↑i0.1:Int)=0/\z1c x1 (i0.2.1=x4/\length i0.2.2=0/\z1c x7 (zkv x0 x7 x5 x3 x9 x17 x6 x1 x8 x10 x11 x12 x13 x14 x15 x16 x18 x19 x20 x22 x23 x24 ((∀i2,z11 x7 x3 x6 x1 i2->GV.oks i0.2.2 i2)/\reI x3 (atS x3 x21) x6 x2 x4 i0.1 i0.2.1 (GV.pvs i0.2.2)/\True))))/\∀(i3:Nat×Int×List GV),reI x3 (atS x3 x21) x6 x2 x4 i3.1 i3.2.1 (GV.pvs i3.2.2)->(∃i4,(z11 x7 x3 x6 x1 i4)/\GV.oks i3.2.2 i4)->j7b x0 x7 x2 x3 x5 x9 x6 x1 x16 x17 x25 x18 x8 x13 x11 x10 x12 x21 x14 x15 x20 x4 x22 x19 x23 x24 i3
 def zb0:=((z11 x1 x3 x6 x7 x32)/\GV.oks x30.2.2 x32)/\GV.ok x26.1 x32
 def zkx:=length x30.2.2<=x8/\qhc x32 x11 (take (length x30.2.2*nat_lit 5) (z00 GV.cells x30.2.2))
 def zzb:=(GV.x x26.1).1=x11/\(GV.x x26.1).2.1=length x30.2.2/\(GV.x x26.1).2.2=x8/\x31
 def j7j:=length (z00 GV.cells x30.2.2)=length x30.2.2*5/\(length x30.2.2+nat_lit 1)*80<=140737488355328/\Jb (x30.1- 1)/\∃(i0:Int×Int×List GV),x2=x2/\i0.1=x30.1- 1/\zf7 x1 x28 (i0.2.1=x26.2.2/\length i0.2.2=length x30.2.2+nat_lit 1/\z1c x7 (x4=x4/\x13=x13/\x11=x11/\x8=x8/\x10=x10/\x5=x5/\x14=x14/\x12=x12/\x15=x15/\x0=x0/\x20=x20/\x9=x9/\x18=x18/\x16=x16/\x19=x19/\x22=x22/\x23=x23/\x24=x24/\z00 GV.cells i0.2.2=z00 GV.cells x30.2.2++[int u64 (GV.n x26.1),string (GV.s x26.1),slice (GV.x x26.1).1 (zaw x26) (zax x26),slice (GV.y x26.1).1 (zay x26) (zaz x26),int i64 (GV.b x26.1)]/\(∀i1,zb0 x7 x3 x6 x1 x26 x30 i1->z11 x7 x3 x6 x1 i1)/\(∀i2,zb0 x7 x3 x6 x1 x26 x30 i2->GV.oks i0.2.2 i2)/\arI x3 (atS x3 x17) x6 x2 x21 i0.1 i0.2.1 (GV.pvs i0.2.2)/\toNat i0.1<toNat x30.1/\True))
 def j7h:=Ji (x2=12) (j7j x0 x1 x4 x3 x2 x5 x6 x7 x8 x9 x10 x11 x12 x13 x14 x15 x16 x17 x18 x19 x20 x21 x22 x23 x24 x26 x28 x30) (∃(i3:List Int),(5:Int)=5/\x28.2.2.2.2.1.1=x28.2.2.2.2.1.1/\x28.2.2.2.2.1.2.1=x28.2.2.2.2.1.2.1/\x28.2.2.2.2.1.2.2=x28.2.2.2.2.1.2.2/\x26.2.2=x26.2.2/\(0<=x26.2.2/\x26.2.2<=(↑(length i3):Int)/\(0:Int)<5/\(5:Int)<1000000/\z0g i3)/\(∀i4,zb0 x7 x3 x6 x1 x26 x30 i4->slP byV (x28.2.2.2.2.1.1,x28.2.2.2.2.1.2.1,x28.2.2.2.2.1.2.2) i3 i4)/\((-9223372036854775808:Int)<=97+z0h i3 x26.2.2 5/\(97:Int)+z0h i3 x26.2.2 (5:Int)<=9223372036854775807)/\∃i5,size i5=1/\qh1 [int u8 (IntKind.wrap u8 ((97:Int)+z0h i3 x26.2.2 5))] 0 (q19 i5)/\size (mkS [107])+size i5<=9223372036854775807/\AV.agg [AV.int u64 0,AV.str [],AV.ssl (nat_lit 40) (nat_lit 0) (length x30.2.2) (nat_lit 5) (nat_lit 41),AV.nsl,AV.int i64 0]=AV.agg [AV.int u64 0,AV.str [],AV.ssl (nat_lit 40) (nat_lit 0) (length x30.2.2) (nat_lit 5) (nat_lit 41),AV.nsl,AV.int i64 0]/\zz7 x26/\∃(i6:GV×ByteArray×GV),GV.n i6.1=0/\GV.s i6.1=mkS []/\False)
 def j7f:=((!x26.2.1)=true->∀(i0 i1 i2:Nat) (i3:Option Addr) (i4 i5:Nat),(∃i6,(zb0 x1 x3 x6 x7 x26 x30 i6)/\zkx i5 i3 x30 i6)->∃(i7:AvB),z90 i7 (zzb i5 i3 i7 x30 (zf8 i7 (GV.b i7.1=0/\i7.2.1=true/\zf7 x7 x28 (i7.2.2=x26.2.2/\zav x2 x3 x4 x5 x6 i7/\(∀i8,(zb0 x1 x3 x6 x7 x26 x30 i8)/\zkx i5 i3 x30 i8->GV.ok i7.1 i8)/\True)))))/\((!x26.2.1)=false->j7h x0 x7 x9 x3 x4 x17 x6 x1 x8 x21 x10 x11 x12 x13 x14 x15 x16 x2 x18 x19 x20 x5 x22 x23 x24 x26 x28 x30)
 def j7e:=zqm x2/\∃(i0:AvS),zqj x1 x4 x2 x7 i0 (i0.2.2.2.2.2.2=x30.2.1/\zqi x8 i0/\(∀i1,(z11 x1 x3 x6 x7 i1)/\GV.oks x30.2.2 i1->zql i0 i1)/\∀(i2:AvB),z0i i0.1 i0.2.2.1 i0.2.2.2.1 i0.2.2.2.2.2.1 i0.2.2.2.2.2.2 i2.1 i2.2.1 i2.2.2->(∃i3,zb0 x1 x3 x6 x7 i2 x30 i3)->j7f x0 x1 x5 x3 x2 x9 x6 x7 x10 x17 x12 x11 x15 x13 x14 x16 x19 x4 x18 x23 x20 x21 x22 x24 x25 i2 i0 x30)
 def j7c:=Ji (0<x30.1) (j7e x0 x1 x2 x3 x4 x5 x6 x7 x8 x9 x10 x11 x12 x13 x14 x15 x16 x17 x18 x19 x20 x21 x22 x23 x24 x25 x30) (∀(i20 i21 i22:Nat) (i23:Option Addr) (i24 i25:Nat),(∃i26,((z11 x1 x3 x6 x7 i26)/\GV.oks x30.2.2 i26)/\zkx i25 i23 x30 i26)->∃(i27:AvB),z90 i27 (zzb i25 i23 i27 x30 (zf8 i27 (GV.b i27.1=0/\i27.2.1=true/\z1c x7 (i27.2.2=x30.2.1/\zav x5 x3 x2 x9 x6 i27/\(∀i28,((z11 x1 x3 x6 x7 i28)/\GV.oks x30.2.2 i28)/\zkx i25 i23 x30 i28->GV.ok i27.1 i28)/\True)))))
 def j78:=(zdo x2=true->∃(i0:List Int),(4:Int)=4/\z1c x1 (zau x7 x4 x3 4 i0 x1 x6 ((∃(i2:Int×Int×List GV),x5=x5/\i2.1=z0h i0 x4 4/\z1c x1 (i2.2.1=z09 i0 x4/\length i2.2.2=0/\z1c x7 (zkv x0 x7 x2 x3 x9 x17 x6 x1 x8 x10 x11 x12 x13 x14 x15 x16 x18 x19 x20 x22 x23 x24 ((∀i4,z11 x7 x3 x6 x1 i4->GV.oks i2.2.2 i4)/\arI x3 (atS x3 x21) x6 x5 x4 i2.1 i2.2.1 (GV.pvs i2.2.2)/\True))))/\∀(i5:Int×Int×List GV),arI x3 (atS x3 x21) x6 x5 x4 i5.1 i5.2.1 (GV.pvs i5.2.2)->(∃i6,(z11 x7 x3 x6 x1 i6)/\GV.oks i5.2.2 i6)->j7c x0 x7 x5 x3 x9 x21 x6 x1 x25 x4 x8 x11 x10 x13 x14 x12 x15 x2 x18 x16 x20 x17 x22 x19 x23 x24 i5)))/\(zdo x2=false->∃(i36:AvB),z90 i36 (zku i36 (i36.2.1=true/\z1c x1 (i36.2.2=x4/\zqn x7 x21 x3 x5 x4 x6 x1 i36))))
 def j77:=(Ji (x2=12) (∃(i0:Unit),x4=x4/\zdo x2=decide (x2=12)/\x2=x2/\z1c x1 (x5=x5/\z1c x7 (zkv x0 x7 x2 x3 x9 x17 x6 x1 x8 x10 x11 x12 x13 x14 x15 x16 x18 x19 x20 x22 x23 x24 (True/\True)))) (∃(i2:Unit),x4=x4/\zdo x2=decide (x2=13)/\x2=x2/\z1c x1 (x5=x5/\z1c x7 (zkv x0 x7 x2 x3 x9 x17 x6 x1 x8 x10 x11 x12 x13 x14 x15 x16 x18 x19 x20 x22 x23 x24 (True/\True)))))/\∀(i4:Unit),True->j78 x0 x1 x2 x3 x5 x4 x6 x7 x8 x9 x10 x11 x12 x13 x14 x15 x16 x17 x18 x19 x20 x21 x22 x23 x24 x25
 def j76:=Ji (x2=9) (j7a x0 x1 x4 x3 x5 x2 x6 x7 x8 x9 x10 x11 x12 x13 x14 x15 x16 x17 x18 x19 x20 x21 x22 x23 x24 x25) (j77 x0 x1 x2 x3 x4 x5 x6 x7 x8 x9 x10 x11 x12 x13 x14 x15 x16 x17 x18 x19 x20 x21 x22 x23 x24 x25)
 def j75:=Ji (x2=14) (∃(i0:List Int),(↑x8:Int)=(↑x8:Int)/\z1c x1 (zza x4 i0 x8 (zkw x7 x3 x6 x1 i0/\(zz8 x7 x4 x3 x5 x9 i0 x1 x8 x10 x11 x6)/\zz8 x7 x4 x3 x5 x9 i0 x1 x8 x10 x11 x6))) (j76 x0 x1 x2 x3 x5 x4 x6 x7 x12 x17 x15 x14 x16 x13 x18 x19 x23 x21 x22 x24 x20 x9 x11 x8 x25 x10)
 def jli:=Ji (x2=10) (∃(i0:List Int),(↑x8:Int)=(↑x8:Int)/\z1c x1 (zza x4 i0 x8 (zkw x7 x3 x6 x1 i0/\∃(i2:AvB),GV.n i2.1=IntKind.wrap u64 (z0h i0 x4 (↑x8:Int))/\GV.s i2.1=mkS []/\zat x1 x4 x3 x5 x9 i0 x7 i2 x6))) (j75 x0 x1 x2 x3 x4 x9 x6 x7 x10 x5 x12 x11 x15 x13 x14 x16 x8 x17 x18 x19 x20 x21 x22 x23 x24 x25)
 def jlh:=Ji (x2=7) (∃(i0:List Int),(4:Int)=4/\z1c x1 (zau x7 x4 x3 4 i0 x1 x6 ((0<=z0h i0 x4 4/\z0h i0 x4 (4:Int)<(↑(nat_lit 4):Int))/\∃i2,(∀(i3:Nat) (i4:Value),[string i2][i3]? =some i4->[string (mkS []),string (mkS [255]),string (mkS [0]),string (mkS [98])][nat_lit 0+toNat (z0h i0 x4 4)*1+i3]? =some i4)/\∃(i5:AvB),GV.n i5.1=0/\GV.s i5.1=i2/\zat x1 x4 x3 x5 x9 i0 x7 i5 x6))) (jli x0 x1 x2 x3 x4 x5 x6 x7 x8 x9 x10 x11 x12 x13 x14 x15 x16 x17 x18 x19 x20 x21 x22 x23 x24 x25)
 def jlg:=Ji (x2=8) (∃(i0:List Int),(4:Int)=4/\z1c x1 (zau x7 x4 x3 4 i0 x1 x6 ((0<=z0h i0 x4 4/\z0h i0 x4 (4:Int)<(↑(nat_lit 4):Int))/\∃i2,(∀(i3:Nat) (i4:Value),[string i2][i3]? =some i4->[string (mkS []),string (mkS [97]),string (mkS [195,164]),string (mkS [116,101,120,116])][nat_lit 0+toNat (z0h i0 x4 4)*1+i3]? =some i4)/\∃(i5:AvB),GV.n i5.1=0/\GV.s i5.1=i2/\zat x1 x4 x3 x5 x9 i0 x7 i5 x6))) (jlh x0 x1 x2 x3 x4 x5 x6 x7 x8 x9 x10 x11 x12 x13 x14 x15 x16 x17 x18 x19 x20 x21 x22 x23 x24 x25)
 def jlf:=Ji (x2=6) (∃(i0:List Int),(5:Int)=5/\z1c x1 (zau x7 x4 x3 5 i0 x1 x6 ((0<=z0h i0 x4 5/\z0h i0 x4 (5:Int)<(↑(nat_lit 5):Int))/\∃(i2:Int),(∀(i3:Nat) (i4:Value),[int u64 i2][i3]? =some i4->[int u64 0,int u64 4607182418800017408,int u64 1,int u64 9223372036854775808,int u64 9218868437227405312][nat_lit 0+toNat (z0h i0 x4 5)*1+i3]? =some i4)/\∃(i5:AvB),GV.n i5.1=i2/\GV.s i5.1=mkS []/\zat x1 x4 x3 x5 x9 i0 x7 i5 x6))) (jlg x0 x1 x2 x3 x4 x5 x6 x7 x8 x9 x10 x11 x12 x13 x14 x15 x16 x17 x18 x19 x20 x21 x22 x23 x24 x25)
 def jle:=zqh x1 x2 x3 x4 x5 x6 x7 x9 5 1065353216 2139095040 1 3212836864 2143289345 2147483648/\(Jf (x2=5)->jlf x0 x1 x2 x3 x4 x5 x6 x7 x8 x9 x10 x11 x12 x13 x14 x15 x16 x17 x18 x19 x20 x21 x22 x23 x24 x25)
 def jld:=zqh x1 x2 x3 x4 x5 x6 x7 x9 4 1 18446744073709551615 1099511627776 9223372036854775807 9223372036854775808 9007199254740993/\(Jf (x2=4)->jle x0 x1 x2 x3 x4 x5 x6 x7 x8 x9 x10 x11 x12 x13 x14 x15 x16 x17 x18 x19 x20 x21 x22 x23 x24 x25)
 def jlc:=zqh x1 x2 x3 x4 x5 x6 x7 x9 3 1 18446744073709551615 300 2147483647 18446744071562067968 16777217/\(Jf (x2=3)->jld x0 x1 x2 x3 x4 x5 x6 x7 x8 x9 x10 x11 x12 x13 x14 x15 x16 x17 x18 x19 x20 x21 x22 x23 x24 x25)
 def jlb:=(0<=x2/\x2<(↑x1.2.1:Int))/\x1.1≠noA/\∃(i0:Int),∃i1,∃i2,∃(i3:Nat),∃(i4:Nat),∃(i5:Int),∃i6,∃(i7:Nat),∃(i8:Nat),∃(i9:Bool),∃i10,∃(i11:Int),∃i12,∃(i13:Nat),∃(i14:Nat),∃i15,∃(i16:Nat),∃(i17:Nat),(∀i18,z11 x1 x3 x6 x7 i18->q3f i18 (adr x1.1 (toNat x2*10)) [int i64 i0,string i1,slice i2 i3 i4,int i64 i5,slice i6 i7 i8,bool i9,string i10,int i64 i11,slice i12 i13 i14,slice i15 i16 i17])/\Ji (i0=2) (∃(i19:List Int),(2:Int)=2/\z1c x7 (zau x1 x4 x3 2 i19 x7 x6 (∃(i21:AvB),GV.n i21.1=IntKind.wrap u64 (z0h i19 x4 2)/\GV.s i21.1=mkS []/\zat x7 x4 x3 x2 x5 i19 x1 i21 x6))) (jlc i9 x7 i0 x3 x4 x2 x6 x1 i7 x5 i16 i15 x8 i1 i2 i3 i4 i5 i6 i8 i10 i11 i12 i13 i14 i17)
 def jla:=Ji (5<x2) (zqk x0 x1 x4 x3 x5 x2 x6 x7) (∃(i2:List Int),z1c x1 (x4=x4/\True/\zkw x7 x3 x6 x1 i2/\Ji ((↑(length i2):Int)<=x4) (zqk x0 x1 x4 x3 x5 x2 x6 x7) (jlb x7 x5 x3 x4 x2 x6 x1 x8)))
 def jl9:=((!x0)=true->zqk x0 x1 x2 x3 x4 x5 x6 x7)/\((!x0)=false->jla x0 x1 x5 x3 x2 x4 x6 x7 x8)
end
def zfm(c:Nat) (S:List AT) (x:SV) (t d:Int) (y:SV) (L:List Int) (n:Int):qkj P (qfv [(37,zrc),(36,zg4)]) (qgy [(14,(z3r zff).below z9s c),(35,zg1),(38,zsq)]) Try.f14 ((z3r j8v).below z9s (c+1)) (znx true) ⟨S,x,t,d,y,L,n⟩=(z9s (S,x,t,d,y,L,n)<c+1/\z0a S/\(0<=t/\t<(↑(length S):Int))/\j8v (atS S t)/\(0<=d/\d<=6)/\0<=n/\n<=(↑(length L):Int)/\z0g L->(∃(p:Pub),True/\z05 S x p/\slP byV y L p)->∃(s:List AT×(Option Addr×Nat×Nat)×Int),s.2.1.1=x.1/\s.2.1.2.1=x.2.1/\s.2.1.2.2=x.2.2/\s.2.2=t/\(z0a s.1/\AT.k (atS s.1 s.2.2)=12)/\(∀(p:Pub),True/\z05 S x p/\slP byV y L p->z05 s.1 s.2.1 p)/\∀(b:Bool),b=lsB s.1 s.2.2->(∃(p:Pub),z11 x S L y p)->jl9 b y n S t d L x c):=by kernel_rfl
def zlj:=λc S x t d y L n=>Eq.trans (zfm c S x t d y L n) (by delta Ji Jb Jt Jf z11 z90 zf8 zku z1c zav zqn zqk zkw zau zat zqh zza zqm zqj zqi zql zaw zax zay zaz zz7 zf7 j7i j79 zz8 zkv j7g zz9 j7d j7b j7a zb0 zkx zzb j7j j7h j7f j7e j7c j78 j77 j76 j75 jli jlh jlg jlf jle jld jlc jlb jla jl9;exact rfl)
section
variable (x0:GV×Bool) (x1:SV) (x2:Int) (x3:List AT) (x4 x5:Int) (x6:List Int) (x7:SV) (x8:Nat) (x9:Int) (x10:Nat) (x11:Option Addr) (x12:Nat) (x13:ByteArray) (x14:Option Addr) (x15 x16:Nat) (x17:Int) (x18:Option Addr) (x19:Nat) (x20:Bool) (x21:ByteArray) (x22:Int) (x23:Option Addr) (x24 x25 x26:Nat) (x27:AvB) (x28:List Int) (x29:AvS) (x30:Int×Int×GV) (x31:Nat×Int×List GV) (x32:Prop) (x33 x34 x35 x36 x37:Int) (x38:Nat->Option Obj) (x39:GV)
 abbrev z10:=(True/\z05 x3 x1 x38/\slP byV x7 x6 x38)/\GV.ok x0.1 x38
 def zfa:=GV.n x27.1=GV.n x0.1/\GV.s x27.1=GV.s x0.1/\x32
 def zqs:=(GV.y x27.1).1=(GV.y x0.1).1/\(GV.y x27.1).2.1=(GV.y x0.1).2.1/\(GV.y x27.1).2.2=(GV.y x0.1).2.2/\x32
 def zky:=(GV.x x27.1).1=(GV.x x0.1).1/\(GV.x x27.1).2.1=(GV.x x0.1).2.1/\(GV.x x27.1).2.2=(GV.x x0.1).2.2/\zqs x0 x27 (GV.b x27.1=GV.b x0.1/\x32)
 def z1d:=x1.1=x1.1/\x1.2.1=x1.2.1/\x1.2.2=x1.2.2/\x32
 abbrev z7x:=z0i x3 x2 x4 x6 x5 x27.1 x27.2.1 x27.2.2
 def zqr:=∃(i0:AvB),zfa x0 i0 (zky x0 i0 (i0.2.1=x0.2/\z1d x1 (i0.2.2=x2/\z7x x4 x3 x5 x2 x6 i0/\(∀i1,z10 x0 x7 x3 x6 x1 i1->GV.ok i0.1 i1)/\True)))
 def zl1:=(∀i0,z10 x0 x1 x3 x6 x7 i0->slP byV (x7.1,x7.2.1,x7.2.2) x28 i0)
 def zb2:=x2=x2/\(0<=x2/\x2<=(↑(length x6):Int)/\0<x4/\x4<1000000/\z0g x6)/\zl1 x0 x1 x3 x28 x7 x6/\x32
 def zb1:=zky x0 x27 (x27.2.1=true/\z1d x1 (x27.2.2=z09 x6 x2/\z7x x4 x3 x5 x2 x28 x27/\(∀i0,z10 x0 x7 x3 x28 x1 i0->GV.ok x27.1 i0)/\True))
 def zqo:=(Jt (x2=x17)->∃(i0:List Int),(7:Int)=7/\z1d x1 (zb2 x0 x7 x4 x3 7 i0 x1 x6 ((0<=z0h i0 x4 7/\z0h i0 x4 (7:Int)<(↑(nat_lit 7):Int))/\∃(i2:Int),(∀(i3:Nat) (i4:Value),[int u64 i2][i3]? =some i4->[int u64 0,int u64 x22,int u64 x33,int u64 x34,int u64 x35,int u64 x36,int u64 x37][nat_lit 0+toNat (z0h i0 x4 7)*1+i3]? =some i4)/\∃(i5:AvB),GV.n i5.1=i2/\GV.s i5.1=GV.s x0.1/\zb1 x0 x1 x4 x3 x5 x9 i0 x7 i5 x6)))
 def zzl:=x2=x2/\(0<=x2/\x2<=(↑(length x6):Int)/\0<(↑x8:Int)/\(↑x8:Int)<1000000/\z0g x6)/\x32
 abbrev zqu:=Jb (x2+1)
 def zqq:=x29.2.1.1=x1.1/\x29.2.1.2.1=x1.2.1/\x29.2.1.2.2=x1.2.2/\x29.2.2.1=x2/\x29.2.2.2.1=x4+1/\x29.2.2.2.2.1.1=x7.1/\x29.2.2.2.2.1.2.1=x7.2.1/\x29.2.2.2.2.1.2.2=x7.2.2/\x32
 def zqp:=(z9s x29<x8/\z0a x29.1/\(0<=x29.2.2.1/\x29.2.2.1<(↑(length x29.1):Int))/\zff (atS x29.1 x29.2.2.1)/\(0<=x29.2.2.2.1/\x29.2.2.2.1<=6)/\0<=x29.2.2.2.2.2.2/\x29.2.2.2.2.2.2<=(↑(length x29.2.2.2.2.2.1):Int)/\z0g x29.2.2.2.2.2.1)
 def zqt:=z05 x29.1 x29.2.1 x38/\slP byV x29.2.2.2.2.1 x29.2.2.2.2.2.1 x38
 abbrev zzj:=slice (GV.x x27.1).1 (GV.x x27.1).2.1 (GV.x x27.1).2.2
 abbrev zzk:=slice (GV.y x27.1).1 (GV.y x27.1).2.1 (GV.y x27.1).2.2
 def zzc:=AV.agg [AV.sv (int u64 (GV.n x27.1)),AV.sv (string (GV.s x27.1)),AV.sv (zzj x27),AV.sv (zzk x27),AV.sv (int i64 (GV.b x27.1))]=AV.agg [AV.sv (int u64 (GV.n x27.1)),AV.sv (string (GV.s x27.1)),AV.sv (zzj x27),AV.sv (zzk x27),AV.sv (int i64 (GV.b x27.1))]
 def zf9:=x1.1=x29.2.2.2.2.1.1/\x1.2.1=x29.2.2.2.2.1.2.1/\x1.2.2=x29.2.2.2.2.1.2.2/\x32
 def j7x:=zzc x27/\∀(i0 i1 i2:Nat),(∃i3,((z10 x0 x1 x3 x6 x7 i3)/\GV.ok x27.1 i3)/\q3f i3 (Addr.mk i0 i1 none) [int u64 (GV.n x27.1),string (GV.s x27.1),slice (GV.x x27.1).1 (GV.x x27.1).2.1 (GV.x x27.1).2.2,slice (GV.y x27.1).1 (GV.y x27.1).2.1 (GV.y x27.1).2.2,int i64 (GV.b x27.1)])->∃(i4:AvB),zfa x0 i4 ((GV.x i4.1).1=some (Addr.mk i0 (i1+nat_lit 0) none)/\(GV.x i4.1).2.1=nat_lit 1/\(GV.x i4.1).2.2=nat_lit 1/\zqs x0 i4 (GV.b i4.1=z0h x28 x2 (↑x8:Int)/\i4.2.1=true/\zf9 x7 x29 (i4.2.2=x27.2.2/\z7x x4 x3 x5 x2 x6 i4/\(∀i5,(((z10 x0 x1 x3 x6 x7 i5)/\GV.ok x27.1 i5)/\∀(i6:Nat) (i7:Value),[int u64 (GV.n x27.1),string (GV.s x27.1),slice (GV.x x27.1).1 (GV.x x27.1).2.1 (GV.x x27.1).2.2,slice (GV.y x27.1).1 (GV.y x27.1).2.1 (GV.y x27.1).2.2,int i64 (GV.b x27.1)][i6]? =some i7->q67 i5 (Addr.add (Addr.mk i0 i1 none) i6)=some i7)->GV.ok i4.1 i5)/\True)))
 def j7p:=(x27.2.1=true->j7x x0 x1 x2 x3 x4 x5 x6 x7 x8 x27 x28 x29)/\(x27.2.1=false->∃(i8:AvB),zfa x0 i8 (zky x0 i8 (i8.2.1=true/\zf9 x7 x29 (i8.2.2=x27.2.2/\z7x x4 x3 x5 x2 x6 i8/\(∀i9,(z10 x0 x1 x3 x6 x7 i9)/\GV.ok x27.1 i9->GV.ok i8.1 i9)/\True))))
 def zzd:=(0<=z0h x6 x2 (↑x8:Int)/\z0h x6 x2 (↑x8:Int)<(↑x8:Int))/\x11≠noA/\∃(i0:Int),(∀i1,z10 x0 x1 x3 x28 x7 i1->q3f i1 (adr x11 (toNat (z0h x6 x2 (↑x8:Int))*1)) [int i64 i0])/\zqu x4/\∃(i2:AvS),zqq x1 i0 x4 x7 i2 (i2.2.2.2.2.2.2=z09 x6 x2/\zqp x10 i2/\(∀i3,z10 x0 x1 x3 x28 x7 i3->zqt i2 i3)/\∀(i4:AvB),z0i i2.1 i2.2.2.1 i2.2.2.2.1 i2.2.2.2.2.2.1 i2.2.2.2.2.2.2 i4.1 i4.2.1 i4.2.2->(∃i5,(z10 x0 x1 x3 x28 x7 i5)/\GV.ok i4.1 i5)->j7p x0 x1 x2 x3 x5 x4 x28 x7 x8 i4 x6 i2)
 def zkz:=(GV.y x0.1).1=(GV.y x0.1).1/\(GV.y x0.1).2.1=(GV.y x0.1).2.1/\(GV.y x0.1).2.2=(GV.y x0.1).2.2/\GV.b x0.1=GV.b x0.1/\x32
 def zl0:=x2=x2/\x13=x13/\x11=x11/\x8=x8/\x10=x10/\x4=x4/\x14=x14/\x12=x12/\x15=x15/\x20=x20/\x21=x21/\x5=x5/\x18=x18/\x16=x16/\x19=x19/\x23=x23/\x24=x24/\x25=x25/\(∀i0,z10 x0 x1 x3 x6 x7 i0->z10 x0 x1 x3 x6 x7 i0)/\x32
 def j7v:=length (z00 GV.cells x31.2.2)=length x31.2.2*5/\(length x31.2.2+nat_lit 1)*80<=140737488355328/\Jb ((↑x31.1:Int)+1)/\∃(i0:Nat×Int×List GV),x2=x2/\(↑i0.1:Int)=(↑x31.1:Int)+1/\zf9 x1 x29 (i0.2.1=x27.2.2/\GV.n x0.1=GV.n x0.1/\GV.s x0.1=GV.s x0.1/\length i0.2.2=length x31.2.2+nat_lit 1/\zkz x0 (z1d x7 (x4=x4/\x13=x13/\x11=x11/\x8=x8/\x10=x10/\x5=x5/\x14=x14/\x12=x12/\x15=x15/\x20=x20/\x21=x21/\x9=x9/\x18=x18/\x16=x16/\x19=x19/\x23=x23/\x24=x24/\x25=x25/\z00 GV.cells i0.2.2=z00 GV.cells x31.2.2++[int u64 (GV.n x27.1),string (GV.s x27.1),slice (GV.x x27.1).1 (GV.x x27.1).2.1 (GV.x x27.1).2.2,slice (GV.y x27.1).1 (GV.y x27.1).2.1 (GV.y x27.1).2.2,int i64 (GV.b x27.1)]/\(∀i1,((z10 x0 x7 x3 x6 x1 i1)/\GV.oks x31.2.2 i1)/\GV.ok x27.1 i1->z10 x0 x7 x3 x6 x1 i1)/\(∀i2,((z10 x0 x7 x3 x6 x1 i2)/\GV.oks x31.2.2 i2)/\GV.ok x27.1 i2->GV.oks i0.2.2 i2)/\reI x3 (atS x3 x17) x6 x2 x22 i0.1 i0.2.1 (GV.pvs i0.2.2)/\length (AT.fs (atS x3 x17))- i0.1<length (AT.fs (atS x3 x17))- x31.1/\True)))
 def zze:=(0<=(↑x31.1:Int)/\(↑x31.1:Int)<(↑x8:Int))/\x11≠noA/\∃(i0:Int),(∀i1,(z10 x0 x1 x3 x6 x7 i1)/\GV.oks x31.2.2 i1->q3f i1 (Addr.add (adr x11 (toNat (↑x31.1:Int)*9)) 2) [int i64 i0])/\zqu x2/\∃(i2:AvS),zqq x1 i0 x2 x7 i2 (i2.2.2.2.2.2.2=x31.2.1/\zqp x10 i2/\(∀i3,(z10 x0 x1 x3 x6 x7 i3)/\GV.oks x31.2.2 i3->zqt i2 i3)/\∀(i4:AvB),z0i i2.1 i2.2.2.1 i2.2.2.2.1 i2.2.2.2.2.2.1 i2.2.2.2.2.2.2 i4.1 i4.2.1 i4.2.2->(∃i5,((z10 x0 x1 x3 x6 x7 i5)/\GV.oks x31.2.2 i5)/\GV.ok i4.1 i5)->j7v x0 x7 x2 x3 x4 x5 x6 x1 x12 x9 x15 x14 x16 x13 x18 x19 x8 x17 x11 x24 x20 x21 x22 x23 x25 x26 i4 i2 x31)
 def j7t:=(zze x0 x1 x2 x3 x4 x5 x6 x7 x8 x9 x10 x11 x12 x13 x14 x15 x16 x17 x18 x19 x20 x21 x22 x23 x24 x25 x26 x31)/\zze x0 x1 x2 x3 x4 x5 x6 x7 x8 x9 x10 x11 x12 x13 x14 x15 x16 x17 x18 x19 x20 x21 x22 x23 x24 x25 x26 x31
 def j7r:=Ji ((↑x31.1:Int)<(↑x8:Int)) (j7t x0 x1 x2 x3 x4 x5 x6 x7 x8 x9 x10 x11 x12 x13 x14 x15 x16 x17 x18 x19 x20 x21 x22 x23 x24 x25 x26 x31) (∀(i18 i19 i20:Nat) (i21:Option Addr) (i22 i23:Nat),(∃i24,((z10 x0 x1 x3 x6 x7 i24)/\GV.oks x31.2.2 i24)/\length x31.2.2<=i23/\qhc i24 i21 (take (length x31.2.2*nat_lit 5) (z00 GV.cells x31.2.2)))->∃(i25:AvB),zfa x0 i25 ((GV.x i25.1).1=i21/\(GV.x i25.1).2.1=length x31.2.2/\(GV.x i25.1).2.2=i23/\zqs x0 i25 (GV.b i25.1=GV.b x0.1/\i25.2.1=true/\z1d x7 (i25.2.2=x31.2.1/\z7x x17 x3 x2 x22 x6 i25/\(∀i26,((z10 x0 x1 x3 x6 x7 i26)/\GV.oks x31.2.2 i26)/\length x31.2.2<=i23/\qhc i26 i21 (take (length x31.2.2*nat_lit 5) (z00 GV.cells x31.2.2))->GV.ok i25.1 i26)/\True))))
 def j7o:=(∃(i0:Nat×Int×List GV),x2=x2/\(↑i0.1:Int)=0/\z1d x1 (i0.2.1=x4/\GV.n x0.1=GV.n x0.1/\GV.s x0.1=GV.s x0.1/\length i0.2.2=0/\zkz x0 (z1d x7 (zl0 x0 x7 x5 x3 x9 x17 x6 x1 x8 x10 x11 x12 x13 x14 x15 x16 x18 x19 x20 x21 x23 x24 x25 ((∀i2,z10 x0 x7 x3 x6 x1 i2->GV.oks i0.2.2 i2)/\reI x3 (atS x3 x22) x6 x2 x4 i0.1 i0.2.1 (GV.pvs i0.2.2)/\True)))))/\∀(i3:Nat×Int×List GV),reI x3 (atS x3 x22) x6 x2 x4 i3.1 i3.2.1 (GV.pvs i3.2.2)->(∃i4,(z10 x0 x7 x3 x6 x1 i4)/\GV.oks i3.2.2 i4)->j7r x0 x7 x2 x3 x5 x9 x6 x1 x16 x17 x26 x18 x8 x13 x11 x10 x12 x22 x14 x15 x20 x21 x4 x23 x19 x24 x25 i3
 def zzg:=GV.n x0.1=GV.n x0.1/\GV.s x0.1=GV.s x0.1/\(GV.x x0.1).1=(GV.x x0.1).1/\(GV.x x0.1).2.1=(GV.x x0.1).2.1/\(GV.x x0.1).2.2=(GV.x x0.1).2.2/\x32
 def z91:=((z10 x0 x1 x3 x6 x7 x38)/\GV.ok x30.2.2 x38)/\GV.ok x27.1 x38
 def zzf:=GV.n x27.1=GV.n x30.2.2/\GV.s x27.1=GV.s x30.2.2/\(GV.x x27.1).1=(GV.x x30.2.2).1/\(GV.x x27.1).2.1=(GV.x x30.2.2).2.1/\(GV.x x27.1).2.2=(GV.x x30.2.2).2.2/\(GV.y x27.1).1=(GV.y x30.2.2).1/\(GV.y x27.1).2.1=(GV.y x30.2.2).2.1/\(GV.y x27.1).2.2=(GV.y x30.2.2).2.2/\GV.b x27.1=GV.b x30.2.2/\x27.2.1=true/\x32
 abbrev zzh:=slice (GV.x x30.2.2).1 (GV.x x30.2.2).2.1 (GV.x x30.2.2).2.2
 abbrev zzi:=slice (GV.y x30.2.2).1 (GV.y x30.2.2).2.1 (GV.y x30.2.2).2.2
 def j7y:=Jb (x30.1- 1)/\∃(i0:Int×Int×GV),x2=x2/\i0.1=x30.1- 1/\zf9 x1 x29 (i0.2.1=z09 x6 x27.2.2/\GV.n i0.2.2=GV.n x39/\GV.s i0.2.2=GV.s x39/\(GV.x i0.2.2).1=(GV.x x39).1/\(GV.x i0.2.2).2.1=(GV.x x39).2.1/\(GV.x i0.2.2).2.2=(GV.x x39).2.2/\(GV.y i0.2.2).1=(GV.y x39).1/\(GV.y i0.2.2).2.1=(GV.y x39).2.1/\(GV.y i0.2.2).2.2=(GV.y x39).2.2/\GV.b i0.2.2=GV.b x39/\z1d x7 (x4=x4/\x13=x13/\x11=x11/\x8=x8/\x10=x10/\x5=x5/\x14=x14/\x12=x12/\x15=x15/\x20=x20/\x21=x21/\x9=x9/\x18=x18/\x16=x16/\x19=x19/\x23=x23/\x24=x24/\x25=x25/\(∀i1,(z91 x0 x7 x3 x28 x1 x27 x30 i1)/\GV.ok x39 i1->z10 x0 x7 x3 x28 x1 i1)/\(∀i2,(z91 x0 x7 x3 x28 x1 x27 x30 i2)/\GV.ok x39 i2->GV.ok i0.2.2 i2)/\maI x3 (atS x3 x17) x28 x2 x22 i0.1 i0.2.1 i0.2.2/\toNat i0.1<toNat x30.1/\True))
 def j7w:=Ji (x2=12) (False) (∃(i0:List Int),(5:Int)=5/\x29.2.2.2.2.1.1=x29.2.2.2.2.1.1/\x29.2.2.2.2.1.2.1=x29.2.2.2.2.1.2.1/\x29.2.2.2.2.1.2.2=x29.2.2.2.2.1.2.2/\x27.2.2=x27.2.2/\(0<=x27.2.2/\x27.2.2<=(↑(length i0):Int)/\(0:Int)<5/\(5:Int)<1000000/\z0g i0)/\(∀i1,z91 x0 x1 x3 x6 x7 x27 x30 i1->slP byV (x29.2.2.2.2.1.1,x29.2.2.2.2.1.2.1,x29.2.2.2.2.1.2.2) i0 i1)/\((-9223372036854775808:Int)<=97+z0h i0 x27.2.2 5/\(97:Int)+z0h i0 x27.2.2 (5:Int)<=9223372036854775807)/\∃i2,size i2=1/\qh1 [int u8 (IntKind.wrap u8 ((97:Int)+z0h i0 x27.2.2 5))] 0 (q19 i2)/\size (mkS [107])+size i2<=9223372036854775807/\AV.agg [AV.sv (int u64 (GV.n x30.2.2)),AV.sv (string (GV.s x30.2.2)),AV.sv (zzh x30),AV.sv (zzi x30),AV.sv (int i64 (GV.b x30.2.2))]=AV.agg [AV.sv (int u64 (GV.n x30.2.2)),AV.sv (string (GV.s x30.2.2)),AV.sv (zzh x30),AV.sv (zzi x30),AV.sv (int i64 (GV.b x30.2.2))]/\zzc x27/\∃(i3:GV×ByteArray×GV),GV.n i3.1=GV.n x30.2.2/\GV.s i3.1=GV.s x30.2.2/\(GV.x i3.1).1=(GV.x x30.2.2).1/\(GV.x i3.1).2.1=(GV.x x30.2.2).2.1/\(GV.x i3.1).2.2=(GV.x x30.2.2).2.2/\(GV.y i3.1).1=(GV.y x30.2.2).1/\(GV.y i3.1).2.1=(GV.y x30.2.2).2.1/\(GV.y i3.1).2.2=(GV.y x30.2.2).2.2/\GV.b i3.1=GV.b x30.2.2/\i3.2.1=mkS [107]++i2/\GV.n i3.2.2=GV.n x27.1/\GV.s i3.2.2=GV.s x27.1/\(GV.x i3.2.2).1=(GV.x x27.1).1/\(GV.x i3.2.2).2.1=(GV.x x27.1).2.1/\(GV.x i3.2.2).2.2=(GV.x x27.1).2.2/\(GV.y i3.2.2).1=(GV.y x27.1).1/\(GV.y i3.2.2).2.1=(GV.y x27.1).2.1/\(GV.y i3.2.2).2.2=(GV.y x27.1).2.2/\GV.b i3.2.2=GV.b x27.1/\(length (GV.ks i3.1)=length (GV.l i3.1)/\length (GV.l i3.1)<1000000)/\(∀i4,z91 x0 x1 x3 x6 x7 x27 x30 i4->GV.ok i3.1 i4/\GV.ok i3.2.2 i4)/\∀(i5:GV),GV.pv i5=PV.mk (GV.n i3.1) (GV.s i3.1) (z97 i3.2.1 (GV.ks i3.1) (GV.pvs (GV.l i3.1)) (GV.pv i3.2.2)) (qad i3.2.1 (GV.ks i3.1)) (GV.b i3.1)->(∃i6,(z91 x0 x1 x3 x6 x7 x27 x30 i6)/\GV.ok i5 i6)->j7y x0 x7 x4 x3 x2 x5 i0 x1 x8 x9 x10 x11 x12 x13 x14 x15 x16 x17 x18 x19 x20 x21 x22 x23 x24 x25 x27 x6 x29 x30 i5)
 def j7u:=((!x27.2.1)=true->∃(i0:AvB),zzf i0 x30 (zf9 x1 x29 (i0.2.2=x27.2.2/\z7x x2 x3 x4 x5 x6 i0/\(∀i1,z91 x0 x7 x3 x6 x1 x27 x30 i1->GV.ok i0.1 i1)/\True)))/\((!x27.2.1)=false->j7w x0 x7 x9 x3 x4 x17 x6 x1 x8 x22 x10 x11 x12 x13 x14 x15 x16 x2 x18 x19 x20 x21 x5 x23 x24 x25 x27 x29 x30)
 def j7s:=zqu x2/\∃(i0:AvS),zqq x1 x4 x2 x7 i0 (i0.2.2.2.2.2.2=x30.2.1/\zqp x8 i0/\(∀i1,(z10 x0 x1 x3 x6 x7 i1)/\GV.ok x30.2.2 i1->zqt i0 i1)/\∀(i2:AvB),z0i i0.1 i0.2.2.1 i0.2.2.2.1 i0.2.2.2.2.2.1 i0.2.2.2.2.2.2 i2.1 i2.2.1 i2.2.2->(∃i3,z91 x0 x1 x3 x6 x7 i2 x30 i3)->j7u x0 x7 x5 x3 x2 x9 x6 x1 x10 x17 x12 x11 x15 x13 x14 x16 x19 x4 x18 x24 x20 x21 x22 x23 x25 x26 i2 i0 x30)
 def j7q:=Ji (0<x30.1) (j7s x0 x1 x2 x3 x4 x5 x6 x7 x8 x9 x10 x11 x12 x13 x14 x15 x16 x17 x18 x19 x20 x21 x22 x23 x24 x25 x26 x30) (∃(i16:AvB),zzf i16 x30 (z1d x7 (i16.2.2=x30.2.1/\z7x x5 x3 x2 x9 x6 i16/\(∀i17,(z10 x0 x1 x3 x6 x7 i17)/\GV.ok x30.2.2 i17->GV.ok i16.1 i17)/\True)))
 def j7n:=(zdo x2=true->∃(i0:List Int),(4:Int)=4/\z1d x1 (zb2 x0 x7 x4 x3 4 i0 x1 x6 ((∃(i2:Int×Int×GV),x5=x5/\i2.1=z0h i0 x4 4/\z1d x1 (i2.2.1=z09 i0 x4/\GV.n i2.2.2=GV.n x0.1/\GV.s i2.2.2=GV.s x0.1/\(GV.x i2.2.2).1=(GV.x x0.1).1/\(GV.x i2.2.2).2.1=(GV.x x0.1).2.1/\(GV.x i2.2.2).2.2=(GV.x x0.1).2.2/\(GV.y i2.2.2).1=(GV.y x0.1).1/\(GV.y i2.2.2).2.1=(GV.y x0.1).2.1/\(GV.y i2.2.2).2.2=(GV.y x0.1).2.2/\GV.b i2.2.2=GV.b x0.1/\z1d x7 (zl0 x0 x7 x2 x3 x9 x17 x6 x1 x8 x10 x11 x12 x13 x14 x15 x16 x18 x19 x20 x21 x23 x24 x25 ((∀i4,z10 x0 x7 x3 x6 x1 i4->GV.ok i2.2.2 i4)/\maI x3 (atS x3 x22) x6 x5 x4 i2.1 i2.2.1 i2.2.2/\True))))/\∀(i5:Int×Int×GV),maI x3 (atS x3 x22) x6 x5 x4 i5.1 i5.2.1 i5.2.2->(∃i6,(z10 x0 x7 x3 x6 x1 i6)/\GV.ok i5.2.2 i6)->j7q x0 x7 x5 x3 x9 x22 x6 x1 x26 x4 x8 x11 x10 x13 x14 x12 x15 x2 x18 x16 x20 x21 x17 x23 x19 x24 x25 i5)))/\(zdo x2=false->∃(i25:AvB),zfa x0 i25 (zky x0 i25 (i25.2.1=true/\z1d x1 (i25.2.2=x4/\z7x x22 x3 x5 x4 x6 i25/\(∀i26,z10 x0 x7 x3 x6 x1 i26->GV.ok i25.1 i26)/\True))))
 def j7m:=(Ji (x2=12) (∃(i0:Unit),x4=x4/\zdo x2=decide (x2=12)/\x2=x2/\z1d x1 (x5=x5/\zzg x0 (zkz x0 (z1d x7 (zl0 x0 x7 x2 x3 x9 x17 x6 x1 x8 x10 x11 x12 x13 x14 x15 x16 x18 x19 x20 x21 x23 x24 x25 (True/\True)))))) (∃(i2:Unit),x4=x4/\zdo x2=decide (x2=13)/\x2=x2/\z1d x1 (x5=x5/\zzg x0 (zkz x0 (z1d x7 (zl0 x0 x7 x2 x3 x9 x17 x6 x1 x8 x10 x11 x12 x13 x14 x15 x16 x18 x19 x20 x21 x23 x24 x25 (True/\True)))))))/\∀(i4:Unit),True->j7n x0 x1 x2 x3 x5 x4 x6 x7 x8 x9 x10 x11 x12 x13 x14 x15 x16 x17 x18 x19 x20 x21 x22 x23 x24 x25 x26
 def j7l:=Ji (x2=9) (j7o x0 x1 x4 x3 x5 x2 x6 x7 x8 x9 x10 x11 x12 x13 x14 x15 x16 x17 x18 x19 x20 x21 x22 x23 x24 x25 x26) (j7m x0 x1 x2 x3 x4 x5 x6 x7 x8 x9 x10 x11 x12 x13 x14 x15 x16 x17 x18 x19 x20 x21 x22 x23 x24 x25 x26)
 def j7k:=Ji (x2=14) (∃(i0:List Int),(↑x8:Int)=(↑x8:Int)/\z1d x1 (zzl x4 i0 x8 (zl1 x0 x7 x3 x6 x1 i0/\(zzd x0 x7 x4 x3 x5 x9 i0 x1 x8 x10 x11 x6)/\zzd x0 x7 x4 x3 x5 x9 i0 x1 x8 x10 x11 x6))) (j7l x0 x1 x2 x3 x5 x4 x6 x7 x12 x17 x15 x14 x16 x13 x18 x19 x24 x22 x23 x25 x20 x21 x9 x11 x8 x26 x10)
 def jls:=Ji (x2=10) (∃(i0:List Int),(↑x8:Int)=(↑x8:Int)/\z1d x1 (zzl x4 i0 x8 (zl1 x0 x7 x3 x6 x1 i0/\∃(i2:AvB),GV.n i2.1=IntKind.wrap u64 (z0h i0 x4 (↑x8:Int))/\GV.s i2.1=GV.s x0.1/\zb1 x0 x1 x4 x3 x5 x9 i0 x7 i2 x6))) (j7k x0 x1 x2 x3 x4 x9 x6 x7 x10 x5 x12 x11 x15 x13 x14 x16 x8 x17 x18 x19 x20 x21 x22 x23 x24 x25 x26)
 def jlr:=Ji (x2=7) (∃(i0:List Int),(4:Int)=4/\z1d x1 (zb2 x0 x7 x4 x3 4 i0 x1 x6 ((0<=z0h i0 x4 4/\z0h i0 x4 (4:Int)<(↑(nat_lit 4):Int))/\∃i2,(∀(i3:Nat) (i4:Value),[string i2][i3]? =some i4->[string (mkS []),string (mkS [255]),string (mkS [0]),string (mkS [98])][nat_lit 0+toNat (z0h i0 x4 4)*1+i3]? =some i4)/\∃(i5:AvB),GV.n i5.1=GV.n x0.1/\GV.s i5.1=i2/\zb1 x0 x1 x4 x3 x5 x9 i0 x7 i5 x6))) (jls x0 x1 x2 x3 x4 x5 x6 x7 x8 x9 x10 x11 x12 x13 x14 x15 x16 x17 x18 x19 x20 x21 x22 x23 x24 x25 x26)
 def jlq:=Ji (x2=8) (∃(i0:List Int),(4:Int)=4/\z1d x1 (zb2 x0 x7 x4 x3 4 i0 x1 x6 ((0<=z0h i0 x4 4/\z0h i0 x4 (4:Int)<(↑(nat_lit 4):Int))/\∃i2,(∀(i3:Nat) (i4:Value),[string i2][i3]? =some i4->[string (mkS []),string (mkS [97]),string (mkS [195,164]),string (mkS [116,101,120,116])][nat_lit 0+toNat (z0h i0 x4 4)*1+i3]? =some i4)/\∃(i5:AvB),GV.n i5.1=GV.n x0.1/\GV.s i5.1=i2/\zb1 x0 x1 x4 x3 x5 x9 i0 x7 i5 x6))) (jlr x0 x1 x2 x3 x4 x5 x6 x7 x8 x9 x10 x11 x12 x13 x14 x15 x16 x17 x18 x19 x20 x21 x22 x23 x24 x25 x26)
 def jlp:=Ji (x2=6) (∃(i0:List Int),(5:Int)=5/\z1d x1 (zb2 x0 x7 x4 x3 5 i0 x1 x6 ((0<=z0h i0 x4 5/\z0h i0 x4 (5:Int)<(↑(nat_lit 5):Int))/\∃(i2:Int),(∀(i3:Nat) (i4:Value),[int u64 i2][i3]? =some i4->[int u64 0,int u64 4607182418800017408,int u64 1,int u64 9223372036854775808,int u64 9218868437227405312][nat_lit 0+toNat (z0h i0 x4 5)*1+i3]? =some i4)/\∃(i5:AvB),GV.n i5.1=i2/\GV.s i5.1=GV.s x0.1/\zb1 x0 x1 x4 x3 x5 x9 i0 x7 i5 x6))) (jlq x0 x1 x2 x3 x4 x5 x6 x7 x8 x9 x10 x11 x12 x13 x14 x15 x16 x17 x18 x19 x20 x21 x22 x23 x24 x25 x26)
 def jlo:=zqo x0 x1 x2 x3 x4 x5 x6 x7 x9 5 1065353216 2139095040 1 3212836864 2143289345 2147483648/\(Jf (x2=5)->jlp x0 x1 x2 x3 x4 x5 x6 x7 x8 x9 x10 x11 x12 x13 x14 x15 x16 x17 x18 x19 x20 x21 x22 x23 x24 x25 x26)
 def jln:=zqo x0 x1 x2 x3 x4 x5 x6 x7 x9 4 1 18446744073709551615 1099511627776 9223372036854775807 9223372036854775808 9007199254740993/\(Jf (x2=4)->jlo x0 x1 x2 x3 x4 x5 x6 x7 x8 x9 x10 x11 x12 x13 x14 x15 x16 x17 x18 x19 x20 x21 x22 x23 x24 x25 x26)
 def jlm:=zqo x0 x1 x2 x3 x4 x5 x6 x7 x9 3 1 18446744073709551615 300 2147483647 18446744071562067968 16777217/\(Jf (x2=3)->jln x0 x1 x2 x3 x4 x5 x6 x7 x8 x9 x10 x11 x12 x13 x14 x15 x16 x17 x18 x19 x20 x21 x22 x23 x24 x25 x26)
 def jll:=(0<=x2/\x2<(↑x1.2.1:Int))/\x1.1≠noA/\∃(i0:Int),∃i1,∃i2,∃(i3:Nat),∃(i4:Nat),∃(i5:Int),∃i6,∃(i7:Nat),∃(i8:Nat),∃(i9:Bool),∃i10,∃(i11:Int),∃i12,∃(i13:Nat),∃(i14:Nat),∃i15,∃(i16:Nat),∃(i17:Nat),(∀i18,z10 x0 x1 x3 x6 x7 i18->q3f i18 (adr x1.1 (toNat x2*10)) [int i64 i0,string i1,slice i2 i3 i4,int i64 i5,slice i6 i7 i8,bool i9,string i10,int i64 i11,slice i12 i13 i14,slice i15 i16 i17])/\Ji (i0=2) (∃(i19:List Int),(2:Int)=2/\z1d x7 (zb2 x0 x1 x4 x3 2 i19 x7 x6 (∃(i21:AvB),GV.n i21.1=IntKind.wrap u64 (z0h i19 x4 2)/\GV.s i21.1=GV.s x0.1/\zb1 x0 x7 x4 x3 x2 x5 i19 x1 i21 x6))) (jlm x0 x7 i0 x3 x4 x2 x6 x1 i7 x5 i16 i15 x8 i1 i2 i3 i4 i5 i6 i8 i9 i10 i11 i12 i13 i14 i17)
 def jlk:=Ji (5<x2) (zqr x0 x1 x4 x3 x5 x2 x6 x7) (∃(i2:List Int),z1d x1 (x4=x4/\True/\zl1 x0 x7 x3 x6 x1 i2/\Ji ((↑(length i2):Int)<=x4) (zqr x0 x1 x4 x3 x5 x2 x6 x7) (jll x0 x7 x5 x3 x4 x2 x6 x1 x8)))
 def jlj:=((!x0.2)=true->zqr x0 x1 x2 x3 x4 x5 x6 x7)/\((!x0.2)=false->jlk x0 x1 x5 x3 x2 x4 x6 x7 x8)
end
def zfl(c:Nat) (S:List AT) (x:SV) (t d:Int) (y:SV) (L:List Int) (n:Int):qkj P (qfv [(37,zrc),(36,zg4)]) (qgy [(14,(z3r zff).below z9s c),(35,z9f),(38,zsq)]) Try.f14 ((z3r j8x).below z9s (c+1)) (znx false) ⟨S,x,t,d,y,L,n⟩=(z9s (S,x,t,d,y,L,n)<c+1/\z0a S/\(0<=t/\t<(↑(length S):Int))/\j8x (atS S t)/\(0<=d/\d<=6)/\0<=n/\n<=(↑(length L):Int)/\z0g L->(∃(p:Pub),True/\z05 S x p/\slP byV y L p)->∃(s:List AT×(Option Addr×Nat×Nat)×Int),s.2.1.1=x.1/\s.2.1.2.1=x.2.1/\s.2.1.2.2=x.2.2/\s.2.2=t/\z0a s.1/\(∀(p:Pub),True/\z05 S x p/\slP byV y L p->z05 s.1 s.2.1 p)/\∀(b:GV×Bool),b.2=lsB s.1 s.2.2/\PV.sn (GV.pv b.1)/\PV.wt (GV.pv b.1)<=60000/\(b.2=true->PV.fits s.1 s.2.2 (GV.pv b.1)=true)/\(b.2=false\/AT.k (atS s.1 s.2.2)=12\/AT.k (atS s.1 s.2.2)=13->b.1=zV)->(∃(p:Pub),z10 b x S L y p)->jlj b y n S t d L x c):=by kernel_rfl
def zlh:=λc S x t d y L n=>Eq.trans (zfl c S x t d y L n) (by delta Ji Jb Jt Jf z10 zfa zqs zky z1d z7x zqr zl1 zb2 zb1 zqo zzl zqu zqq zqp zqt zzj zzk zzc zf9 j7x j7p zzd zkz zl0 j7v zze j7t j7r j7o zzg z91 zzf zzh zzi j7y j7w j7u j7s j7q j7n j7m j7l j7k jls jlr jlq jlp jlo jln jlm jll jlk jlj;exact rfl)
def z9y{α:Type} {f:α->List Value} {e:Nat} (hf:∀x,(f x).length=e) (l:List α) {i:Nat} (hi:i<l.length):∀(j:Nat) v,(f l[i])[j]? =some v->(z00 f l)[i*e+j]? =some v:=λj v h=>by
 refine z4y hf l i (by omega) j v ?_
 rw[List.drop_eq_getElem_cons hi]
 show(f l[i]++z00 f _)[j]? =some v
 rw[List.getElem?_append_left (List.getElem?_eq_some_iff.1 h).1];exact h
def z3f{q:Pub} {n:Int} {s:ByteArray} {a a2:Option Addr} {c c2:Nat} {l:List GV} {ks:List ByteArray} {b:Int} {m m2:Nat} (hm:m=l.length) (hm2:m2=ks.length) (h1:m<=c) (h2:qhc q a (z00 GV.cells l)) (h3:∀w∈l,w.ok q) (k1:m2<=c2) (k2:qhc q a2 (z00 txV ks)):(GV.mk n s (a,m,c) l (a2,m2,c2) ks b).ok q:=by
 unfold GV.ok
 exact⟨⟨hm,h1,h2⟩,⟨hm2,k1,k2⟩,GV.oks_iff.2 h3⟩
def z6y(l:List GV):List.take (l.length*5) (z00 GV.cells l)=z00 GV.cells l:=List.take_of_length_le (by rw[z01 z0o];exact Nat.le_refl _)
def z7g(l:List ByteArray):List.take (l.length*1) (z00 txV l)=z00 txV l:=List.take_of_length_le (by rw[z01 z0m];exact Nat.le_refl _)
def tp{v:GV} (hv:v.pv.sn) (hwt:v.pv.wt<100000000000000000) {n:Int} {s:ByteArray} {x y:SV} {l:List GV} {ks:List ByteArray} {b:Int} (hn:0<=n/\n<18446744073709551616) (hl:∀w∈GV.pvs l,w.sz) (hll:l.length<=1001) (hk:ks.length<=1001) (hks:∀k∈ks,k.size<9223372036854775808) (hw:s.size<=v.s.size+1/\kzs ks+PV.wts (GV.pvs l)<=kzs v.ks+PV.wts (GV.pvs v.l)+40):z2l v (.mk n s x l y ks b):=by
 have ev:v.pv.wt=30+0*v.s.size+kzs v.ks+PV.wts (GV.pvs v.l):=by rw[GV.pv_eq,z2y]
 have ew:(GV.mk n s x l y ks b).pv= .mk n s (GV.pvs l) ks b:=by rw[GV.pv]
 have hvs:v.s.size<=1000000:=by
  rw[GV.pv_eq]at hv
  exact(j1m hv).2.1
 unfold z2l
 rw[ew,z2y]
 refine⟨⟨?_,?_⟩,by omega⟩
 ·rw[PV.sm,GV.pvs_len]
  exact⟨hn,by omega,by omega,by omega,hks,z5a.2 λw h=>(hl w h).1⟩
 ·rw[PV.ss]
  exact⟨by omega,z7b.2 λw h=>(hl w h).2⟩
def zgz{l:List ByteArray} {k:Nat} (h:k<l.length) (w:ByteArray):kzs (l.set k w)+l[k].size=kzs l+w.size:=by
 have e:kzs (l.take k)+kzs (l.drop k)=kzs l:=by rw[←z3v,List.take_append_drop]
 rw[List.drop_eq_getElem_cons h,kzs]at e
 rw[List.set_eq_take_append_cons_drop,if_pos h,z3v,kzs];omega
def jab(c:Nat) (ht:q1u P 15 (z34.below ztt c)):q1u P 15 (z34.below ztt (c+1)):=by
 refine qjr mixed (qdh qk5) (qe7 (qh8 ht qk4)) (W:=ziv) Try.func15 (by kernel_rfl) (show 1<=1 by decide) (show 1<=1 by decide) (λs=>by kernel_rfl) λ⟨v,(how:Int),(n:Int)⟩=>(ze5 c v how n).mpr ?_
 rintro⟨hmu,⟨hsn,hwt⟩,⟨hh0,hh1⟩,hn0,hn1⟩ ⟨p,_,hv⟩
 have hmu:SizeOf.sizeOf v<c+1:=hmu
 have vo:=λq (h:v.ok q)=>(by rw[GV.ok_eq]at h;exact h:slP GV.cells v.x v.l q/\slP txV v.y v.ks q/\GV.oks v.l q)
 have vk:=λq (h:v.ok q)=>GV.oks_iff.1 (vo q h).2.2
 have xl:v.x.2.1=v.l.length:=(vo p hv).1.1
 have yl:v.y.2.1=v.ks.length:=(vo p hv).2.1.1
 have hs:=hsn
 rw[GV.pv_eq]at hs
 obtain⟨hvn,hvs,hvl,hvk,hvks,hvm⟩:=j1m hs
 rw[GV.pvs_len]at hvl
 have hwe:v.pv.wt=30+0*v.s.size+kzs v.ks+PV.wts (GV.pvs v.l):=by rw[GV.pv_eq,z2y]
 have hvm1:=λw (hw:w∈GV.pvs v.l)=>(hvm w hw).sz
 have e3:Int.tdiv how 3=how / 3:=Int.tdiv_eq_ediv_of_nonneg hh0
 have w8:IntKind.wrap .u8 (how / 3)=how / 3:=by rw[z8q];omega
 have e7:Int.tdiv n 7=n / 7:=Int.tdiv_eq_ediv_of_nonneg hn0
 have w64:IntKind.wrap .u64 (n / 7)=n / 7:=by rw[zo4];omega
 simp only[sbS,exists_const,forall_const,Int.toNat_natCast,xl,yl,Nat.zero_add,List.nil_append,e3,w8,e7,w64]
 refine⟨z00 GV.cells v.l,z01 z0o _,λq hq=>(vo q hq).1.2.2,z1g zcd _,by omega,z00 txV v.ks,z01 z0m _,λq hq=>(vo q hq).2.1.2.2,z1g zhg _,by omega,?_⟩
 have fin:∀(n':Int) (s':ByteArray) (b':Int) (ks':List ByteArray) (a:Option Addr) (cc:Nat) (a2:Option Addr) (c2:Nat),(0<=n'/\n'<18446744073709551616)->s'.size<=v.s.size+1->ks'.length=v.ks.length->kzs ks'=kzs v.ks->(∀x∈ks',x∈v.ks)->∃b:GV,b.n=n'/\b.s=s'/\b.x.1=a/\b.x.2.1=v.l.length/\b.x.2.2=cc/\b.y.1=a2/\b.y.2.1=v.ks.length/\b.y.2.2=c2/\b.b=b'/\z2l v b/\∀q,(v.ok q/\v.l.length<=cc/\qhc q a (List.take (v.l.length*5) (z00 GV.cells v.l)))/\v.ks.length<=c2/\qhc q a2 (List.take (v.ks.length*1) (z00 txV ks'))->b.ok q:=λn' s' b' ks' a cc a2 c2 h1 h2 h3 h4 h5=>
  ⟨.mk n' s' (a,v.l.length,cc) v.l (a2,v.ks.length,c2) ks' b',rfl,rfl,rfl,rfl,rfl,rfl,rfl,rfl,rfl,tp hsn hwt h1 hvm1 (by omega) (by omega) (λk hk=>hvks k (h5 k hk)) (by omega),λq hq=>z3f rfl h3.symm hq.1.2.1 (by have:=hq.1.2.2;rw[z6y]at this;exact this) (vk q hq.1.1) hq.2.1 (by have:=hq.2.2;rw[←h3,z7g]at this;exact this)⟩
 refine⟨λh0=>⟨by decide,λh1=>⟨by decide,⟨by omega,by omega⟩,by omega,⟨⟨?xa,?xb⟩,⟨?xc,?xd⟩,?xe,?xf⟩⟩⟩,by decide,λh70=>⟨by decide,?c0⟩,λh70=>⟨λh71=> ?c1,λh71=>⟨λh72=> ?c2,λh72=>⟨λh73=> ?c3,λh73=>⟨λh74=> ?c4,λh74=>⟨λh75=>⟨λh0=> ?c5,λh0=> ?c7⟩,λh75=> ?c6⟩⟩⟩⟩⟩⟩
 case xa|xb|xc|xd|xe|xf=>
  have hp:(0:Int)<v.l.length:=h0
  have ek:Int.tmod (how / 3) v.l.length=(how / 3) % v.l.length:=Int.tmod_eq_emod_of_nonneg (by omega)
  obtain⟨i,hi,e⟩:=z12 (t:=Int.tmod (how / 3) v.l.length) (n:=v.l.length) (by rw[ek];exact⟨Int.emod_nonneg _ (by omega),Int.emod_lt_of_pos _ hp⟩)
  rw[e]
  simp only[Int.toNat_natCast,z01 z0o]
  have hpi:=z3i hi
  have hmi:v.l[i].pv∈GV.pvs v.l:=by rw[←hpi];exact List.getElem_mem _
  have hwi:=zj8 hmi
  refine⟨⟨by omega,by omega⟩,v.l[i].n,v.l[i].s,v.l[i].x.1,v.l[i].x.2.1,v.l[i].x.2.2,v.l[i].y.1,v.l[i].y.2.1,v.l[i].y.2.2,v.l[i].b,λj w h=>z9y z0o v.l hi j w h,by decide,⟨v.l[i],how / 3,n⟩,rfl,rfl,rfl,rfl,rfl,rfl,rfl,rfl,rfl,rfl,rfl,⟨?_,⟨hvm _ hmi,by show v.l[i].pv.wt<_;omega⟩,⟨by show 0<=how / 3;omega,by show how / 3<256;omega⟩,hn0,hn1⟩,λq hq=>vk q hq _ (List.getElem_mem hi),?_⟩
  ·show SizeOf.sizeOf v.l[i]<c
   have h1:=z7a hi
   have h2:SizeOf.sizeOf v.l<SizeOf.sizeOf v:=by cases v;simp[GV.l];omega
   omega
  rintro w ⟨hw1,hw2⟩ ⟨p1,_,hwo⟩
  refine⟨⟨by omega,by omega⟩,by show i*5+5<=_;omega,λa cc _ a2 c2 _=>⟨.mk v.n v.s (a,v.l.length,cc) (v.l.set i w) (a2,v.ks.length,c2) v.ks v.b,rfl,rfl,rfl,rfl,rfl,rfl,rfl,rfl,rfl,?_,λq hq=> ?_⟩⟩
  ·have es:GV.pvs (v.l.set i w)=(GV.pvs v.l).set i w.pv:=by rw[GV.pvs_map,GV.pvs_map,List.map_set]
   have hws:=zj9 (l:=GV.pvs v.l) (k:=i) (by rw[GV.pvs_len];exact hi) w.pv
   rw[hpi]at hws
   have hw2:w.pv.wt<=v.l[i].pv.wt+40:=hw2
   refine tp hsn hwt hvn (λu hu=> ?_) (by rw[List.length_set];omega) (by omega) hvks (by rw[es];omega)
   rw[es]at hu
   rcases List.mem_or_eq_of_mem_set hu with hu|rfl
   ·exact hvm1 u hu
   ·exact hw1
  ·have hr:=z3l z0o v.l i hi w
   rw[Nat.zero_add]at hr
   have h2:=hq.1.2.2
   change qhc q a (List.take (v.l.length*5) (spl (z00 GV.cells v.l) (i*5) w.cells))at h2
   rw[←hr,List.take_of_length_le (by rw[z01 z0o,List.length_set];exact Nat.le_refl _)]at h2
   refine z3f (by rw[List.length_set]) rfl hq.1.2.1 h2 (λu hu=> ?_) hq.2.1 (by have:=hq.2.2;rw[z7g]at this;exact this)
   rcases List.mem_or_eq_of_mem_set hu with hu|rfl
   ·exact vk q hq.1.1.1 u hu
   ·exact hq.1.1.2
 ·exactλa cc _ a2 c2 _=>fin _ _ _ _ a cc a2 c2 ⟨by omega,by omega⟩ (by omega) rfl rfl λx hx=>hx
 ·refine⟨?_,λa cc _ a2 c2 _=>fin _ _ _ _ a cc a2 c2 hvn ?_ rfl rfl λx hx=>hx⟩
  ·have:(mkS [255]).size=1:=rfl
   omega
  ·rw[ByteArray.size_append];exact Nat.le_refl _
 ·refine⟨z01 z0o _,by omega,λa cc _ a2 c2 _=>⟨.mk v.n v.s (a,v.l.length+1,cc) (v.l++[zV]) (a2,v.ks.length,c2) v.ks v.b,rfl,rfl,rfl,rfl,rfl,rfl,rfl,rfl,rfl,?_,λq hq=> ?_⟩⟩
  ·have ez:zV.pv.wt=30:=by rw[z5d,z2y,PV.wts,kzs,ms0]
   refine tp hsn hwt hvn (λu hu=> ?_) (by simp;omega) (by omega) hvks (by rw[z3j,z2m,z41,ez];omega)
   rw[z3j]at hu
   rcases List.mem_append.1 hu with hu|hu
   ·exact hvm1 u hu
   ·simp at hu;subst hu;rw[z5d];exact(z38 (by decide) (by rw[ms0];decide) (by decide) (by decide) (λk hk=>by cases hk) λv hv=>by cases hv).sz
  ·have h2:=hq.1.2.2
   have er:z00 GV.cells (v.l++[zV])=z00 GV.cells v.l++zV.cells:=by rw[z07];rfl
   change qhc q a (List.take ((v.l.length+1)*5) (z00 GV.cells v.l++zV.cells))at h2
   rw[←er,List.take_of_length_le (by rw[z01 z0o];simp)]at h2
   refine z3f (by simp) rfl hq.1.2.1 h2 (λu hu=> ?_) hq.2.1 (by have:=hq.2.2;rw[z7g]at this;exact this)
   rcases List.mem_append.1 hu with hu|hu
   ·exact vk q hq.1.1 u hu
   ·simp at hu;subst hu;exact z3m q
 ·refine⟨z01 z0m _,by omega,λa cc _ a2 c2 _=>⟨.mk v.n v.s (a,v.l.length,cc) v.l (a2,v.ks.length+1,c2) (v.ks++[mkS [97]]) v.b,rfl,rfl,rfl,rfl,rfl,rfl,rfl,rfl,rfl,?_,λq hq=> ?_⟩⟩
  ·have ez:(mkS [97]).size=1:=rfl
   refine tp hsn hwt hvn hvm1 (by omega) (by simp;omega) (λk hk=> ?_) (by rw[z3v,kzs,kzs];omega)
   rcases List.mem_append.1 hk with hk|hk
   ·exact hvks k hk
   ·simp at hk;subst hk;omega
  ·have h2:=hq.2.2
   have er:z00 txV (v.ks++[mkS [97]])=z00 txV v.ks++txV (mkS [97]):=by rw[z07];rfl
   change qhc q a2 (List.take ((v.ks.length+1)*1) (z00 txV v.ks++txV (mkS [97])))at h2
   rw[←er,List.take_of_length_le (by rw[z01 z0m];simp)]at h2
   exact z3f rfl (by simp) hq.1.2.1 (by have:=hq.1.2.2;rw[z6y]at this;exact this) (vk q hq.1.1) hq.2.1 h2
 ·have hb:IntKind.wrap .i64 (Int.tmod (n / 7) 5)=Int.tmod (n / 7) 5:=by
   rw[Int.tmod_eq_emod_of_nonneg (by omega)]
   unfold IntKind.wrap;simp[IntKind.bits,IntKind.signed];omega
  have hb2:Int.tmod (n / 7) 5=(n / 7) % 5:=Int.tmod_eq_emod_of_nonneg (by omega)
  rw[hb]
  exact⟨by decide,by decide,⟨by omega,by omega⟩,λa cc _ a2 c2 _=>fin _ _ _ _ a cc a2 c2 hvn (by omega) rfl rfl λx hx=>hx⟩
 ·rintro a cc ⟨p1,hp1⟩
  have hcc:v.l.length<=cc:=hp1.2.1
  refine⟨hcc,⟨by decide,by omega⟩,λa2 c2 _=>⟨.mk v.n v.s (slA a cc 1 5,0+v.l.length- 1,cc- 1) (v.l.drop 1) (a2,v.ks.length,c2) v.ks v.b,rfl,rfl,rfl,?w,rfl,rfl,rfl,rfl,rfl,?_,λq hq=> ?_⟩⟩
  ·show 0+v.l.length- 1=_
   rw[←xl];kernel_rfl
  ·have hd:PV.wts (GV.pvs (v.l.drop 1))<=PV.wts (GV.pvs v.l):=by
    have:=z26 (GV.pvs v.l) 1
    rw[GV.pvs_map,List.map_drop,←GV.pvs_map];omega
   refine tp hsn hwt hvn (λu hu=>hvm1 u ?_) (by simp;omega) (by omega) hvks (by omega)
   rw[GV.pvs_map,List.map_drop,←GV.pvs_map]at hu
   exact List.mem_of_mem_drop hu
  ·have h2:=hq.1.2.2
   rw[z6y]at h2
   have h2:=z3k (l:=1) (sz:=5) (c:=cc) (us:=z00 GV.cells (v.l.drop 1)) h2 (by omega) (by rw[z01 z0o];omega) (z4y z0o v.l 1 (by omega))
   exact z3f (by simp) rfl (by omega) h2 (λu hu=>vk q hq.1.1 u (List.mem_of_mem_drop hu)) hq.2.1 (by have:=hq.2.2;rw[z7g]at this;exact this)
 ·exactλa cc _ a2 c2 _=>fin _ _ _ _ a cc a2 c2 hvn (by omega) rfl rfl λx hx=>hx
 ·refine⟨⟨by omega,by omega⟩,⟨⟨0,(v.ks.length:Int)- 1,v.ks⟩,rfl,rfl,rfl,⟨⟨by show(0:Int)<=0;decide,by show(0:Int)<=_;omega⟩,⟨by show -1<=(v.ks.length:Int)- 1;omega,by show(v.ks.length:Int)- 1<_;omega⟩,rfl,rfl,λx hx=>hx⟩⟩,?_⟩
  rintro⟨i,k,ks⟩ ⟨⟨i0,i1⟩,⟨k0,k1⟩,l1,l2,l3⟩
  simp only at i0 i1 k0 k1 l1 l2 l3⊢
  refine⟨λhlt=> ?_,λhge a cc _ a2 c2 _=>fin _ _ _ ks a cc a2 c2 hvn (by omega) l1 l2 l3⟩
  obtain⟨i,hi,rfl⟩:=z12 (t:=i) (n:=v.ks.length) ⟨i0,by omega⟩
  obtain⟨k,hk,rfl⟩:=z12 (t:=k) (n:=v.ks.length) ⟨by omega,k1⟩
  have hi2:i<ks.length:=by omega
  have hk2:k<ks.length:=by omega
  have hk3:k<(ks.set i ks[k]).length:=by rw[List.length_set];exact hk2
  have z1:=zgz hi2 ks[k]
  have z2:=zgz hk3 ks[i]
  rw[List.getElem_set_ne (by omega)]at z2
  have r1:=z3l z0m ks i hi2 ks[k]
  have r2:=z3l z0m (ks.set i ks[k]) k hk3 ks[i]
  rw[Nat.zero_add]at r1 r2
  rw[r1]at r2
  have r1':spl (z00 txV ks) (i*1) [.string ks[k]]=z00 txV (ks.set i ks[k]):=r1.symm
  simp only[Int.toNat_natCast,r1',z01 z0m,List.length_set]
  refine⟨⟨by omega,by omega⟩,ks[k],λj w h=>z9y z0m ks hk2 j w h,⟨by omega,by omega⟩,ks[i],λj w h=>z9y z0m ks hi2 j w h,⟨by omega,by omega⟩,by show i*1+1<=_;omega,⟨by omega,by omega⟩,by show k*1+1<=(spl (z00 txV ks) (i*1) [.string ks[k]]).length;rw[r1',z01 z0m,List.length_set];omega,⟨by omega,by omega⟩,⟨by omega,by omega⟩,⟨(i:Int)+1,(k:Int)- 1,(ks.set i ks[k]).set k ks[i]⟩,rfl,rfl,?_,⟨⟨by show 0<=(i:Int)+1;omega,by show(i:Int)+1<=_;omega⟩,⟨by show -1<=(k:Int)- 1;omega,by show(k:Int)- 1<_;omega⟩,by simp[l1],by show kzs ((ks.set i ks[k]).set k ks[i])=_;omega,λx hx=> ?_⟩,by show((k:Int)- 1- ((i:Int)+1)+1).toNat<((k:Int)- i+1).toNat;omega⟩
  ·exact r2
  ·rcases List.mem_or_eq_of_mem_set hx with hx|rfl
   ·rcases List.mem_or_eq_of_mem_set hx with hx|rfl
    ·exact l3 x hx
    ·exact l3 _ (List.getElem_mem hk2)
   ·exact l3 _ (List.getElem_mem hi2)
def z6d:∀n,q1u P 15 (z34.below ztt n)
 |0=>CtR.below_zero (by decide) (by decide) (Sen.enters_of Try.func15 (by kernel_rfl)) λs=>rfl
 |n+1=>jab n (z6d n)
def ze6:q1u P 15 z34:=CtR.of_below z6d
section
theorem j1l{s:ByteArray} (h:s.size=0):s=mkS []:=by
 obtain⟨⟨l⟩⟩:=s
 have:l=[]:=List.length_eq_zero_iff.1 h
 subst this;rfl
theorem z2o{S:List AT} {i:Nat} (hi:i<S.length) {v:GV} (h:PV.fits S i v.pv=true):(isN S[i].k=true->v.s=mkS []/\v.l=[]/\v.ks=[]/\v.b=0)/\(isT S[i].k=true->v.n=0/\v.l=[]/\v.ks=[]/\v.b=0)/\(isQ S[i].k=true->v.n=0/\v.s=mkS []/\(S[i].k≠13->v.ks=[])/\(S[i].k≠14->v.b=0)):=by
 rw[GV.pv_eq,PV.fits,if_neg (by omega)]at h
 simp only[Int.toNat_natCast,List.getElem?_eq_getElem hi,GV.pvs_len]at h
 refine⟨λhk=> ?_,λhk=> ?_,λhk=> ?_⟩
 ·rw[if_pos hk]at h
  unfold z96 at h
  simp only[Bool.and_eq_true,decide_eq_true_eq]at h
  obtain⟨⟨_,h1⟩,⟨h2,h3⟩,h4⟩:=h
  exact⟨j1l h1,List.length_eq_zero_iff.1 h2,List.length_eq_zero_iff.1 h3,h4⟩
 ·have hn:¬isN S[i].k=true:=λg=>by
   unfold isT at hk;unfold isN at g
   have:=of_decide_eq_true hk;have:=of_decide_eq_true g;omega
  rw[if_neg hn,if_pos hk]at h
  unfold z96 at h
  simp only[Bool.and_eq_true,decide_eq_true_eq]at h
  obtain⟨⟨_,h1⟩,⟨h2,h3⟩,h4⟩:=h
  exact⟨h1,List.length_eq_zero_iff.1 h2,List.length_eq_zero_iff.1 h3,h4⟩
 ·have hn:¬isN S[i].k=true:=λg=>by
   unfold isQ at hk;unfold isN at g
   have:=of_decide_eq_true hk;have:=of_decide_eq_true g;omega
  have ht:¬isT S[i].k=true:=λg=>by
   unfold isQ at hk;unfold isT at g
   have:=of_decide_eq_true hk;have:=of_decide_eq_true g;omega
  rw[if_neg hn,if_neg ht,if_pos hk]at h
  simp only[Bool.and_eq_true,decide_eq_true_eq]at h
  obtain⟨⟨⟨h1,_⟩,h2⟩,h3⟩:=h
  have hc:¬(v.ks.length>0/\S[i].k≠13\/v.b≠0/\S[i].k≠14):=λg=>by unfold okP at h1;rw[if_pos g]at h1;cases h1
  exact⟨h2,j1l h3,λhk=>List.length_eq_zero_iff.1 (by omega),λhk=>by omega⟩
theorem z3c(d:Int):60000<=avW d:=by
 unfold avW
 exact Nat.le_mul_of_pos_right _ (Nat.pow_pos (by decide))
theorem z4s{d:Int} (h:d<=5):avW d=31*avW (d+1):=by
 unfold avW
 rw[show(6- d).toNat=(6- (d+1)).toNat+1 by omega,Nat.pow_succ]
 omega
structure AvH(S:List AT) (i:Nat) (hi:i<S.length) (v:GV) (d:Int):Prop where
 hS:z0a S
 ls:lsB S i=true
 ft:PV.fits S i v.pv=true
 sn:v.pv.sn
 wt:v.pv.wt<=60000
 nl:S[i].k=12\/S[i].k=13->v.l=[]
 d5:d<=5
section
variable {S:List AT} {i:Nat} {hi:i<S.length} {v:GV} {d:Int} {L:List Int} {n n':Int}
theorem zr9(h:AvH S i hi v d) (hn:n<=n'/\n'<=L.length):z0i S i d L n v true n':=⟨h.ls.symm,hn,h.sn,Nat.le_trans h.wt (z3c d),λ_=>h.ft⟩
theorem avN(h:AvH S i hi v d) (hn:n<=n'/\n'<=L.length) {N:Int} (hk:isN S[i].k=true) (hN:0<=N/\N<18446744073709551616) (ho:okN S[i] N=true):z0i S i d L n (.mk N v.s v.x v.l v.y v.ks v.b) true n':=by
 obtain⟨e1,e2,e3,e4⟩:=(z2o hi h.ft).1 hk
 have ep:(GV.mk N v.s v.x v.l v.y v.ks v.b).pv= .mk N (mkS []) [] [] 0:=by rw[GV.pv,e1,e2,e3,e4,GV.pvs]
 unfold z0i
 rw[ep,z2y,PV.wts,kzs,ms0]
 have:=z3c d
 exact⟨h.ls.symm,hn,z38 hN (by rw[ms0];decide) (by decide) (by decide) (λk hk=>by cases hk) (λv hv=>by cases hv),by omega,λ_=>zrf hi hk ho⟩
theorem avT(h:AvH S i hi v d) (hn:n<=n'/\n'<=L.length) {s:ByteArray} (hk:isT S[i].k=true) (hs:s.size<=1000) (ho:okT S[i] s=true):z0i S i d L n (.mk v.n s v.x v.l v.y v.ks v.b) true n':=by
 obtain⟨e1,e2,e3,e4⟩:=(z2o hi h.ft).2.1 hk
 have ep:(GV.mk v.n s v.x v.l v.y v.ks v.b).pv= .mk 0 s [] [] 0:=by rw[GV.pv,e1,e2,e3,e4,GV.pvs]
 unfold z0i
 rw[ep,z2y,PV.wts,kzs]
 have:=z3c d
 exact⟨h.ls.symm,hn,z38 (by decide) (by omega) (by decide) (by decide) (λk hk=>by cases hk) (λv hv=>by cases hv),by omega,λ_=>zgl hi hk ho⟩
theorem z8f{k:Int} (h:k=9\/k=12\/k=13\/k=14):isQ k=true:=by unfold isQ;exact decide_eq_true h
theorem j9v(h:AvH S i hi v d) {b:Nat} (hk:S[i].k=14) (hb:b<S[i].brs.length) {w:GV} {x:SV} {m:Int} (hm:n<=m) (hw:z0i S (S[i].brs[b]) (d+1) L m w true n'):z0i S i d L n (.mk v.n v.s x [w] v.y v.ks (b:Int)) true n':=by
 obtain⟨e1,e2,e3,e4⟩:=(z2o hi h.ft).2.2 (z8f (by omega))
 have e3:=e3 (by omega)
 obtain⟨w1,w2,w3,w4,w5⟩:=hw
 have ep:(GV.mk v.n v.s x [w] v.y v.ks (b:Int)).pv= .mk 0 (mkS []) [w.pv] [] b:=by rw[GV.pv,e1,e2,e3,GV.pvs,GV.pvs]
 have hd:=z4s h.d5
 have:=z3c (d+1)
 unfold z0i
 rw[ep,z2y,kzs,ms0,z41]
 exact⟨h.ls.symm,⟨by omega,w2.2⟩,z38 (by decide) (by rw[ms0];decide) (by show 1<=1000;decide) (by decide) (λk hk=>by cases hk) (λu hu=>by simp at hu;subst hu;exact w3),by omega,λ_=>zc1 hi hk hb (by rw[z3t hb];exact w5 rfl)⟩
theorem j9u(h:AvH S i hi v d) (hk:S[i].k=9) {fs:List GV} {x:SV} {j:Nat} (hj:S[i].fs.length<=j) (hI:reI S S[i] L d n j n' (GV.pvs fs)):z0i S i d L n (.mk v.n v.s x fs v.y v.ks v.b) true n':=by
 obtain⟨e1,e2,e3,e4⟩:=(z2o hi h.ft).2.2 (z8f (by omega))
 have e3:=e3 (by omega)
 have e4:=e4 (by omega)
 obtain⟨⟨l1,l2⟩,l3,l4,l5,l6⟩:=hI
 have hf:=(h.hS.2 S[i] (List.getElem_mem hi)).2.2.2.2.2.2.2.1
 have ep:(GV.mk v.n v.s x fs v.y v.ks v.b).pv= .mk 0 (mkS []) (GV.pvs fs) [] 0:=by rw[GV.pv,e1,e2,e3,e4]
 have hd:=z4s h.d5
 have:=z3c (d+1)
 have hm:(GV.pvs fs).length*avW (d+1)<=30*avW (d+1):=Nat.mul_le_mul_right _ (by omega)
 unfold z0i
 rw[ep,z2y,kzs,ms0]
 exact⟨h.ls.symm,l3,z38 (by decide) (by rw[ms0];decide) (by omega) (by decide) (λk hk=>by cases hk) l5,by omega,λ_=>zc0 hi hk (by omega) l4⟩
theorem j10(h:AvH S i hi v d) (hk:S[i].k=12) {fs:List GV} {x:SV} {m:Int} (hI:arI S S[i] L d n m n' (GV.pvs fs)):z0i S i d L n (.mk v.n v.s x fs v.y v.ks v.b) true n':=by
 obtain⟨e1,e2,e3,e4⟩:=(z2o hi h.ft).2.2 (z8f (by omega))
 have e3:=e3 (by omega)
 have e4:=e4 (by omega)
 obtain⟨⟨l1,l2⟩,l3,l4,l5⟩:=hI
 have ep:(GV.mk v.n v.s x fs v.y v.ks v.b).pv= .mk 0 (mkS []) (GV.pvs fs) [] 0:=by rw[GV.pv,e1,e2,e3,e4]
 have hd:=z4s h.d5
 have:=z3c (d+1)
 have hm:(GV.pvs fs).length*avW (d+1)<=3*avW (d+1):=Nat.mul_le_mul_right _ (by omega)
 unfold z0i
 rw[ep,z2y,kzs,ms0]
 exact⟨h.ls.symm,l3,z38 (by decide) (by rw[ms0];decide) (by omega) (by decide) (λk hk=>by cases hk) (λu hu=>(l4 u hu).2),by omega,λ_=>zbx hi hk λu hu=>(l4 u hu).1⟩
theorem j11(h:AvH S i hi v d) (hk:S[i].k=13) {u:GV} {m:Int} (hI:maI S S[i] L d n m n' u):z0i S i d L n u true n':=by
 obtain⟨⟨l1,l2⟩,l3,⟨e1,e2,e4⟩,⟨l4,l5⟩,l6,l7,l8,l9⟩:=hI
 have ep:u.pv= .mk 0 (mkS []) (GV.pvs u.l) u.ks 0:=by rw[GV.pv_eq,e1,e2,e4]
 have hd:=z4s h.d5
 have:=z3c (d+1)
 have hm:(3- m)*((avW (d+1):Int)+12)<=3*((avW (d+1):Int)+12):=Int.mul_le_mul_of_nonneg_right (by omega) (by omega)
 have hl:=GV.pvs_len u.l
 unfold z0i
 rw[ep,z2y,ms0]
 exact⟨h.ls.symm,l3,z38 (by decide) (by rw[ms0];decide) (by omega) (by omega) (λk hk=>by have:=l8 k hk;omega) (λu hu=>(l7 u hu).2),by omega,λ_=>zbz hi hk (by omega) l6 λu hu=>(l7 u hu).1⟩
variable {a:AT} {fs:List GV}
theorem znc{j:Nat} {n1 n2:Int} (hj:j<a.fs.length) (hI:reI S a L d n j n1 (GV.pvs fs)) {w:GV} {b:Bool} (hb:lsB S (a.fs[j]).ty=true) (hw:z0i S (a.fs[j]).ty (d+1) L n1 w b n2):reI S a L d n (j+1) n2 (GV.pvs (fs++[w])):=by
 obtain⟨⟨l1,l2⟩,l3,l4,l5,l6⟩:=hI
 obtain⟨w1,w2,w3,w4,w5⟩:=hw
 rw[z3j]
 refine⟨⟨by simp[l1],by omega⟩,⟨by omega,w2.2⟩,λk h1 h2=> ?_,λu hu=> ?_,?_⟩
 ·by_cases hk:k<(GV.pvs fs).length
  ·rw[List.getElem_append_left hk];exact l4 k hk h2
  ·obtain rfl:k=j:=by simp at h1;omega
   rw[List.getElem_append_right (by omega)]
   simp only[l1,Nat.sub_self,List.getElem_cons_zero];exact w5 (w1.trans hb)
 ·rcases List.mem_append.1 hu with hu|hu
  ·exact l5 u hu
  ·simp at hu;subst hu;exact w3
 ·rw[z2m,z41,List.length_append,Nat.add_mul]
  show _<=_+1*_
  omega
theorem zlg{m n1 n2:Int} (hm:0<m) (hI:arI S a L d n m n1 (GV.pvs fs)) {w:GV} (hw:z0i S a.it (d+1) L n1 w true n2):arI S a L d n (m- 1) n2 (GV.pvs (fs++[w])):=by
 obtain⟨⟨l1,l2⟩,l3,l4,l5⟩:=hI
 obtain⟨w1,w2,w3,w4,w5⟩:=hw
 rw[z3j]
 refine⟨⟨by omega,by rw[List.length_append,List.length_singleton];omega⟩,⟨by omega,w2.2⟩,λu hu=> ?_,?_⟩
 ·rcases List.mem_append.1 hu with hu|hu
  ·exact l4 u hu
  ·simp at hu;subst hu;exact⟨w5 rfl,w3⟩
 ·rw[z2m,z41,List.length_append,Nat.add_mul]
  show _<=_+1*_
  omega
theorem ztk{m n1 n2 n3:Int} {u z:GV} (hm:0<m) (hI:maI S a L d n m n1 u) {w:GV} {k:ByteArray} (hk:vld k=true) (hks:k.size=2) (hw:z0i S a.it (d+1) L n1 w true n2) (hn3:n2<=n3/\n3<=L.length) (hz:z.pv= .mk u.n u.s (z97 k u.ks (GV.pvs u.l) w.pv) (qad k u.ks) u.b):maI S a L d n (m- 1) n3 z:=by
 obtain⟨⟨l1,l2⟩,l3,⟨e1,e2,e4⟩,⟨l4,l5⟩,l6,l7,l8,l9⟩:=hI
 obtain⟨w1,w2,w3,w4,w5⟩:=hw
 rw[GV.pv_eq]at hz
 injection hz with z1 z2 z3 z4 z5
 have hpl:=zhn k u.ks (GV.pvs u.l) w.pv (by rw[GV.pvs_len];exact l4)
 rw[←z3,←z4,GV.pvs_len,GV.pvs_len]at hpl
 have hkz:=zu5 (k:=k) (ks:=u.ks)
 have hwz:=zu7 (k:=k) (ks:=u.ks) (l:=GV.pvs u.l) (w:=w.pv)
 rw[←z3]at hwz
 rw[←z4]at hkz
 have hmul:(3- (m- 1))*((avW (d+1):Int)+12)=(3- m)*((avW (d+1):Int)+12)+((avW (d+1):Int)+12):=by rw[show 3- (m- 1)=(3- m)+1 by omega,Int.add_mul,Int.one_mul]
 refine⟨⟨by omega,by omega⟩,⟨by omega,hn3.2⟩,⟨z1.trans e1,z2.trans e2,z5.trans e4⟩,⟨hpl.1,by omega⟩,by rw[z4];exact zc5 hk l6,λy hy=> ?_,λy hy=> ?_,by rw[hmul];omega⟩
 ·rw[z3]at hy
  rcases znb hy with rfl|hy
  ·exact⟨w5 rfl,w3⟩
  ·exact l7 y hy
 ·rw[z4]at hy
  rcases zna hy with rfl|hy
  ·omega
  ·exact l8 y hy
end
theorem zc7(M:List Int) {r:Nat} (h:r<M.length):∀(j:Nat) v,[Value.int .u64 (M.getD r 0)][j]? =some v->(M.map (Value.int .u64))[0+r*1+j]? =some v:=λj v hj=>by
  cases j with
  |succ j=>simp at hj
  | zero=>
    rw[Nat.zero_add,Nat.mul_one,Nat.add_zero,List.getElem?_map,List.getElem?_eq_getElem h,←hj,z3t h];rfl
theorem zc8{M:List Int} {p:Int->Prop} (hp:∀x∈M,p x) {r:Nat} (h:r<M.length):p (M.getD r 0):=hp _ (z3e h)
theorem zrn(M:List ByteArray) {r:Nat} (h:r<M.length):∀(j:Nat) v,[Value.string (M.getD r (mkS []))][j]? =some v->(M.map Value.string)[0+r*1+j]? =some v:=λj v hj=>by
  cases j with
  |succ j=>simp at hj
  | zero=>
    rw[Nat.zero_add,Nat.mul_one,Nat.add_zero,List.getElem?_map,List.getElem?_eq_getElem h,←hj,List.getD_eq_getElem?_getD,List.getElem?_eq_getElem h];rfl
theorem zrm{M:List ByteArray} {p:ByteArray->Prop} (hp:∀x∈M,p x) {r:Nat} (h:r<M.length):p (M.getD r (mkS [])):=hp _ (by rw[List.getD_eq_getElem?_getD,List.getElem?_eq_getElem h];exact List.getElem_mem h)
theorem z2i{q:Pub} {v:GV} (h:v.ok q) (N:Int) (s:ByteArray) (b:Int):(GV.mk N s v.x v.l v.y v.ks b).ok q:=by
 rw[GV.ok_eq]at h;unfold GV.ok;exact h
end
def zli(c:Nat) (ha:q1u P 14 ((z3r zff).below z9s c)):q1u P 14 ((z3r j8x).below z9s (c+1)):=by
 refine qjr mixed (qdh (qh9 z6c (qh9 z9u qk5))) (qe7 (qh8 ha (qh8 z8g (qh8 zcg qk4)))) (W:=znx false) Try.func14 (by kernel_rfl) (show 1<=2 by decide) (show 2<=2 by decide) (λs=>by kernel_rfl) λ⟨S,(x:SV),(t:Int),(d:Int),(y:SV),L,(n:Int)⟩=>(zlh c S x t d y L n).mpr ?_
 rintro⟨hmu,hS,ht,hkap,⟨hd0,hd6⟩,hn0,hn1,hL⟩ ⟨p,_,hx,hy⟩
 have hmu:(10- d).toNat<c+1:=hmu
 obtain⟨i,hi,rfl⟩:=z12 ht
 have hkap:S[i].k≠12:=by have:=hkap;unfold j8x at this;rw[z0v hi]at this;exact this
 have sl:x.2.1=S.length:=hx.1.1
 have hat:=λq (hq:z05 S x q)=>z2d hq hi
 have hao:=λq (hq:z05 S x q)=>hq.2 S[i] (List.getElem_mem hi)
 have hg:=hS.2 S[i] (List.getElem_mem hi)
 have h60:=hS.1
 obtain⟨_,syl,fl,bl⟩:=z1f (hao p hx)
 have hkk:=hg.1
 have hit:=hg.2.1
 have hbr:=hg.2.2.1
 have hne:=hg.2.2.2.1
 have hfr:=λf (hf:f∈S[i].fs)=>(hg.2.2.2.2.1 f hf).1
 have hsy:=hg.2.2.2.2.2.1
 have hf30:=hg.2.2.2.2.2.2.2.1
 have hb30:=hg.2.2.2.2.2.2.2.2.1
 have hs30:=hg.2.2.2.2.2.2.2.2.2
 clear hg
 have hLl:=hL.1
 have nb:=z1a hn1
 have nr:=λ(m:Int) (h:0<m)=>z16 (n:=n) (m:=m) hL h
 have ix:∀{m:Int} (h:0<m),∃r:Nat,(r:Int)<m/\z0h L n m=r:=λ{m} h=>by
  obtain⟨r,hr⟩:=Int.eq_ofNat_of_zero_le (nr m h).1
  exact⟨r,by have:=(nr m h).2;omega,hr⟩
 simp only[sbS,exists_const,forall_const,Int.toNat_natCast,sl,z0v hi]
 refine⟨⟨S,x,(i:Int)⟩,rfl,sl,rfl,rfl,hS,λq hq=>hq.1,?_⟩
 rintro⟨v,bb⟩ ⟨hb,vsn,vwt,vf⟩ ⟨p1,⟨hx1,hy1⟩,hv⟩
 simp only at hb vsn vwt vf hv⊢
 have fin0:∃b:AvB,b.1.n=v.n/\b.1.s=v.s/\b.1.x.1=v.x.1/\b.1.x.2.1=v.x.2.1/\b.1.x.2.2=v.x.2.2/\b.1.y.1=v.y.1/\b.1.y.2.1=v.y.2.1/\b.1.y.2.2=v.y.2.2/\b.1.b=v.b/\b.2.1=bb/\b.2.2=n/\z0i S i d L n b.1 b.2.1 b.2.2/\∀q,(z05 S x q/\slP byV y L q)/\v.ok q->b.1.ok q:=⟨⟨v,bb,n⟩,rfl,rfl,rfl,rfl,rfl,rfl,rfl,rfl,rfl,rfl,rfl,⟨hb,⟨Int.le_refl _,hn1⟩,vsn,Nat.le_trans vwt (z3c d),vf.1⟩,λq hq=>hq.2⟩
 refine⟨λ_=>fin0,λhbt=>⟨λ_=>fin0,λhd5=>⟨L,λq hq=>hq.1.2,λ_=>fin0,λhov=> ?_⟩⟩⟩
 obtain rfl:bb=true:=hbt
 have vft:=vf.1 rfl
 have vnl:S[i].k=12\/S[i].k=13->v.l=[]:=λh=>by have:=vf.2 (.inr (by rw[z0v hi];exact h));rw[this];rfl
 have H:AvH S i hi v d:=⟨hS,hb.symm,vft,vsn,vwt,vnl,by omega⟩
 clear fin0 vf
 have hpp:(z05 S x p1/\slP byV y L p1)/\v.ok p1:=⟨⟨hx1,hy1⟩,hv⟩
 have nn:n<=z09 L n/\z09 L n<=L.length:=⟨nb.1,nb.2.1⟩
 refine⟨⟨by omega,by omega⟩,(hat p1 hx1).1,S[i].k,S[i].nm,S[i].al.1,S[i].al.2.1,S[i].al.2.2,S[i].it,S[i].sy.1,S[i].sy.2.1,S[i].sy.2.2,S[i].hd,S[i].df,S[i].sz,S[i].f.1,S[i].f.2.1,S[i].f.2.2,S[i].br.1,S[i].br.2.1,S[i].br.2.2,λq hq=>(hat q hq.1.1).2,λk2=> ?_,λk2=>⟨λk3=> ?_,λk3=>⟨λk4=> ?_,λk4=>⟨λk5=> ?_,λk5=>⟨λk6=> ?_,λk6=>⟨λk8=> ?_,λk8=>⟨λk7=> ?_,λk7=>⟨λk10=> ?_,λk10=>⟨λk14=> ?_,λk14=>⟨λk9=> ?_,λk9=> ?_⟩⟩⟩⟩⟩⟩⟩⟩⟩⟩
 ·obtain⟨r,hr,e⟩:=ix (m:=2) (by decide)
  have w:IntKind.wrap .u64 (r:Int)=r:=by rw[zo4];omega
  exact⟨L,⟨hn0,hn1,by decide,by decide,hL⟩,λq hq=>hq.1.2,⟨.mk r v.s v.x v.l v.y v.ks v.b,true,z09 L n⟩,by rw[e,w];rfl,rfl,rfl,rfl,rfl,rfl,rfl,rfl,rfl,rfl,rfl,avN H nn (by unfold isN;exact decide_eq_true (by omega)) (by omega) (by unfold okN;rw[if_neg (by omega),if_pos k2];exact decide_eq_true (by omega)),λq hq=>z2i hq.2 _ _ _⟩
 ·obtain⟨r,hr,e⟩:=ix (m:=7) (by decide)
  have hz:=zc8 (M:=[0,1,18446744073709551615,300,2147483647,18446744071562067968,16777217]) (p:=λx=>(0<=x/\x<18446744073709551616)/\(x<2147483648\/18446744071562067968<=x)) (by decide) (r:=r) (by simp;omega)
  refine⟨L,?_⟩
  rw[e]
  exact⟨⟨hn0,hn1,by decide,by decide,hL⟩,λq hq=>hq.1.2,⟨by omega,hr⟩,_,zc7 [0,1,18446744073709551615,300,2147483647,18446744071562067968,16777217] (r:=r) (by simp;omega),⟨.mk _ v.s v.x v.l v.y v.ks v.b,true,z09 L n⟩,rfl,rfl,rfl,rfl,rfl,rfl,rfl,rfl,rfl,rfl,rfl,avN H nn (by unfold isN;exact decide_eq_true (by omega)) hz.1 (by unfold okN;rw[if_neg (by omega),if_neg (by omega),if_pos k3];exact decide_eq_true hz.2),λq hq=>z2i hq.2 _ _ _⟩
 ·obtain⟨r,hr,e⟩:=ix (m:=7) (by decide)
  have hz:=zc8 (M:=[0,1,18446744073709551615,1099511627776,9223372036854775807,9223372036854775808,9007199254740993]) (p:=λx=>(0<=x/\x<18446744073709551616)) (by decide) (r:=r) (by simp;omega)
  refine⟨L,?_⟩
  rw[e]
  exact⟨⟨hn0,hn1,by decide,by decide,hL⟩,λq hq=>hq.1.2,⟨by omega,hr⟩,_,zc7 [0,1,18446744073709551615,1099511627776,9223372036854775807,9223372036854775808,9007199254740993] (r:=r) (by simp;omega),⟨.mk _ v.s v.x v.l v.y v.ks v.b,true,z09 L n⟩,rfl,rfl,rfl,rfl,rfl,rfl,rfl,rfl,rfl,rfl,rfl,avN H nn (by unfold isN;exact decide_eq_true (by omega)) hz (by unfold okN;rw[if_neg (by omega),if_neg (by omega),if_neg (by omega),if_neg (by omega),if_neg (by omega)]),λq hq=>z2i hq.2 _ _ _⟩
 ·obtain⟨r,hr,e⟩:=ix (m:=7) (by decide)
  have hz:=zc8 (M:=[0,1065353216,2139095040,1,3212836864,2143289345,2147483648]) (p:=λx=>(0<=x/\x<18446744073709551616)/\x<4294967296) (by decide) (r:=r) (by simp;omega)
  refine⟨L,?_⟩
  rw[e]
  exact⟨⟨hn0,hn1,by decide,by decide,hL⟩,λq hq=>hq.1.2,⟨by omega,hr⟩,_,zc7 [0,1065353216,2139095040,1,3212836864,2143289345,2147483648] (r:=r) (by simp;omega),⟨.mk _ v.s v.x v.l v.y v.ks v.b,true,z09 L n⟩,rfl,rfl,rfl,rfl,rfl,rfl,rfl,rfl,rfl,rfl,rfl,avN H nn (by unfold isN;exact decide_eq_true (by omega)) hz.1 (by unfold okN;rw[if_neg (by omega),if_neg (by omega),if_neg (by omega),if_pos k5];exact decide_eq_true hz.2),λq hq=>z2i hq.2 _ _ _⟩
 ·obtain⟨r,hr,e⟩:=ix (m:=5) (by decide)
  have hz:=zc8 (M:=[0,4607182418800017408,1,9223372036854775808,9218868437227405312]) (p:=λx=>(0<=x/\x<18446744073709551616)) (by decide) (r:=r) (by simp;omega)
  refine⟨L,?_⟩
  rw[e]
  exact⟨⟨hn0,hn1,by decide,by decide,hL⟩,λq hq=>hq.1.2,⟨by omega,hr⟩,_,zc7 [0,4607182418800017408,1,9223372036854775808,9218868437227405312] (r:=r) (by simp;omega),⟨.mk _ v.s v.x v.l v.y v.ks v.b,true,z09 L n⟩,rfl,rfl,rfl,rfl,rfl,rfl,rfl,rfl,rfl,rfl,rfl,avN H nn (by unfold isN;exact decide_eq_true (by omega)) hz (by unfold okN;rw[if_neg (by omega),if_neg (by omega),if_neg (by omega),if_neg (by omega),if_neg (by omega)]),λq hq=>z2i hq.2 _ _ _⟩
 ·obtain⟨r,hr,e⟩:=ix (m:=4) (by decide)
  have hz:=zrm (M:=[mkS [],mkS [97],mkS [195,164],mkS [116,101,120,116]]) (p:=λx=>x.size<=1000/\vld x=true) (by decide+kernel) (r:=r) (by simp;omega)
  refine⟨L,?_⟩
  rw[e]
  exact⟨⟨hn0,hn1,by decide,by decide,hL⟩,λq hq=>hq.1.2,⟨by omega,hr⟩,_,zrn [mkS [],mkS [97],mkS [195,164],mkS [116,101,120,116]] (r:=r) (by simp;omega),⟨.mk v.n _ v.x v.l v.y v.ks v.b,true,z09 L n⟩,rfl,rfl,rfl,rfl,rfl,rfl,rfl,rfl,rfl,rfl,rfl,avT H nn (by unfold isT;exact decide_eq_true (by omega)) hz.1 (by unfold okT;rw[if_pos k8];exact hz.2),λq hq=>z2i hq.2 _ _ _⟩
 ·obtain⟨r,hr,e⟩:=ix (m:=4) (by decide)
  have hz:=zrm (M:=[mkS [],mkS [255],mkS [0],mkS [98]]) (p:=λx=>x.size<=1000) (by decide+kernel) (r:=r) (by simp;omega)
  refine⟨L,?_⟩
  rw[e]
  exact⟨⟨hn0,hn1,by decide,by decide,hL⟩,λq hq=>hq.1.2,⟨by omega,hr⟩,_,zrn [mkS [],mkS [255],mkS [0],mkS [98]] (r:=r) (by simp;omega),⟨.mk v.n _ v.x v.l v.y v.ks v.b,true,z09 L n⟩,rfl,rfl,rfl,rfl,rfl,rfl,rfl,rfl,rfl,rfl,rfl,avT H nn (by unfold isT;exact decide_eq_true (by omega)) hz (by unfold okT;rw[if_neg (by omega),if_neg (by omega)]),λq hq=>z2i hq.2 _ _ _⟩
 ·have hsp:=List.length_pos_iff.2 (hsy k10)
  rw[syl]
  obtain⟨r,hr,e⟩:=ix (m:=S[i].sys.length) (by omega)
  have w:IntKind.wrap .u64 (r:Int)=r:=by rw[zo4];omega
  exact⟨L,⟨hn0,hn1,by omega,by omega,hL⟩,λq hq=>hq.1.2,⟨.mk r v.s v.x v.l v.y v.ks v.b,true,z09 L n⟩,by rw[e,w];rfl,rfl,rfl,rfl,rfl,rfl,rfl,rfl,rfl,rfl,rfl,avN H nn (by unfold isN;exact decide_eq_true (by omega)) (by omega) (by unfold okN;rw[if_neg (by omega),if_neg (by omega),if_neg (by omega),if_neg (by omega),if_pos k10];exact decide_eq_true (by omega)),λq hq=>z2i hq.2 _ _ _⟩
 ·have hbp:=List.length_pos_iff.2 (hne k14)
  rw[bl]
  obtain⟨r,hr,e⟩:=ix (m:=S[i].brs.length) (by omega)
  have hrl:r<S[i].brs.length:=by omega
  have bat:=λq hq=>z1u (hao q hq) hrl
  have bin:=hbr _ (List.getElem_mem hrl)
  have hun:=λw x m n' hm (hw:z0i S S[i].brs[r] (d+1) L m w true n')=>j9v (n:=n) H k14 hrl (w:=w) (x:=x) (m:=m) (n':=n') hm hw
  generalize S[i].brs[r]=bt at*
  refine⟨L,⟨hn0,hn1,by omega,by omega,hL⟩,λq hq=>hq.1.2,?_⟩
  rw[e]
  simp only[Int.toNat_natCast]
  refine⟨?xa,?xb⟩
  case xa|xb=>
   refine⟨⟨by omega,by omega⟩,(bat p1 hx1).1,bt,λq hq=>(bat q hq.1.1).2,⟨by omega,by omega⟩,⟨S,x,bt,d+1,y,L,z09 L n⟩,rfl,sl,rfl,rfl,rfl,rfl,rfl,rfl,rfl,⟨by show(10- (d+1)).toNat<c;omega,hS,bin,trivial,⟨by show 0<=d+1;omega,by show d+1<=6;omega⟩,by show 0<=z09 L n;omega,nn.2,hL⟩,λq hq=>hq.1,?_⟩
   rintro⟨w,b2,n2⟩ hw _
   have hw:z0i S bt (d+1) L (z09 L n) w b2 n2:=hw
   simp only
   refine⟨λhb2 b s _=>⟨⟨.mk v.n v.s (some ⟨b,s+0,none⟩,1,1) [w] v.y v.ks r,true,n2⟩,rfl,rfl,rfl,rfl,rfl,rfl,rfl,rfl,rfl,rfl,trivial,trivial,trivial,rfl,?_,λq hq=> ?_⟩,λhb2=>⟨⟨v,true,n2⟩,rfl,rfl,rfl,rfl,rfl,rfl,rfl,rfl,rfl,rfl,trivial,trivial,trivial,rfl,zr9 H ⟨by have:=hw.2.1.1;show n<=n2;omega,hw.2.1.2⟩,λq hq=>hq.1.2⟩⟩
   ·subst hb2;exact hun w _ _ n2 nn.1 hw
   ·have hvo:=hq.1.1.2
    rw[GV.ok_eq]at hvo
    unfold GV.ok
    exact⟨⟨rfl,Nat.le_refl _, .inr ⟨_,rfl,rfl,hq.2⟩⟩,hvo.2.1,z2j hq.1.2⟩
 ·refine⟨⟨⟨0,n,[]⟩,rfl,rfl,rfl,λq hq=>GV.oks_iff.2 λv h=>(by cases h),⟨rfl,Nat.zero_le _⟩,⟨Int.le_refl _,hn1⟩,λk h1 h2=>absurd h1 (by rw[GV.pvs];simp),λv hv=>(by rw[GV.pvs]at hv;cases hv),by rw[GV.pvs,PV.wts];exact Nat.zero_le _⟩,?_⟩
  rintro⟨j,n1,fs⟩ hI ⟨p2,hp2,hfs⟩
  have hI:reI S S[i] L d n j n1 (GV.pvs fs):=hI
  simp only at hfs⊢
  have l1:fs.length=j:=by rw[←GV.pvs_len];exact hI.1.1
  have l2:=hI.1.2
  have l3:=hI.2.1
  have hfl:=z9q hS hi k9 hb.symm
  refine⟨λhlt=>⟨?xc,?xd⟩,λhge a cc _=>⟨⟨.mk v.n v.s (a,fs.length,cc) fs v.y v.ks v.b,true,n1⟩,rfl,rfl,rfl,rfl,rfl,rfl,rfl,rfl,rfl,rfl,rfl,j9u H k9 (by omega) hI,λq hq=> ?_⟩⟩
  case xc|xd=>
   have hjl:j<S[i].fs.length:=by omega
   have bat:=λq hq=>z8d (hao q hq) hjl
   have bne:=(z1y (hao p1 hx1) hjl).1
   have bin:=hfr _ (List.getElem_mem hjl)
   have bls:=hfl.2 _ (List.getElem_mem hjl)
   have hsn:=λw n2 b hw=>znc hjl hI (w:=w) (n2:=n2) (b:=b) bls hw
   generalize S[i].fs[j]=f at*
   refine⟨⟨by omega,by omega⟩,bne,f.ty,λq hq=>bat q hq.1.1.1,⟨by omega,by omega⟩,⟨S,x,f.ty,d+1,y,L,n1⟩,rfl,sl,rfl,rfl,rfl,rfl,rfl,rfl,rfl,⟨by show(10- (d+1)).toNat<c;omega,hS,bin,trivial,⟨by show 0<=d+1;omega,by show d+1<=6;omega⟩,by show 0<=n1;omega,l3.2,hL⟩,λq hq=>hq.1.1,?_⟩
   rintro⟨w,b2,n2⟩ hw _
   have hw:z0i S f.ty (d+1) L n1 w b2 n2:=hw
   simp only
   exact⟨z01 z0o fs,by omega,⟨by omega,by omega⟩,⟨j+1,n2,fs++[w]⟩,by show((j+1:Nat):Int)=_;omega,trivial,trivial,trivial,rfl,by simp,by rw[z07];rfl,λq hq=>hq.1.1,λq hq=>z54 hq.1.2 (z2j hq.2),hsn w n2 b2 hw,by show _- (j+1)<_;omega⟩
  ·have h2:=hq.2.2
   rw[List.take_of_length_le (by rw[z01 z0o];exact Nat.le_refl _)]at h2
   have hvo:=hq.1.1.2
   rw[GV.ok_eq]at hvo
   unfold GV.ok
   exact⟨⟨rfl,hq.2.1,h2⟩,hvo.2.1,hq.1.2⟩
 ·refine⟨⟨λh=>absurd h hkap,λh=> ?_⟩,λham=> ?_,λham=> ?_⟩
  ·unfold zdo;exact z08 ⟨λg=>by omega,λg=> .inr g⟩
  ·have k13:S[i].k=13:=by unfold zdo at ham;have:=of_decide_eq_true ham;omega
   have vl0:=vnl (.inr k13)
   obtain⟨e1,e2,_,e4⟩:=(z2o hi vft).2.2 (z8f (by omega))
   have e4:=e4 (by omega)
   have vk0:v.ks=[]:=by
    have:=hv;rw[GV.ok_eq]at this
    have hh:=vft
    rw[GV.pv_eq,PV.fits,if_neg (by omega)]at hh
    simp only[Int.toNat_natCast,List.getElem?_eq_getElem hi,GV.pvs_len]at hh
    rw[if_neg (by unfold isN;rw[decide_eq_false (by omega)];decide),if_neg (by unfold isT;rw[decide_eq_false (by omega)];decide),if_pos (z8f (by omega))]at hh
    simp only[Bool.and_eq_true]at hh
    have ho:=hh.1.1.1
    unfold okP at ho
    rw[if_neg (by omega),if_neg (by omega),if_neg (by omega),if_pos k13,Bool.and_eq_true,decide_eq_true_eq,vl0]at ho
    exact List.length_eq_zero_iff.1 ho.1.symm
   obtain⟨r,hr,e⟩:=ix (m:=4) (by decide)
   refine⟨L,⟨hn0,hn1,by decide,by decide,hL⟩,λq hq=>hq.1.2,⟨⟨r,z09 L n,v⟩,e.symm,rfl,rfl,rfl,rfl,rfl,rfl,rfl,rfl,rfl,rfl,λq hq=>hq.2,⟨⟨by show(0:Int)<=r;omega,by show(r:Int)<=3;omega⟩,nn,⟨e1,e2,e4⟩,⟨by rw[vk0,vl0];rfl,by rw[vl0];show(0:Int)<=3- r;omega⟩,by rw[vk0];rfl,λw hw=>(by rw[vl0,GV.pvs]at hw;cases hw),λk hk=>(by rw[vk0]at hk;cases hk),?_⟩⟩,?_⟩
   ·rw[vk0,vl0,GV.pvs,PV.wts,kzs]
    have:0<=(3- (r:Int))*((avW (d+1):Int)+12):=Int.mul_nonneg (by omega) (by omega)
    exact this
   rintro⟨m,n1,u⟩ hI ⟨p2,hp2,hu⟩
   have hI:maI S S[i] L d n m n1 u:=hI
   simp only at hu⊢
   have hI1:=hI.1
   have hI2:=hI.2.1
   have hI4:=hI.2.2.2.1
   have tin:=hit (.inr k13)
   refine⟨λhpos=> ?_,λhneg=>⟨⟨u,true,n1⟩,rfl,rfl,rfl,rfl,rfl,rfl,rfl,rfl,rfl,rfl,rfl,j11 H k13 hI,λq hq=>hq.2⟩⟩
   refine⟨⟨by omega,by omega⟩,⟨S,x,S[i].it,d+1,y,L,n1⟩,rfl,sl,rfl,rfl,rfl,rfl,rfl,rfl,rfl,⟨by show(10- (d+1)).toNat<c;omega,hS,tin,trivial,⟨by show 0<=d+1;omega,by show d+1<=6;omega⟩,by show 0<=n1;omega,hI2.2,hL⟩,λq hq=>hq.1.1,?_⟩
   rintro⟨w,b2,n2⟩ hw _
   have hw:z0i S S[i].it (d+1) L n1 w b2 n2:=hw
   simp only
   have hw1:=hw.2.1
   have e5:=z16 (n:=n2) (m:=5) hL (by decide)
   have n5:=z1a hw1.2
   refine⟨λhb2=>⟨⟨u,true,n2⟩,rfl,rfl,rfl,rfl,rfl,rfl,rfl,rfl,rfl,rfl,trivial,trivial,trivial,rfl,j11 (m:=m) H k13 ?_,λq hq=>hq.1.2⟩,λhb2=>⟨λh=>absurd h (by omega),λ_=> ?_⟩⟩
   ·obtain⟨a1,a2,a3⟩:=hI
    exact⟨a1,⟨by show n<=n2;omega,hw1.2⟩,a3⟩
   subst hb2
   obtain⟨z,hz⟩:=Int.eq_ofNat_of_zero_le e5.1
   have hz5:z<5:=by omega
   have w8:IntKind.wrap .u8 (97+(z:Int))=((97+z:Nat):Int):=by rw[z8q];omega
   have s1:(mkS [97+z]).size=1:=rfl
   have s2:(mkS [107]++mkS [97+z]).size=2:=by rw[ByteArray.size_append,s1];rfl
   have s0:(mkS [107]).size=1:=rfl
   refine⟨L,⟨by show 0<=n2;omega,hw1.2,by decide,by decide,hL⟩,λq hq=>hq.1.1.1.2,⟨by omega,by omega⟩,mkS [97+z],s1,λj a hj=> ?_,by omega,⟨u,mkS [107]++mkS [97+z],w⟩,rfl,rfl,rfl,rfl,rfl,rfl,rfl,rfl,rfl,rfl,rfl,rfl,rfl,rfl,rfl,rfl,rfl,rfl,rfl,⟨hI4.1,by show u.l.length<1000000;omega⟩,λq hq=>⟨hq.1.2,hq.2⟩,?_⟩
   ·rw[jc3 _ (by omega)]at hj;rw[hz,w8,Nat.zero_add];exact hj
   rintro g hg _
   have hg:g.pv=PV.mk u.n u.s (z97 (mkS [107]++mkS [97+z]) u.ks (GV.pvs u.l) w.pv) (qad (mkS [107]++mkS [97+z]) u.ks) u.b:=hg
   have hvk:vld (mkS [107]++mkS [97+z])=true:=by
    rcases(by omega:z=0\/z=1\/z=2\/z=3\/z=4)with rfl|rfl|rfl|rfl|rfl<;>decide+kernel
   exact⟨⟨by omega,by omega⟩,⟨m- 1,z09 L n2,g⟩,rfl,trivial,trivial,trivial,rfl,rfl,rfl,rfl,rfl,rfl,rfl,rfl,rfl,rfl,λq hq=>hq.1.1.1,λq hq=>hq.2,ztk hpos hI hvk s2 hw ⟨n5.1,n5.2.1⟩ hg,by show(m- 1).toNat<m.toNat;omega⟩
  ·exact⟨⟨v,true,n⟩,rfl,rfl,rfl,rfl,rfl,rfl,rfl,rfl,rfl,rfl,rfl,zr9 H ⟨Int.le_refl _,hn1⟩,λq hq=>hq.2⟩
def zlk(c:Nat) (ha:q1u P 14 ((z3r zff).below z9s c)):q1u P 14 ((z3r j8v).below z9s (c+1)):=by
 refine qjr mixed (qdh (qh9 z6c (qh9 z9u qk5))) (qe7 (qh8 ha (qh8 zh2 (qh8 zcg qk4)))) (W:=znx true) Try.func14 (by kernel_rfl) (show 1<=2 by decide) (show 2<=2 by decide) (λs=>by kernel_rfl) λ⟨S,(x:SV),(t:Int),(d:Int),(y:SV),L,(n:Int)⟩=>(zlj c S x t d y L n).mpr ?_
 rintro⟨hmu,hS,ht,hkap,⟨hd0,hd6⟩,hn0,hn1,hL⟩ ⟨p,_,hx,hy⟩
 have hmu:(10- d).toNat<c+1:=hmu
 obtain⟨i,hi,rfl⟩:=z12 ht
 have hkap:S[i].k=12:=by have:=hkap;unfold j8v at this;rw[z0v hi]at this;exact this
 have sl:x.2.1=S.length:=hx.1.1
 have hat:=λq (hq:z05 S x q)=>z2d hq hi
 have hao:=λq (hq:z05 S x q)=>hq.2 S[i] (List.getElem_mem hi)
 have hg:=hS.2 S[i] (List.getElem_mem hi)
 have h60:=hS.1
 obtain⟨_,syl,fl,bl⟩:=z1f (hao p hx)
 have hkk:=hg.1
 have hit:=hg.2.1
 have hbr:=hg.2.2.1
 have hne:=hg.2.2.2.1
 have hfr:=λf (hf:f∈S[i].fs)=>(hg.2.2.2.2.1 f hf).1
 have hsy:=hg.2.2.2.2.2.1
 have hf30:=hg.2.2.2.2.2.2.2.1
 have hb30:=hg.2.2.2.2.2.2.2.2.1
 have hs30:=hg.2.2.2.2.2.2.2.2.2
 clear hg
 have hLl:=hL.1
 have nb:=z1a hn1
 have nr:=λ(m:Int) (h:0<m)=>z16 (n:=n) (m:=m) hL h
 have ix:∀{m:Int} (h:0<m),∃r:Nat,(r:Int)<m/\z0h L n m=r:=λ{m} h=>by
  obtain⟨r,hr⟩:=Int.eq_ofNat_of_zero_le (nr m h).1
  exact⟨r,by have:=(nr m h).2;omega,hr⟩
 simp only[sbS,exists_const,forall_const,Int.toNat_natCast,sl,z0v hi]
 refine⟨⟨S,x,(i:Int)⟩,rfl,sl,rfl,rfl,⟨hS,by show(atS S (i:Int)).k=12;rw[z0v hi];exact hkap⟩,λq hq=>hq.1,?_⟩
 rintro bb hb ⟨p1,⟨hx1,hy1⟩,hv⟩
 simp only at hb
 have nn:n<=z09 L n/\z09 L n<=L.length:=⟨nb.1,nb.2.1⟩
 have zsn:zV.pv.sn:=by rw[z5d];exact z38 (by decide) (by rw[ms0];decide) (by decide) (by decide) (λk hk=>by cases hk) λv hv=>by cases hv
 have zwt:zV.pv.wt<=60000:=by rw[z5d,z2y,PV.wts,kzs,ms0];decide
 have zft:bb=true->PV.fits S i zV.pv=true:=λh=>(zc9 hS hi (hb.symm.trans h) (by omega) (by omega) (by omega)).1
 have fin0:∃b:AvB,b.1.n=0/\b.1.s=mkS []/\b.1.x.1=noA/\b.1.x.2.1=0/\b.1.x.2.2=0/\b.1.y.1=noA/\b.1.y.2.1=0/\b.1.y.2.2=0/\b.1.b=0/\b.2.1=bb/\b.2.2=n/\z0i S i d L n b.1 b.2.1 b.2.2/\∀q,(z05 S x q/\slP byV y L q)/\zV.ok q->b.1.ok q:=⟨⟨zV,bb,n⟩,rfl,rfl,rfl,rfl,rfl,rfl,rfl,rfl,rfl,rfl,rfl,⟨hb,⟨Int.le_refl _,hn1⟩,zsn,Nat.le_trans zwt (z3c d),zft⟩,λq _=>z3m q⟩
 refine⟨λ_=>fin0,λhbt=>⟨λ_=>fin0,λhd5=>⟨L,λq hq=>hq.1.2,λ_=>fin0,λhov=> ?_⟩⟩⟩
 clear fin0
 have H:AvH S i hi zV d:=⟨hS,hb.symm.trans hbt,zft hbt,zsn,zwt,λ_=>rfl,by omega⟩
 refine⟨⟨by omega,by omega⟩,(hat p1 hx1).1,S[i].k,S[i].nm,S[i].al.1,S[i].al.2.1,S[i].al.2.2,S[i].it,S[i].sy.1,S[i].sy.2.1,S[i].sy.2.2,S[i].hd,S[i].df,S[i].sz,S[i].f.1,S[i].f.2.1,S[i].f.2.2,S[i].br.1,S[i].br.2.1,S[i].br.2.2,λq hq=>(hat q hq.1.1).2,λk=>absurd hkap (by omega),λ_=>⟨λk=>absurd hkap (by omega),λ_=>⟨λk=>absurd hkap (by omega),λ_=>⟨λk=>absurd hkap (by omega),λ_=>⟨λk=>absurd hkap (by omega),λ_=>⟨λk=>absurd hkap (by omega),λ_=>⟨λk=>absurd hkap (by omega),λ_=>⟨λk=>absurd hkap (by omega),λ_=>⟨λk=>absurd hkap (by omega),λ_=>⟨λk=>absurd hkap (by omega),λ_=>⟨⟨λh=> ?_,λh=>absurd hkap h⟩,λham=> ?_,λham=> ?_⟩⟩⟩⟩⟩⟩⟩⟩⟩⟩⟩
 ·unfold zdo;exact z08 ⟨λg=>h,λg=> .inl g⟩
 ·obtain⟨r,hr,e⟩:=ix (m:=4) (by decide)
  have tin:=hit (.inl hkap)
  have gok:∀(q:Pub) (a:Option Addr) (cc:Nat) (fs:List GV),fs.length<=cc->qhc q a (List.take (fs.length*5) (z00 GV.cells fs))->GV.oks fs q->(GV.mk 0 (mkS []) (a,fs.length,cc) fs (none,0,0) [] 0).ok q:=λq a cc fs h1 h2 h3=>by
   rw[z6y]at h2
   unfold GV.ok
   exact⟨⟨rfl,h1,h2⟩,z06,h3⟩
  refine⟨L,⟨hn0,hn1,by decide,by decide,hL⟩,λq hq=>hq.1.2,⟨⟨r,z09 L n,[]⟩,e.symm,rfl,rfl,λq hq=>GV.oks_iff.2 λv h=>(by cases h),⟨⟨by show(0:Int)<=r;omega,by rw[GV.pvs];show(r:Int)+0<=3;omega⟩,nn,λw hw=>(by rw[GV.pvs]at hw;cases hw),by rw[GV.pvs,PV.wts];exact Nat.zero_le _⟩⟩,?_⟩
  rintro⟨m,n1,fs⟩ hI ⟨p2,hp2,hfs⟩
  have hI:arI S S[i] L d n m n1 (GV.pvs fs):=hI
  simp only at hfs⊢
  have hI1:=hI.1
  rw[GV.pvs_len]at hI1
  have hI2:=hI.2.1
  refine⟨λhpos=> ?_,λhneg a cc _=>⟨⟨.mk 0 (mkS []) (a,fs.length,cc) fs (none,0,0) [] 0,true,n1⟩,rfl,rfl,rfl,rfl,rfl,rfl,rfl,rfl,rfl,by simp[hbt],rfl,j10 H hkap hI,λq hq=>gok q a cc fs hq.2.1 hq.2.2 hq.1.2⟩⟩
  refine⟨⟨by omega,by omega⟩,⟨S,x,S[i].it,d+1,y,L,n1⟩,rfl,sl,rfl,rfl,rfl,rfl,rfl,rfl,rfl,⟨by show(10- (d+1)).toNat<c;omega,hS,tin,trivial,⟨by show 0<=d+1;omega,by show d+1<=6;omega⟩,by show 0<=n1;omega,hI2.2,hL⟩,λq hq=>hq.1.1,?_⟩
  rintro⟨w,b2,n2⟩ hw _
  have hw:z0i S S[i].it (d+1) L n1 w b2 n2:=hw
  simp only
  have hw1:=hw.2.1
  have hI3:arI S S[i] L d n m n2 (GV.pvs fs):=⟨hI.1,⟨by show n<=n2;omega,hw1.2⟩,hI.2.2⟩
  refine⟨λhb2 a cc _=>⟨⟨.mk 0 (mkS []) (a,fs.length,cc) fs (none,0,0) [] 0,true,n2⟩,rfl,rfl,rfl,rfl,rfl,rfl,rfl,rfl,rfl,by simp[hbt],trivial,trivial,trivial,rfl,j10 H hkap hI3,λq hq=>gok q a cc fs hq.2.1 hq.2.2 hq.1.1.2⟩,λhb2=>⟨λ_=> ?_,λh=>absurd hkap h⟩⟩
  subst hb2
  exact⟨z01 z0o fs,by omega,⟨by omega,by omega⟩,⟨m- 1,n2,fs++[w]⟩,rfl,trivial,trivial,trivial,rfl,by simp,by rw[z07];rfl,λq hq=>hq.1.1,λq hq=>z54 hq.1.2 (z2j hq.2),zlg hpos hI hw,by show(m- 1).toNat<m.toNat;omega⟩
 ·unfold zdo at ham;exact absurd (of_decide_eq_false ham) (λg=>g (.inl hkap))
def zll(c:Nat) (ha:q1u P 14 ((z3r zff).below z9s c)):q1u P 14 ((z3r zff).below z9s (c+1)):=by
 have hA:=zlk c ha
 have hM:=zli c ha
 refine⟨hA.1,hA.2.1,hA.2.2.1,λs=> ?_⟩
 obtain⟨h0,e0,rA⟩:=hA.2.2.2 s
 obtain⟨h1,e1,rM⟩:=hM.2.2.2 s
 have e:h1=h0:=Option.some.inj (e1.symm.trans e0)
 subst e
 refine⟨h1,e0,λF I w vs a1 a2 a3 a4 hp a5 a6 a7=> ?_⟩
 obtain⟨m,p1,p2,p3,p4⟩:=hp
 by_cases h:(atS s.1 s.2.2.1).k=12
 ·exact rA F I w vs a1 a2 a3 a4 ⟨m,p1,p2,h,p4⟩ a5 a6 a7
 ·exact rM F I w vs a1 a2 a3 a4 ⟨m,p1,p2,h,p4⟩ a5 a6 a7
def zbe:∀c,q1u P 14 ((z3r zff).below z9s c)
 |0=>CtR.below_zero (by decide) (by decide) (Sen.enters_of Try.func14 (by kernel_rfl)) λs=>rfl
 |c+1=>zll c (zbe c)
def zlm:q1u P 14 (z3r zff):=CtR.of_below zbe
def vz(n:Int):ByteArray:=⟨(Go.Proofs.Ytpanaicglidfjaa.Rv.venc (zg n)).toArray⟩
def fxB(n:Int):Nat->ByteArray
 |0=>mkS []
 |j+1=>fxB n j++mkS [((n / 2 ^ (8*j)) % 256).toNat]
def wrO(x:SV) (B:ByteArray) (r k:Nat):List (Nat×AO):=[(1, .cells 93 (some 0) false [svA x, .ssl r 0 B.size 1 k]),(r, .row 5 0 (q19 B))]
def zss:Ct where
 σ:=Int
 args:=λn=>[.sv (.int .u64 (n % 18446744073709551616))]
 h:=λ_=>[]
 m:=1
 pre:=λn=> -9223372036854775808<=n/\n<9223372036854775808
 r:=λn=> .sv (.int .u64 (zg n:Nat))
 h':=λ_=>[]
 m':=1
 g:=λ_=>none
def z89:Ct where
 σ:=SV×ByteArray×Int
 args:=λ⟨x,B,n⟩=>[.ptr 1 0, .sv (.int .i64 n)]
 h:=λ⟨x,B,n⟩=>wrO x B 2 3
 m:=4
 pre:=λ⟨x,B,n⟩=>B.size<140000000000000/\ -9223372036854775808<=n/\n<9223372036854775808
 r:=λ_=> .tup []
 h':=λ⟨x,B,n⟩=>wrO x (B++vz n) 4 5
 m':=6
 g:=λ_=>none
def z6l:Ct where
 σ:=SV×ByteArray×Int×Int
 args:=λ⟨x,B,n,k⟩=>[.ptr 1 0, .sv (.int .u64 n), .sv (.int .i64 k)]
 h:=λ⟨x,B,n,k⟩=>wrO x B 2 3
 m:=4
 pre:=λ⟨x,B,n,k⟩=>B.size<140000000000000/\0<=k/\k<=8/\0<=n/\n<18446744073709551616
 r:=λ_=> .tup []
 h':=λ⟨x,B,n,k⟩=>wrO x (B++fxB n k.toNat) 4 5
 m':=6
 g:=λ_=>none
def zin:z6l.σ->WayF:=λ⟨x,B,n,k⟩=>{
 ann:=λ_ _ _=>some {σ:=Nat,pre:=λj=>(j:Int)<=k,t:=λj=>[(8, .sv (.int .i64 (j:Int)))],h:=λj=>wrO x (B++fxB n j) 4 5,more:=2,μ:=λj=>k.toNat- j,keep:=[0,1,7],del:=[2]}}
def zbk:Ct where
 σ:=SV×ByteArray×ByteArray
 args:=λ⟨x,B,s⟩=>[.ptr 1 0, .sv (.string s)]
 h:=λ⟨x,B,s⟩=>wrO x B 2 3
 m:=4
 pre:=λ⟨x,B,s⟩=>B.size+s.size<130000000000000
 r:=λ_=> .tup []
 h':=λ⟨x,B,s⟩=>wrO x (B++vz s.size++s) 4 5
 m':=6
 g:=λ_=>none
def z3u(ks:List ByteArray) (i:Nat):ByteArray:=match ks[i]? with
 |some k=>vz k.size++k
 |none=>mkS []
mutual
def PV.enc(S:List AT) (t:Int):PV->ByteArray->Bool×ByteArray
  | .mk n s l ks b,B=>match S[t.toNat]? with
    |none=>(false,B)
    | some a=>
      let r:Bool×ByteArray:=
        if a.k=2 then(true,B++fxB n 1)else
        if a.k=3\/a.k=4\/a.k=10 then(true,B++vz (IntKind.wrap .i64 n))else
        if a.k=5 then(true,B++fxB n 4)else
        if a.k=6 then(true,B++fxB n 8)else
        if a.k=7\/a.k=8 then(true,B++vz s.size++s)else
        if a.k=11 then(true,B++s)else
        if a.k=14 then PV.encL S (z0c a b) ks 0 l (B++vz b)else
        if a.k=9 then PV.encL S (z0c a b) ks 0 l B else
        if a.k=12\/a.k=13 then
          let q:=PV.encL S (z0c a b) ks 0 l (if 0<l.length then B++vz l.length else B)
          if q.1=true then(true,q.2++vz 0)else q
        else(true,B)
      (r.1&&decide (r.2.size<=5000),r.2)
def PV.encL(S:List AT) (f:Nat->Int) (ks:List ByteArray) (i:Nat):List PV->ByteArray->Bool×ByteArray
 | [],B=>(true,B)
 |v::l,B=>if(PV.enc S (f i) v (B++z3u ks i)).1=true then PV.encL S f ks (i+1) l (PV.enc S (f i) v (B++z3u ks i)).2 else(false,(PV.enc S (f i) v (B++z3u ks i)).2)
end
abbrev EnS:=List AT×SV×ByteArray×Int×GV
def z1j:Ct where
 σ:=EnS
 args:=λ⟨S,x,B,t,v⟩=>[.ptr 1 0, .sv (.int .i64 t),v.av]
 h:=λ⟨S,x,B,t,v⟩=>wrO x B 2 3
 m:=4
 pre:=λ⟨S,x,B,t,v⟩=>small S/\v.pv.sz/\(B.size+v.pv.wt<100000000000000/\v.pv.wt<90000000000000)/\PV.fits S t v.pv=true
 mem:=λ⟨S,x,B,t,v⟩=>svM S x v
 r:=λ⟨S,x,B,t,v⟩=> .sv (.bool (PV.enc S t v.pv B).1)
 h':=λ⟨S,x,B,t,v⟩=>wrO x (PV.enc S t v.pv B).2 4 5
 m':=6
 g:=λ_=>none
def z5n(k:Int):Bool:=decide (k=3\/k=4\/k=10)
def z81(k:Int):Bool:=decide (k=7\/k=8)
def z80(k:Int):Bool:=decide (k=12\/k=13)
def ziy:EnS->WayF:=λ_=>{
 cut:=λi t _=>match i with
  |9=>swc z5n 25 18 [0,5,6,7,8,18] t
  |16=>swc z81 46 18 [0,5,6,7,8,18] t
  |26=>swc z80 89 18 [0,5,6,7,8,18] t
  |_=>none}
def zim:FtS->WayF:=λ_=>{pubE:=[34]}
abbrev EpS:=List AT×SV×ByteArray×AT×GV
def z4w:Ct where
 σ:=EpS
 args:=λ⟨S,x,B,a,v⟩=>[.ptr 1 0,a.av,v.av]
 h:=λ⟨S,x,B,a,v⟩=>wrO x B 2 3
 m:=4
 pre:=λ⟨S,x,B,a,v⟩=>small S/\v.pv.sz/\(B.size+v.pv.wt<100000000000000/\v.pv.wt<90000000000000)/\a.k=9/\v.l.length=a.fs.length/\v.ks=[]/\PV.fitL S (z0c a v.b) 0 (GV.pvs v.l)=true
 mem:=λ⟨S,x,B,a,v⟩=>j90 S x a v
 r:=λ⟨S,x,B,a,v⟩=> .sv (.bool (PV.encL S (z0c a v.b) v.ks 0 (GV.pvs v.l) B).1)
 h':=λ⟨S,x,B,a,v⟩=>wrO x (PV.encL S (z0c a v.b) v.ks 0 (GV.pvs v.l) B).2 4 5
 m':=6
 g:=λ_=>none
def zcy:EpS->WayF:=λ⟨S,x,B,a,v⟩=>{
 ann:=λ_ _ _=>some {σ:=Nat×ByteArray,pre:=λ⟨j,C⟩=>j<=a.fs.length/\(C.size<=5000\/C.size<=B.size)/\PV.fitL S (z0c a v.b) j ((GV.pvs v.l).drop j)=true/\PV.encL S (z0c a v.b) v.ks j ((GV.pvs v.l).drop j) C=PV.encL S (z0c a v.b) v.ks 0 (GV.pvs v.l) B,t:=λ⟨j,C⟩=>[(12, .sv (.int .i64 (j:Int)))],h:=λ⟨j,C⟩=>wrO x C 6 7,more:=2,μ:=λ⟨j,C⟩=>a.fs.length- j,keep:=[0,4,5,6,10,11],del:=[2]}}
def blB(l:Nat) (B:ByteArray):ByteArray:=if 0<l then B++vz l else B
def enB(S:List AT) (a:AT) (v:GV) (B:ByteArray):Bool×ByteArray:=
 let q:=PV.encL S (z0c a v.b) v.ks 0 (GV.pvs v.l) (blB v.l.length B)
 if q.1=true then(true,q.2++vz 0)else q
def z6h:Ct where
 σ:=EpS
 args:=λ⟨S,x,B,a,v⟩=>[.ptr 1 0,a.av,v.av]
 h:=λ⟨S,x,B,a,v⟩=>wrO x B 2 3
 m:=4
 pre:=λ⟨S,x,B,a,v⟩=>small S/\v.pv.sz/\(B.size+v.pv.wt<100000000000000/\v.pv.wt<90000000000000)/\(a.k=12/\v.ks=[]\/a.k=13/\v.ks.length=v.l.length)/\PV.fitL S (z0c a v.b) 0 (GV.pvs v.l)=true
 mem:=λ⟨S,x,B,a,v⟩=>j90 S x a v
 r:=λ⟨S,x,B,a,v⟩=> .sv (.bool (enB S a v B).1)
 h':=λ⟨S,x,B,a,v⟩=>wrO x (enB S a v B).2 4 5
 m':=6
 g:=λ_=>none
def zij:EpS->WayF:=λ⟨S,x,B,a,v⟩=>{
 cut:=λi _ _=>match i with
  |3=>some {σ:=Unit,t:=λ_=>[],h:=λ_=>wrO x (blB v.l.length B) 6 7,more:=2,μ:=λ_=>0,keep:=[0,4,5,6],del:=[2]}
  |_=>none
 ann:=λ_ _ _=>some {σ:=Nat×ByteArray,pre:=λ⟨j,C⟩=>j<=v.l.length/\(C.size<=5000\/C.size<=B.size+10)/\PV.fitL S (z0c a v.b) j ((GV.pvs v.l).drop j)=true/\PV.encL S (z0c a v.b) v.ks j ((GV.pvs v.l).drop j) C=PV.encL S (z0c a v.b) v.ks 0 (GV.pvs v.l) (blB v.l.length B),t:=λ⟨j,C⟩=>[(21, .sv (.int .i64 (j:Int)))],h:=λ⟨j,C⟩=>wrO x C 8 9,more:=2,μ:=λ⟨j,C⟩=>v.l.length- j,keep:=[0,4,5,6,19,20],del:=[6]}}
def bsM(B:ByteArray):List SV->PF
 | [x]=>⟨true,λp=>x.2.1=B.size/\qhd p x.1 x.2.1 x.2.2 (q19 B),λ_ _ h e=>⟨e.1,q52 h e.2⟩⟩
 |_=>{}
def z2v(S:List AT) (t:Int) (v:PV):Int×ByteArray:=if t<0\/S.length<=t then(1,mkS [])else if PV.fits S t v=false then(7,mkS [])else if(PV.enc S t v (mkS [])).1=true then(0,(PV.enc S t v (mkS [])).2)else(3,mkS [])
def z6j:Ct where
 σ:=FtS
 args:=λ⟨S,x,t,v⟩=>[scA x, .sv (.int .i64 t),v.av]
 h:=λ_=>[]
 m:=1
 pre:=λ⟨S,x,t,v⟩=>small S/\v.pv.sz/\v.pv.wt<90000000000000
 mem:=λ⟨S,x,t,v⟩=>svM S x v
 r:=λ⟨S,x,t,v⟩=> .tup [.tsl 1, .sv (.int .i64 (z2v S t v.pv).1)]
 h':=λ_=>[]
 m':=2
 g:=λ⟨S,x,t,v⟩=>some {β:=Unit,ks:=[1],pre:=λ_=>True,mem:=λ_ xs=>bsM (z2v S t v.pv).2 xs}
def zdu:EnS->Nat:=λ⟨S,x,B,t,v⟩=>SizeOf.sizeOf v
def zhd:EpS->Nat:=λ⟨S,x,B,a,v⟩=>SizeOf.sizeOf v
def j0i(n:Int):qki P (λ_=>none) Try.f136 zss (λ_=>{}) n=((-9223372036854775808:Int)<=n/\n<(9223372036854775808:Int)->(0:Int)<=(1:Int)/\(0:Int)<=(63:Int)/\(↑(zg n):Int)=qb6 BinOp.xor IntKind.u64 (shP BinOp.shl IntKind.u64 (n % (18446744073709551616:Int)) (1:Int)) (IntKind.wrap IntKind.u64 (shP BinOp.shr IntKind.i64 (IntKind.wrap IntKind.i64 (n % (18446744073709551616:Int))) (63:Int)))/\True):=by kernel_rfl
def j1w(n:Int):qki P (qfv [(136,zss)]) Try.f103 j0m (λ_=>{}) n=((-9223372036854775808:Int)<=n/\n<(9223372036854775808:Int)->∃(s:Int),s % (18446744073709551616:Int)=n % (18446744073709551616:Int)/\((-9223372036854775808:Int)<=s/\s<(9223372036854775808:Int))/\(↑(zg n):Int)=(↑(zg s):Int)/\True):=by kernel_rfl
section
variable (x0:ByteArray) (x1:Nat)
 abbrev j9o:=ByteArray.mk (List.toArray (Proofs.Ytpanaicglidfjaa.Rv.venc x1))
 def jbu:=AV.ssl (nat_lit 2) (nat_lit 0) (size x0) (nat_lit 1) (nat_lit 3)=AV.ssl (nat_lit 2) (nat_lit 0) (size x0) (nat_lit 1) (nat_lit 3)
end
def zh8(x:SV) (B:ByteArray) (n:Int):qki P (qfv [(103,j0m),(102,zlq)]) Try.f66 z89 (λ_=>{}) ⟨x,B,n⟩=(size B<140000000000000/\(-9223372036854775808:Int)<=n/\n<9223372036854775808->∃(s:Int),s % 18446744073709551616=IntKind.wrap u64 n/\((-9223372036854775808:Int)<=s/\s<9223372036854775808)/\∃(s_1:Nat),(↑s_1:Int)=(↑(zg s):Int)/\s_1<18446744073709551616/\length (q19 B)=size B*1/\(size B+size (j9o s_1))*1<=140737488355328/\jbu B/\jbu B/\x.1=x.1/\x.2.1=x.2.1/\x.2.2=x.2.2/\size (B++vz n)=size B+size (j9o s_1)/\q19 (B++vz n)=q19 B++q19 (j9o s_1)/\True):=by kernel_rfl
def zmu:=λx B n=>Eq.trans (zh8 x B n) (by delta j9o jbu;exact rfl)
def zgn(x:SV) (B:ByteArray) (n k:Int):qki P (λ_=>none) Try.f65 z6l (zin) ⟨x,B,n,k⟩=(size B<(140000000000000:Nat)/\(0:Int)<=k/\k<=(8:Int)/\(0:Int)<=n/\n<(18446744073709551616:Int)->(∃(s:Nat),n=n/\k=k/\(↑s:Int)=(0:Int)/\Prod.fst x=Prod.fst x/\Prod.fst (Prod.snd x)=Prod.fst (Prod.snd x)/\Prod.snd (Prod.snd x)=Prod.snd (Prod.snd x)/\size (B++fxB n s)=size B/\q19 (B++fxB n s)=q19 B/\(↑s:Int)<=k/\True)/\∀(s:Nat),(↑s:Int)<=k->(decide ((↑s:Int)<k)=true->(0:Int)<=IntKind.wrap u64 ((8:Int)*IntKind.wrap u64 (↑s:Int))/\length (q19 (B++fxB n s))=size (B++fxB n s)*(1:Nat)/\(size (B++fxB n s)+nat_lit 1)*(1:Nat)<=(140737488355328:Nat)/\((-9223372036854775808:Int)<=(↑s:Int)+(1:Int)/\(↑s:Int)+(1:Int)<=(9223372036854775807:Int))/\∃(s_1:Nat),n=n/\k=k/\(↑s_1:Int)=(↑s:Int)+(1:Int)/\Prod.fst x=Prod.fst x/\Prod.fst (Prod.snd x)=Prod.fst (Prod.snd x)/\Prod.snd (Prod.snd x)=Prod.snd (Prod.snd x)/\size (B++fxB n s_1)=size (B++fxB n s)+nat_lit 1/\q19 (B++fxB n s_1)=q19 (B++fxB n s)++[int u8 (IntKind.wrap u8 (shP BinOp.shr u64 n (IntKind.wrap u64 ((8:Int)*IntKind.wrap u64 (↑s:Int)))))]/\(↑s_1:Int)<=k/\toNat k- s_1<toNat k- s/\True)/\(decide ((↑s:Int)<k)=false->Prod.fst x=Prod.fst x/\Prod.fst (Prod.snd x)=Prod.fst (Prod.snd x)/\Prod.snd (Prod.snd x)=Prod.snd (Prod.snd x)/\size (B++fxB n (toNat k))=size (B++fxB n s)/\q19 (B++fxB n (toNat k))=q19 (B++fxB n s)/\True)):=by kernel_rfl
def zno(x:SV) (B s:ByteArray):qki P (qfv [(66,z89)]) Try.f67 zbk (λ_=>{}) ⟨x,B,s⟩=(size B+size s<130000000000000->∃(s_1:(Option Addr×Nat×Nat)×ByteArray×Int),s_1.2.2=(↑(size s):Int)/\s_1.1.1=x.1/\s_1.1.2.1=x.2.1/\s_1.1.2.2=x.2.2/\size s_1.2.1=size B/\q19 s_1.2.1=q19 B/\(size s_1.2.1<140000000000000/\(-9223372036854775808:Int)<=s_1.2.2/\s_1.2.2<9223372036854775808)/\length (q19 (s_1.2.1++vz s_1.2.2))=size (s_1.2.1++vz s_1.2.2)*1/\(size (s_1.2.1++vz s_1.2.2)+size s)*1<=140737488355328/\x.1=s_1.1.1/\x.2.1=s_1.1.2.1/\x.2.2=s_1.1.2.2/\size (B++vz (↑(size s):Int)++s)=size (s_1.2.1++vz s_1.2.2)+size s/\q19 (B++vz (↑(size s):Int)++s)=q19 (s_1.2.1++vz s_1.2.2)++q19 s/\True):=by kernel_rfl
section
variable (x0:Int) (x1:SV) (x2:List AT) (x3:GV) (x4:ByteArray) (x5:Nat) (x6:ByteArray) (x7:Option Addr) (x8:Nat) (x9:Int) (x10:Option Addr) (x11 x12:Nat) (x13:Bool) (x14:ByteArray) (x15:Int) (x16:Option Addr) (x17 x18:Nat) (x19:Option Addr) (x20 x21:Nat) (x22:Int) (x23:Nat) (x24:EpS) (x25:Prop) (x26:EnS) (x27:(Option Addr×Nat×Nat)×ByteArray×Int) (x28:Nat->Option Obj) (x29:(Option Addr×Nat×Nat)×ByteArray×ByteArray)
 abbrev z64:=True/\z05 x2 x1 x28/\GV.ok x3 x28
 abbrev z2n:=(PV.enc x2 x0 (GV.pv x3) x4).2
 def zqv:=(Jt (x0=x15)->∃(i0:(Option Addr×Nat×Nat)×ByteArray×Int×Int),i0.2.2.1=GV.n x3/\i0.2.2.2=x22/\i0.1.1=x1.1/\i0.1.2.1=x1.2.1/\i0.1.2.2=x1.2.2/\size i0.2.1=size x4/\q19 i0.2.1=q19 x4/\(size i0.2.1<140000000000000/\0<=i0.2.2.2/\i0.2.2.2<=8/\0<=i0.2.2.1/\i0.2.2.1<18446744073709551616)/\(PV.enc x2 x9 (GV.pv x3) x4).1=decide ((↑(size (i0.2.1++fxB i0.2.2.1 (toNat i0.2.2.2))):Int)<=5000)/\x1.1=i0.1.1/\x1.2.1=i0.1.2.1/\x1.2.2=i0.1.2.2/\size (z2n x9 x2 x3 x4)=size (i0.2.1++fxB i0.2.2.1 (toNat i0.2.2.2))/\q19 (z2n x9 x2 x3 x4)=q19 (i0.2.1++fxB i0.2.2.1 (toNat i0.2.2.2))/\True)
 def zqw:=x1.1=x1.1/\x1.2.1=x1.2.1/\x1.2.2=x1.2.2/\x25
 def z92:=zqw x1 (size x4=size x4/\x0=x0/\x6=x6/\x7=x7/\x5=x5/\x8=x8/\x9=x9/\x10=x10/\x11=x11/\x12=x12/\x13=x13/\x14=x14/\x15=x15/\x16=x16/\x17=x17/\x18=x18/\x19=x19/\x20=x20/\x21=x21/\q19 x4=q19 x4/\GV.n x3=GV.n x3/\GV.s x3=GV.s x3/\(GV.x x3).1=(GV.x x3).1/\(GV.x x3).2.1=(GV.x x3).2.1/\(GV.x x3).2.2=(GV.x x3).2.2/\(GV.y x3).1=(GV.y x3).1/\(GV.y x3).2.1=(GV.y x3).2.1/\(GV.y x3).2.2=(GV.y x3).2.2/\GV.b x3=GV.b x3/\(∀i0,z64 x1 x2 x3 i0->z64 x1 x2 x3 i0)/\True/\True)
 def j89:=Ji (x0=4) (∃(i0:Unit),z5n x0=decide (x0=4)/\x0=x0/\z92 x0 x1 x2 x3 x4 x5 x6 x7 x8 x9 x10 x11 x12 x13 x14 x15 x16 x17 x18 x19 x20 x21) (∃(i1:Unit),z5n x0=decide (x0=10)/\x0=x0/\z92 x0 x1 x2 x3 x4 x5 x6 x7 x8 x9 x10 x11 x12 x13 x14 x15 x16 x17 x18 x19 x20 x21)
 def zzp:=x27.1.1=x1.1/\x27.1.2.1=x1.2.1/\x27.1.2.2=x1.2.2/\size x27.2.1=size x4/\q19 x27.2.1=q19 x4/\(size x27.2.1<140000000000000/\(-9223372036854775808:Int)<=x27.2.2/\x27.2.2<9223372036854775808)/\x25
 abbrev zqx:=x29.2.1++vz (↑(size x29.2.2):Int)++x29.2.2
 def j82:=length (q19 x4)=size x4*1/\(size x4+size (GV.s x3))*1<=140737488355328/\(PV.enc x2 x0 (GV.pv x3) x4).1=decide ((↑(size x4+size (GV.s x3)):Int)<=5000)/\zqw x1 (size (z2n x0 x2 x3 x4)=size x4+size (GV.s x3)/\q19 (z2n x0 x2 x3 x4)=q19 x4++q19 (GV.s x3)/\True)
 abbrev zfd:=PV.enc x26.1 x26.2.2.2.1 (GV.pv x26.2.2.2.2) x26.2.2.1
 def zzo:=x1.1=x26.2.1.1/\x1.2.1=x26.2.1.2.1/\x1.2.2=x26.2.1.2.2/\size (z2n x0 x2 x3 x4)=size (zfd x26).2/\q19 (z2n x0 x2 x3 x4)=q19 (zfd x26).2/\True
 def j83:=(PV.enc x2 x0 (GV.pv x3) x4).1=decide ((↑(size (zfd x26).2):Int)<=5000)/\zzo x0 x1 x2 x3 x4 x26
 def j85:=(PV.enc x2 x0 (GV.pv x3) x4).1=false/\zzo x0 x1 x2 x3 x4 x26
 def zzm:=AT.k x24.2.2.2.1=x0/\AT.nm x24.2.2.2.1=x4/\(AT.al x24.2.2.2.1).1=x7/\(AT.al x24.2.2.2.1).2.1=x5/\(AT.al x24.2.2.2.1).2.2=x8/\AT.it x24.2.2.2.1=x9/\(AT.sy x24.2.2.2.1).1=x10/\(AT.sy x24.2.2.2.1).2.1=x11/\(AT.sy x24.2.2.2.1).2.2=x12/\AT.hd x24.2.2.2.1=x13/\AT.df x24.2.2.2.1=x6/\AT.sz x24.2.2.2.1=x15/\(AT.f x24.2.2.2.1).1=x16/\(AT.f x24.2.2.2.1).2.1=x17/\(AT.f x24.2.2.2.1).2.2=x18/\(AT.br x24.2.2.2.1).1=x19/\(AT.br x24.2.2.2.1).2.1=x20/\(AT.br x24.2.2.2.1).2.2=x21/\GV.n x24.2.2.2.2=GV.n x3/\GV.s x24.2.2.2.2=GV.s x3/\(GV.x x24.2.2.2.2).1=(GV.x x3).1/\(GV.x x24.2.2.2.2).2.1=(GV.x x3).2.1/\(GV.x x24.2.2.2.2).2.2=(GV.x x3).2.2/\(GV.y x24.2.2.2.2).1=(GV.y x3).1/\(GV.y x24.2.2.2.2).2.1=(GV.y x3).2.1/\(GV.y x24.2.2.2.2).2.2=(GV.y x3).2.2/\GV.b x24.2.2.2.2=GV.b x3/\x24.2.1.1=x1.1/\x24.2.1.2.1=x1.2.1/\x24.2.1.2.2=x1.2.2/\size x24.2.2.1=size x14/\q19 x24.2.2.1=q19 x14/\x25
 def zzq:=zhd x24<x5+1/\small x24.1/\PV.sz (GV.pv x24.2.2.2.2)/\(size x24.2.2.1+PV.wt (GV.pv x24.2.2.2.2)<100000000000000/\PV.wt (GV.pv x24.2.2.2.2)<90000000000000)/\x25
 def zzs:=PV.fitL x24.1 (z0c x24.2.2.2.1 (GV.b x24.2.2.2.2)) 0 (GV.pvs (GV.l x24.2.2.2.2))=true
 def zzr:=z05 x24.1 x24.2.1 x28/\AT.ok x24.2.2.2.1 x28/\GV.ok x24.2.2.2.2 x28
 abbrev zfb:=PV.encL x24.1 (z0c x24.2.2.2.1 (GV.b x24.2.2.2.2)) (GV.ks x24.2.2.2.2) 0 (GV.pvs (GV.l x24.2.2.2.2)) x24.2.2.1
 def zzn:=x1.1=x24.2.1.1/\x1.2.1=x24.2.1.2.1/\x1.2.2=x24.2.1.2.2/\x25
 def zzt:=zzn x1 x24 (size (z2n x0 x2 x3 x4)=size (zfb x24).2/\q19 (z2n x0 x2 x3 x4)=q19 (zfb x24).2/\True)
 def j81:=(PV.enc x2 x0 (GV.pv x3) x4).1=decide ((↑(size (zfb x24).2):Int)<=5000)/\zzt x0 x1 x2 x3 x4 x24
 def j88:=(PV.enc x2 x0 (GV.pv x3) x4).1=false/\zzt x0 x1 x2 x3 x4 x24
 abbrev zfc:=enB x24.1 x24.2.2.2.1 x24.2.2.2.2 x24.2.2.1
 def zzu:=zzn x1 x24 (size (z2n x0 x2 x3 x4)=size (zfc x24).2/\q19 (z2n x0 x2 x3 x4)=q19 (zfc x24).2/\True)
 def j84:=(PV.enc x2 x0 (GV.pv x3) x4).1=decide ((↑(size (zfc x24).2):Int)<=5000)/\zzu x0 x1 x2 x3 x4 x24
 def j86:=(PV.enc x2 x0 (GV.pv x3) x4).1=false/\zzu x0 x1 x2 x3 x4 x24
 def j87:=(PV.enc x2 x0 (GV.pv x3) x4).1=decide ((↑(size x4):Int)<=5000)/\zqw x1 (size (z2n x0 x2 x3 x4)=size x4/\q19 (z2n x0 x2 x3 x4)=q19 x4/\True)
 def j80:=(z80 x0=true->∃(i0:EpS),zzm x0 x1 x3 x4 x5 x6 x7 x8 x9 x10 x11 x12 x13 x14 x15 x16 x17 x18 x19 x20 x21 i0 ((zzq x23 i0 ((AT.k i0.2.2.2.1=12/\GV.ks i0.2.2.2.2=[]\/AT.k i0.2.2.2.1=13/\length (GV.ks i0.2.2.2.2)=length (GV.l i0.2.2.2.2))/\zzs i0))/\(∀i1,z64 x1 x2 x3 i1->zzr i0 i1)/\((zfc i0).1=true->j84 x22 x1 x2 x3 x14 i0)/\((zfc i0).1=false->j86 x22 x1 x2 x3 x14 i0)))/\(z80 x0=false->j87 x22 x1 x2 x3 x14)
 def j7z:=(Ji (x0=12) (∃(i0:Unit),z80 x0=decide (x0=12)/\x0=x0/\z92 x0 x1 x2 x3 x4 x5 x6 x7 x8 x9 x10 x11 x12 x13 x14 x15 x16 x17 x18 x19 x20 x21) (∃(i2:Unit),z80 x0=decide (x0=13)/\x0=x0/\z92 x0 x1 x2 x3 x4 x5 x6 x7 x8 x9 x10 x11 x12 x13 x14 x15 x16 x17 x18 x19 x20 x21))/\∀(i4:Unit),True->j80 x0 x1 x2 x3 x6 x5 x14 x7 x8 x9 x10 x11 x12 x13 x4 x15 x16 x17 x18 x19 x20 x21 x22 x23
 def jm2:=Ji (x0=9) (∃(i0:EpS),zzm x0 x1 x3 x4 x5 x6 x7 x8 x9 x10 x11 x12 x13 x14 x15 x16 x17 x18 x19 x20 x21 i0 ((zzq x23 i0 (AT.k i0.2.2.2.1=9/\length (GV.l i0.2.2.2.2)=length (AT.fs i0.2.2.2.1)/\GV.ks i0.2.2.2.2=[]/\zzs i0))/\(∀i1,z64 x1 x2 x3 i1->zzr i0 i1)/\((zfb i0).1=true->j81 x22 x1 x2 x3 x14 i0)/\((zfb i0).1=false->j88 x22 x1 x2 x3 x14 i0))) (j7z x0 x1 x2 x3 x14 x5 x4 x7 x8 x9 x10 x11 x12 x13 x6 x15 x16 x17 x18 x19 x20 x21 x22 x23)
 def jm1:=Ji (x0=14) (∃(i0:(Option Addr×Nat×Nat)×ByteArray×Int),i0.2.2=GV.b x3/\zzp x1 x4 ((0<=GV.b x3/\GV.b x3<(↑x5:Int))/\x7≠noA/\∃(i1:Int),(∀i2,z64 x1 x2 x3 i2->q3f i2 (adr x7 (toNat (GV.b x3)*1)) [int i64 i1])/\((0:Int)<=0/\0<(↑(GV.x x3).2.1:Int))/\(GV.x x3).1≠noA/\∃(i3:Int),∃i4,∃i5,∃(i6:Nat),∃(i7:Nat),∃i8,∃(i9:Nat),∃(i10:Nat),∃(i11:Int),(∀i12,z64 x1 x2 x3 i12->q3f i12 (adr (GV.x x3).1 ((0:Nat)*5)) [int u64 i3,string i4,slice i5 i6 i7,slice i8 i9 i10,int i64 i11])/\∃(i13:EnS),i13.2.2.2.1=i1/\GV.n i13.2.2.2.2=i3/\GV.s i13.2.2.2.2=i4/\(GV.x i13.2.2.2.2).1=i5/\(GV.x i13.2.2.2.2).2.1=i6/\(GV.x i13.2.2.2.2).2.2=i7/\(GV.y i13.2.2.2.2).1=i8/\(GV.y i13.2.2.2.2).2.1=i9/\(GV.y i13.2.2.2.2).2.2=i10/\GV.b i13.2.2.2.2=i11/\i13.2.1.1=i0.1.1/\i13.2.1.2.1=i0.1.2.1/\i13.2.1.2.2=i0.1.2.2/\size i13.2.2.1=size (i0.2.1++vz i0.2.2)/\q19 i13.2.2.1=q19 (i0.2.1++vz i0.2.2)/\(zdu i13<x8/\small i13.1/\PV.sz (GV.pv i13.2.2.2.2)/\(size i13.2.2.1+PV.wt (GV.pv i13.2.2.2.2)<100000000000000/\PV.wt (GV.pv i13.2.2.2.2)<90000000000000)/\PV.fits i13.1 i13.2.2.2.1 (GV.pv i13.2.2.2.2)=true)/\(∀i14,z64 x1 x2 x3 i14->z05 i13.1 i13.2.1 i14/\GV.ok i13.2.2.2.2 i14)/\((zfd i13).1=true->j83 x9 x1 x2 x3 x4 i13)/\((zfd i13).1=false->j85 x9 x1 x2 x3 x4 i13)) i0) (jm2 x0 x1 x2 x3 x6 x11 x14 x10 x12 x15 x16 x17 x18 x13 x4 x22 x19 x20 x21 x7 x5 x23 x9 x8)
 def jm0:=Ji (x0=11) (j82 x9 x1 x2 x3 x4) (jm1 x0 x1 x2 x3 x4 x5 x6 x7 x8 x9 x10 x11 x12 x13 x14 x15 x16 x17 x18 x19 x20 x21 x22 x23)
 def jlz:=(z81 x0=true->∃(i0:(Option Addr×Nat×Nat)×ByteArray×ByteArray),i0.2.2=GV.s x3/\i0.1.1=x1.1/\i0.1.2.1=x1.2.1/\i0.1.2.2=x1.2.2/\size i0.2.1=size x4/\q19 i0.2.1=q19 x4/\size i0.2.1+size i0.2.2<130000000000000/\(PV.enc x2 x9 (GV.pv x3) x4).1=decide ((↑(size (zqx i0)):Int)<=5000)/\x1.1=i0.1.1/\x1.2.1=i0.1.2.1/\x1.2.2=i0.1.2.2/\size (z2n x9 x2 x3 x4)=size (zqx i0)/\q19 (z2n x9 x2 x3 x4)=q19 (zqx i0)/\True)/\(z81 x0=false->jm0 x0 x1 x2 x3 x4 x5 x6 x7 x8 x9 x10 x11 x12 x13 x14 x15 x16 x17 x18 x19 x20 x21 x22 x23)
 def jly:=(Ji (x0=7) (∃(i0:Unit),x0=x0/\z81 x0=decide (x0=7)/\z92 x0 x1 x2 x3 x4 x5 x6 x7 x8 x9 x10 x11 x12 x13 x14 x15 x16 x17 x18 x19 x20 x21) (∃(i2:Unit),x0=x0/\z81 x0=decide (x0=8)/\z92 x0 x1 x2 x3 x4 x5 x6 x7 x8 x9 x10 x11 x12 x13 x14 x15 x16 x17 x18 x19 x20 x21))/\∀(i4:Unit),True->jlz x0 x1 x2 x3 x4 x20 x6 x19 x23 x22 x7 x5 x8 x13 x14 x9 x10 x11 x12 x16 x17 x18 x15 x21
 def jlx:=zqv x0 x1 x2 x3 x4 x9 6 8/\(Jf (x0=6)->jly x0 x1 x2 x3 x4 x5 x6 x7 x8 x15 x10 x11 x12 x13 x14 x22 x16 x17 x18 x19 x20 x21 x9 x23)
 def jlw:=zqv x0 x1 x2 x3 x4 x9 5 4/\(Jf (x0=5)->jlx x0 x1 x2 x3 x4 x5 x6 x7 x8 x9 x10 x11 x12 x13 x14 x15 x16 x17 x18 x19 x20 x21 x22 x23)
 def jlv:=(z5n x0=true->∃(i0:(Option Addr×Nat×Nat)×ByteArray×Int),i0.2.2=IntKind.wrap i64 (GV.n x3)/\zzp x1 x4 ((PV.enc x2 x9 (GV.pv x3) x4).1=decide ((↑(size (i0.2.1++vz i0.2.2)):Int)<=5000)/\x1.1=i0.1.1/\x1.2.1=i0.1.2.1/\x1.2.2=i0.1.2.2/\size (z2n x9 x2 x3 x4)=size (i0.2.1++vz i0.2.2)/\q19 (z2n x9 x2 x3 x4)=q19 (i0.2.1++vz i0.2.2)/\True) i0)/\(z5n x0=false->jlw x0 x1 x2 x3 x4 x5 x6 x7 x8 x9 x10 x11 x12 x13 x14 x15 x16 x17 x18 x19 x20 x21 x22 x23)
 def jlu:=(Ji (x0=3) (∃(i0:Unit),z5n x0=decide (x0=3)/\x0=x0/\z92 x0 x1 x2 x3 x4 x5 x6 x7 x8 x9 x10 x11 x12 x13 x14 x15 x16 x17 x18 x19 x20 x21) (j89 x0 x1 x2 x3 x4 x5 x6 x7 x8 x9 x10 x11 x12 x13 x14 x15 x16 x17 x18 x19 x20 x21))/\∀(i6:Unit),True->jlv x0 x1 x2 x3 x4 x5 x6 x7 x8 x22 x10 x11 x12 x13 x14 x9 x16 x17 x18 x19 x20 x21 x15 x23
 def jlt:=(0<=x0/\x0<(↑x1.2.1:Int))/\x1.1≠noA/\∃(i0:Int),∃i1,∃i2,∃(i3:Nat),∃(i4:Nat),∃(i5:Int),∃i6,∃(i7:Nat),∃(i8:Nat),∃(i9:Bool),∃i10,∃(i11:Int),∃i12,∃(i13:Nat),∃(i14:Nat),∃i15,∃(i16:Nat),∃(i17:Nat),(∀i18,z64 x1 x2 x3 i18->q3f i18 (adr x1.1 (toNat x0*10)) [int i64 i0,string i1,slice i2 i3 i4,int i64 i5,slice i6 i7 i8,bool i9,string i10,int i64 i11,slice i12 i13 i14,slice i15 i16 i17])/\zqv i0 x1 x2 x3 x4 x0 2 1/\(Jf (i0=2)->jlu i0 x1 x2 x3 x4 i3 i1 i2 i4 i5 i6 i7 i8 i9 i10 i11 i12 i13 i14 i15 i16 i17 x0 x5)
end
def ze9(n:Nat) (S:List AT) (x:SV) (B:ByteArray) (t:Int) (v:GV):qki P (qfv [(66,z89),(65,z6l),(67,zbk),(68,z4w.below zhd (n+1)),(69,z6h.below zhd (n+1)),(44,z1j.below zdu n)]) Try.f44 (z1j.below zdu (n+1)) (ziy) ⟨S,x,B,t,v⟩=(zdu (S,x,B,t,v)<n+1/\small S/\PV.sz (GV.pv v)/\(size B+PV.wt (GV.pv v)<100000000000000/\PV.wt (GV.pv v)<90000000000000)/\PV.fits S t (GV.pv v)=true->(∃(p:Pub),z64 x S v p)->jlt t x S v B n):=by kernel_rfl
def zie:=λn S x B t v=>Eq.trans (ze9 n S x B t v) (by delta Ji Jt Jf z64 z2n zqv zqw z92 j89 zzp zqx j82 zfd zzo j83 j85 zzm zzq zzs zzr zfb zzn zzt j81 j88 zfc zzu j84 j86 j87 j80 j7z jm2 jm1 jm0 jlz jly jlx jlw jlv jlu jlt;exact rfl)
section
variable (x0:AT) (x1:SV) (x2:ByteArray) (x3:GV) (x4:List AT) (x5:Nat) (x6:Nat×ByteArray) (x7:EnS) (x8:Prop) (x9:Nat->Option Obj)
 abbrev z7y:=True/\z05 x4 x1 x9/\AT.ok x0 x9/\GV.ok x3 x9
 abbrev zb4:=(↑(AT.f x0).2.1:Int)
 def j9q:=(AT.f x0).1=(AT.f x0).1/\(AT.f x0).2.1=(AT.f x0).2.1/\(AT.f x0).2.2=(AT.f x0).2.2/\x8
 def zzw:=x1.1=x1.1/\x1.2.1=x1.2.1/\x1.2.2=x1.2.2/\x8
 def jbv:=GV.n x3=GV.n x3/\GV.s x3=GV.s x3/\(GV.x x3).1=(GV.x x3).1/\(GV.x x3).2.1=(GV.x x3).2.1/\(GV.x x3).2.2=(GV.x x3).2.2/\(GV.y x3).1=(GV.y x3).1/\(GV.y x3).2.1=(GV.y x3).2.1/\(GV.y x3).2.2=(GV.y x3).2.2/\GV.b x3=GV.b x3/\AT.k x0=AT.k x0/\AT.nm x0=AT.nm x0/\(AT.al x0).1=(AT.al x0).1/\(AT.al x0).2.1=(AT.al x0).2.1/\(AT.al x0).2.2=(AT.al x0).2.2/\AT.it x0=AT.it x0/\(AT.sy x0).1=(AT.sy x0).1/\(AT.sy x0).2.1=(AT.sy x0).2.1/\(AT.sy x0).2.2=(AT.sy x0).2.2/\AT.hd x0=AT.hd x0/\AT.df x0=AT.df x0/\AT.sz x0=AT.sz x0/\j9q x0 ((AT.br x0).1=(AT.br x0).1/\(AT.br x0).2.1=(AT.br x0).2.1/\(AT.br x0).2.2=(AT.br x0).2.2/\x8)
 def j9p:=x6.1<=length (AT.fs x0)/\(size x6.2<=5000\/size x6.2<=size x2)/\PV.fitL x4 (z0c x0 (GV.b x3)) x6.1 (drop x6.1 (GV.pvs (GV.l x3)))=true/\PV.encL x4 (z0c x0 (GV.b x3)) (GV.ks x3) x6.1 (drop x6.1 (GV.pvs (GV.l x3))) x6.2=PV.encL x4 (z0c x0 (GV.b x3)) (GV.ks x3) 0 (GV.pvs (GV.l x3)) x2
 abbrev zb3:=PV.enc x7.1 x7.2.2.2.1 (GV.pv x7.2.2.2.2) x7.2.2.1
 abbrev zzx:=PV.encL x4 (z0c x0 (GV.b x3)) (GV.ks x3) 0 (GV.pvs (GV.l x3)) x2
 def zzv:=x1.1=x7.2.1.1/\x1.2.1=x7.2.1.2.1/\x1.2.2=x7.2.1.2.2/\x8
 def jm7:=(zzx x0 x2 x3 x4).1=false/\zzv x1 x7 (size (zzx x0 x2 x3 x4).2=size (zb3 x7).2/\q19 (zzx x0 x2 x3 x4).2=q19 (zb3 x7).2/\True)
 def jm6:=Jb ((↑x6.1:Int)+1)/\∃(i0:Nat×ByteArray),(zb4 x0)=(zb4 x0)/\(↑i0.1:Int)=(↑x6.1:Int)+1/\j9q x0 (zzv x1 x7 (size i0.2=size (zb3 x7).2/\jbv x0 x3 (q19 i0.2=q19 (zb3 x7).2/\(∀i1,z7y x0 x1 x3 x4 i1->z7y x0 x1 x3 x4 i1)/\(j9p x0 x2 x3 x4 i0)/\length (AT.fs x0)- i0.1<length (AT.fs x0)- x6.1/\True)))
 def jm5:=(0<=(↑x6.1:Int)/\(↑x6.1:Int)<(zb4 x0))/\(AT.f x0).1≠noA/\∃i0,∃i1,∃(i2:Nat),∃(i3:Nat),∃(i4:Int),∃(i5:Bool),∃(i6:Int),∃(i7:Int),∃i8,∃i9,∃(i10:Nat),∃(i11:Nat),∃i12,∃(i13:Nat),∃(i14:Nat),(∀i15,z7y x0 x1 x3 x4 i15->q3f i15 (adr (AT.f x0).1 (toNat (↑x6.1:Int)*9)) [string i0,slice i1 i2 i3,int i64 i4,bool i5,int i64 i6,int i64 i7,string i8,slice i9 i10 i11,slice i12 i13 i14])/\(0<=(↑x6.1:Int)/\(↑x6.1:Int)<(↑(GV.x x3).2.1:Int))/\(GV.x x3).1≠noA/\∃(i16:Int),∃i17,∃i18,∃(i19:Nat),∃(i20:Nat),∃i21,∃(i22:Nat),∃(i23:Nat),∃(i24:Int),(∀i25,z7y x0 x1 x3 x4 i25->q3f i25 (adr (GV.x x3).1 (toNat (↑x6.1:Int)*5)) [int u64 i16,string i17,slice i18 i19 i20,slice i21 i22 i23,int i64 i24])/\∃(i26:EnS),i26.2.2.2.1=i4/\GV.n i26.2.2.2.2=i16/\GV.s i26.2.2.2.2=i17/\(GV.x i26.2.2.2.2).1=i18/\(GV.x i26.2.2.2.2).2.1=i19/\(GV.x i26.2.2.2.2).2.2=i20/\(GV.y i26.2.2.2.2).1=i21/\(GV.y i26.2.2.2.2).2.1=i22/\(GV.y i26.2.2.2.2).2.2=i23/\GV.b i26.2.2.2.2=i24/\i26.2.1.1=x1.1/\i26.2.1.2.1=x1.2.1/\i26.2.1.2.2=x1.2.2/\size i26.2.2.1=size x6.2/\q19 i26.2.2.1=q19 x6.2/\(zdu i26<x5/\small i26.1/\PV.sz (GV.pv i26.2.2.2.2)/\(size i26.2.2.1+PV.wt (GV.pv i26.2.2.2.2)<100000000000000/\PV.wt (GV.pv i26.2.2.2.2)<90000000000000)/\PV.fits i26.1 i26.2.2.2.1 (GV.pv i26.2.2.2.2)=true)/\(∀i27,z7y x0 x1 x3 x4 i27->z05 i26.1 i26.2.1 i27/\GV.ok i26.2.2.2.2 i27)/\((!(zb3 i26).1)=true->jm7 x0 x1 x2 x3 x4 i26)/\((!(zb3 i26).1)=false->jm6 x0 x1 x2 x3 x4 x6 i26)
 def jm8:=(zzx x0 x2 x3 x4).1=true/\zzw x1 (size (zzx x0 x2 x3 x4).2=size x6.2/\q19 (zzx x0 x2 x3 x4).2=q19 x6.2/\True)
 def jm4:=Ji ((↑x6.1:Int)<(zb4 x0)) (jm5 x0 x1 x2 x3 x4 x5 x6) (jm8 x0 x1 x2 x3 x4 x6)
 def jm3:=(∃(i0:Nat×ByteArray),(zb4 x0)=(zb4 x0)/\(↑i0.1:Int)=0/\j9q x0 (zzw x1 (size i0.2=size x2/\jbv x0 x3 (q19 i0.2=q19 x2/\(∀i1,z7y x0 x1 x3 x4 i1->z7y x0 x1 x3 x4 i1)/\(j9p x0 x2 x3 x4 i0)/\True))))/\∀(i2:Nat×ByteArray),j9p x0 x2 x3 x4 i2->jm4 x0 x1 x2 x3 x4 x5 i2
end
def z9x(n:Nat) (S:List AT) (x:SV) (B:ByteArray) (a:AT) (v:GV):qki P (qfv [(44,z1j.below zdu n)]) Try.f68 (z4w.below zhd (n+1)) (zcy) ⟨S,x,B,a,v⟩=(zhd (S,x,B,a,v)<n+1/\small S/\PV.sz (GV.pv v)/\(size B+PV.wt (GV.pv v)<100000000000000/\PV.wt (GV.pv v)<90000000000000)/\AT.k a=9/\length (GV.l v)=length (AT.fs a)/\GV.ks v=[]/\PV.fitL S (z0c a (GV.b v)) 0 (GV.pvs (GV.l v))=true->(∃(p:Pub),z7y a x v S p)->jm3 a x B v S n):=by kernel_rfl
def ze2:=λn S x B a v=>Eq.trans (z9x n S x B a v) (by delta Ji Jb Jt Jf z7y zb4 j9q zzw jbv j9p zb3 zzx zzv jm7 jm6 jm5 jm8 jm4 jm3;exact rfl)
section
variable (x0:GV) (x1:SV) (x2:ByteArray) (x3:AT) (x4:List AT) (x5:Nat) (x6:Nat×ByteArray) (x7:EnS) (x8:Prop) (x9:Int) (x10:Option Addr) (x11:Nat) (x12:Option Addr) (x13 x14:Nat) (x15:Int) (x16:Nat) (x17:ByteArray) (x18:(Option Addr×Nat×Nat)×ByteArray×Int) (x19:Nat->Option Obj)
 abbrev zb6:=True/\z05 x4 x1 x19/\AT.ok x3 x19/\GV.ok x0 x19
 abbrev z7z:=(↑(GV.x x0).2.1:Int)
 def j02:=x18.1.1=x1.1/\x18.1.2.1=x1.2.1/\x18.1.2.2=x1.2.2/\x8
 def zzz:=(size x18.2.1<140000000000000/\(-9223372036854775808:Int)<=x18.2.2/\x18.2.2<9223372036854775808)
 def j03:=x1.1=x18.1.1/\x1.2.1=x18.1.2.1/\x1.2.2=x18.1.2.2/\x8
 abbrev z93:=blB (length (GV.l x0)) x2
 def zqy:=(GV.x x0).1=(GV.x x0).1/\(GV.x x0).2.1=(GV.x x0).2.1/\(GV.x x0).2.2=(GV.x x0).2.2/\x8
 def j8a:=GV.n x0=GV.n x0/\GV.s x0=GV.s x0/\zqy x0 ((GV.y x0).1=(GV.y x0).1/\(GV.y x0).2.1=(GV.y x0).2.1/\(GV.y x0).2.2=(GV.y x0).2.2/\GV.b x0=GV.b x0/\AT.k x3=AT.k x3/\AT.nm x3=AT.nm x3/\(AT.al x3).1=(AT.al x3).1/\(AT.al x3).2.1=(AT.al x3).2.1/\(AT.al x3).2.2=(AT.al x3).2.2/\AT.it x3=AT.it x3/\(AT.sy x3).1=(AT.sy x3).1/\(AT.sy x3).2.1=(AT.sy x3).2.1/\(AT.sy x3).2.2=(AT.sy x3).2.2/\AT.hd x3=AT.hd x3/\AT.df x3=AT.df x3/\AT.sz x3=AT.sz x3/\(AT.f x3).1=(AT.f x3).1/\(AT.f x3).2.1=(AT.f x3).2.1/\(AT.f x3).2.2=(AT.f x3).2.2/\(AT.br x3).1=(AT.br x3).1/\(AT.br x3).2.1=(AT.br x3).2.1/\(AT.br x3).2.2=(AT.br x3).2.2/\x8)
 def zl2:=(∀i0,zb6 x0 x1 x3 x4 i0->zb6 x0 x1 x3 x4 i0)
 def j01:=x1.1=x1.1/\x1.2.1=x1.2.1/\x1.2.2=x1.2.2/\x8
 def j9r:=x6.1<=length (GV.l x0)/\(size x6.2<=5000\/size x6.2<=size x2+10)/\PV.fitL x4 (z0c x3 (GV.b x0)) x6.1 (drop x6.1 (GV.pvs (GV.l x0)))=true/\PV.encL x4 (z0c x3 (GV.b x0)) (GV.ks x0) x6.1 (drop x6.1 (GV.pvs (GV.l x0))) x6.2=PV.encL x4 (z0c x3 (GV.b x0)) (GV.ks x0) 0 (GV.pvs (GV.l x0)) (z93 x0 x2)
 def zzy:=x7.2.2.2.1=AT.it x3/\GV.n x7.2.2.2.2=x9/\GV.s x7.2.2.2.2=x2/\(GV.x x7.2.2.2.2).1=x10/\(GV.x x7.2.2.2.2).2.1=x5/\(GV.x x7.2.2.2.2).2.2=x11/\(GV.y x7.2.2.2.2).1=x12/\(GV.y x7.2.2.2.2).2.1=x13/\(GV.y x7.2.2.2.2).2.2=x14/\GV.b x7.2.2.2.2=x15/\x8
 abbrev zb5:=PV.enc x7.1 x7.2.2.2.1 (GV.pv x7.2.2.2.2) x7.2.2.1
 def j00:=x1.1=x7.2.1.1/\x1.2.1=x7.2.1.2.1/\x1.2.2=x7.2.1.2.2/\x8
 def jmf:=(enB x4 x3 x0 x2).1=false/\j00 x1 x7 (size (enB x4 x3 x0 x2).2=size (zb5 x7).2/\q19 (enB x4 x3 x0 x2).2=q19 (zb5 x7).2/\True)
 def jmd:=Jb ((↑x6.1:Int)+1)/\∃(i0:Nat×ByteArray),zqy x0 ((↑i0.1:Int)=(↑x6.1:Int)+1/\(z7z x0)=(z7z x0)/\j00 x1 x7 (size i0.2=size (zb5 x7).2/\j8a x0 x3 (q19 i0.2=q19 (zb5 x7).2/\zl2 x0 x1 x3 x4/\(j9r x0 x2 x3 x4 i0)/\length (GV.l x0)- i0.1<length (GV.l x0)- x6.1/\True)))
 def jbw:=(zdu x7<x5/\small x7.1/\PV.sz (GV.pv x7.2.2.2.2)/\(size x7.2.2.1+PV.wt (GV.pv x7.2.2.2.2)<100000000000000/\PV.wt (GV.pv x7.2.2.2.2)<90000000000000)/\PV.fits x7.1 x7.2.2.2.1 (GV.pv x7.2.2.2.2)=true)/\(∀i0,zb6 x0 x1 x3 x4 i0->z05 x7.1 x7.2.1 i0/\GV.ok x7.2.2.2.2 i0)/\((!(zb5 x7).1)=true->jmf x0 x1 x2 x3 x4 x7)/\((!(zb5 x7).1)=false->jmd x0 x1 x2 x3 x4 x6 x7)
 def jme:=(0<=(↑x6.1:Int)/\(↑x6.1:Int)<(↑(GV.y x0).2.1:Int))/\(GV.y x0).1≠noA/\∃i0,(∀i1,zb6 x0 x1 x3 x4 i1->q3f i1 (adr (GV.y x0).1 (toNat (↑x6.1:Int)*1)) [string i0])/\∃(i2:(Option Addr×Nat×Nat)×ByteArray×ByteArray),i2.2.2=i0/\i2.1.1=x1.1/\i2.1.2.1=x1.2.1/\i2.1.2.2=x1.2.2/\size i2.2.1=size x6.2/\q19 i2.2.1=q19 x6.2/\size i2.2.1+size i2.2.2<130000000000000/\∃(i3:EnS),zzy x2 x3 x5 i3 (i3.2.1.1=i2.1.1/\i3.2.1.2.1=i2.1.2.1/\i3.2.1.2.2=i2.1.2.2/\size i3.2.2.1=size (i2.2.1++vz (↑(size i2.2.2):Int)++i2.2.2)/\q19 i3.2.2.1=q19 (i2.2.1++vz (↑(size i2.2.2):Int)++i2.2.2)/\jbw x0 x1 x17 x3 x4 x16 x6 i3) x9 x10 x11 x12 x13 x14 x15
 def jmc:=(0<=(↑x6.1:Int)/\(↑x6.1:Int)<(z7z x0))/\(GV.x x0).1≠noA/\∃(i0:Int),∃i1,∃i2,∃(i3:Nat),∃(i4:Nat),∃i5,∃(i6:Nat),∃(i7:Nat),∃(i8:Int),(∀i9,zb6 x0 x1 x3 x4 i9->q3f i9 (adr (GV.x x0).1 (toNat (↑x6.1:Int)*5)) [int u64 i0,string i1,slice i2 i3 i4,slice i5 i6 i7,int i64 i8])/\Ji (AT.k x3=13) (jme x0 x1 i1 x3 x4 i3 x6 i0 i2 i4 i5 i6 i7 i8 x5 x2) (∃(i17:EnS),zzy i1 x3 i3 i17 (i17.2.1.1=x1.1/\i17.2.1.2.1=x1.2.1/\i17.2.1.2.2=x1.2.2/\size i17.2.2.1=size x6.2/\q19 i17.2.2.1=q19 x6.2/\jbw x0 x1 x2 x3 x4 x5 x6 i17) i0 i2 i4 i5 i6 i7 i8)
 def jmb:=Ji ((↑x6.1:Int)<(z7z x0)) (jmc x0 x1 x2 x3 x4 x5 x6) (∃(i21:(Option Addr×Nat×Nat)×ByteArray×Int),i21.2.2=0/\j02 x1 (size i21.2.1=size x6.2/\q19 i21.2.1=q19 x6.2/\zzz i21/\(enB x4 x3 x0 x2).1=true/\j03 x1 (size (enB x4 x3 x0 x2).2=size (i21.2.1++vz i21.2.2)/\q19 (enB x4 x3 x0 x2).2=q19 (i21.2.1++vz i21.2.2)/\True) i21) i21)
 def jma:=(∃(i0:Nat×ByteArray),zqy x0 ((↑i0.1:Int)=0/\(z7z x0)=(z7z x0)/\j01 x1 (size i0.2=size (z93 x0 x2)/\j8a x0 x3 (q19 i0.2=q19 (z93 x0 x2)/\zl2 x0 x1 x3 x4/\(j9r x0 x2 x3 x4 i0)/\True))))/\∀(i2:Nat×ByteArray),j9r x0 x2 x3 x4 i2->jmb x0 x1 x2 x3 x4 x5 i2
 def jm9:=(Ji (0<(z7z x0)) (∃(i0:(Option Addr×Nat×Nat)×ByteArray×Int),i0.2.2=(z7z x0)/\j02 x1 (size i0.2.1=size x2/\q19 i0.2.1=q19 x2/\zzz i0/\∃(i1:Unit),j03 x1 (size (z93 x0 x2)=size (i0.2.1++vz i0.2.2)/\j8a x0 x3 (q19 (z93 x0 x2)=q19 (i0.2.1++vz i0.2.2)/\zl2 x0 x1 x3 x4/\True/\True)) i0) i0) (∃(i3:Unit),j01 x1 (size (z93 x0 x2)=size x2/\j8a x0 x3 (q19 (z93 x0 x2)=q19 x2/\zl2 x0 x1 x3 x4/\True/\True))))/\∀(i5:Unit),True->jma x0 x1 x2 x3 x4 x5
end
def zd7(n:Nat) (S:List AT) (x:SV) (B:ByteArray) (a:AT) (v:GV):qki P (qfv [(66,z89),(67,zbk),(44,z1j.below zdu n)]) Try.f69 (z6h.below zhd (n+1)) (zij) ⟨S,x,B,a,v⟩=(zhd (S,x,B,a,v)<n+1/\small S/\PV.sz (GV.pv v)/\(size B+PV.wt (GV.pv v)<100000000000000/\PV.wt (GV.pv v)<90000000000000)/\(AT.k a=12/\GV.ks v=[]\/AT.k a=13/\length (GV.ks v)=length (GV.l v))/\PV.fitL S (z0c a (GV.b v)) 0 (GV.pvs (GV.l v))=true->(∃(p:Pub),zb6 v x a S p)->jm9 v x B a S n):=by kernel_rfl
def zfq:=λn S x B a v=>Eq.trans (zd7 n S x B a v) (by delta Ji Jb Jt Jf zb6 z7z j02 zzz j03 z93 zqy j8a zl2 j01 j9r zzy zb5 j00 jmf jmd jbw jme jmc jmb jma jm9;exact rfl)
section
variable (x0:Int) (x1:List AT) (x2:GV) (x3:SV) (x4:Int) (x5:EnS) (x6:Nat->Option Obj) (x7:Option Addr) (x8:Nat)
 abbrev jmi:=0=size (z2v x1 x0 (GV.pv x2)).2/\qhd x6 noA 0 0 (q19 (z2v x1 x0 (GV.pv x2)).2)
 def j8b:=∃(i0:Unit),noA=noA/\(0:Nat)=0/\(0:Nat)=0/\(z2v x1 x0 (GV.pv x2)).1=x4/\Pl noA/\True/\(∀i1,True/\z05 x1 x3 i1/\GV.ok x2 i1->jmi x0 x1 x2 i1)/\True
 abbrev j9s:=PV.enc x5.1 x5.2.2.2.1 (GV.pv x5.2.2.2.2) x5.2.2.1
 abbrev zsc:=(j9s x5).2
 def jbx:=(True/\z05 x1 x3 x6/\GV.ok x2 x6)/\size (zsc x5)<=x8/\qhc x6 x7 (take (size (zsc x5)*nat_lit 1) (q19 (zsc x5)))
 def jmj:=size (zsc x5)=size (z2v x1 x0 (GV.pv x2)).2/\qhd x6 x7 (size (zsc x5)) x8 (q19 (z2v x1 x0 (GV.pv x2)).2)
 def jmh:=Ji ((↑x3.2.1:Int)<=x0) (j8b x0 x1 x2 x3 1) (∃(i2:FtS),i2.2.1.1=x3.1/\i2.2.1.2.1=x3.2.1/\i2.2.1.2.2=x3.2.2/\i2.2.2.1=x0/\GV.n i2.2.2.2=GV.n x2/\GV.s i2.2.2.2=GV.s x2/\(GV.x i2.2.2.2).1=(GV.x x2).1/\(GV.x i2.2.2.2).2.1=(GV.x x2).2.1/\(GV.x i2.2.2.2).2.2=(GV.x x2).2.2/\(GV.y i2.2.2.2).1=(GV.y x2).1/\(GV.y i2.2.2.2).2.1=(GV.y x2).2.1/\(GV.y i2.2.2.2).2.2=(GV.y x2).2.2/\GV.b i2.2.2.2=GV.b x2/\(small i2.1/\PV.sm (GV.pv i2.2.2.2))/\(∀i3,True/\z05 x1 x3 i3/\GV.ok x2 i3->z05 i2.1 i2.2.1 i3/\GV.ok i2.2.2.2 i3)/\((!PV.fits i2.1 i2.2.2.1 (GV.pv i2.2.2.2))=true->j8b x0 x1 x2 x3 7)/\((!PV.fits i2.1 i2.2.2.1 (GV.pv i2.2.2.2))=false->∃(i6:EnS),i6.2.2.2.1=x0/\GV.n i6.2.2.2.2=GV.n x2/\GV.s i6.2.2.2.2=GV.s x2/\(GV.x i6.2.2.2.2).1=(GV.x x2).1/\(GV.x i6.2.2.2.2).2.1=(GV.x x2).2.1/\(GV.x i6.2.2.2.2).2.2=(GV.x x2).2.2/\(GV.y i6.2.2.2.2).1=(GV.y x2).1/\(GV.y i6.2.2.2.2).2.1=(GV.y x2).2.1/\(GV.y i6.2.2.2.2).2.2=(GV.y x2).2.2/\GV.b i6.2.2.2.2=GV.b x2/\i6.2.1.1=x3.1/\i6.2.1.2.1=x3.2.1/\i6.2.1.2.2=x3.2.2/\size i6.2.2.1=0/\(small i6.1/\PV.sz (GV.pv i6.2.2.2.2)/\(size i6.2.2.1+PV.wt (GV.pv i6.2.2.2.2)<100000000000000/\PV.wt (GV.pv i6.2.2.2.2)<90000000000000)/\PV.fits i6.1 i6.2.2.2.1 (GV.pv i6.2.2.2.2)=true)/\(∀i7,True/\z05 x1 x3 i7/\GV.ok x2 i7->z05 i6.1 i6.2.1 i7/\GV.ok i6.2.2.2.2 i7)/\((!(j9s i6).1)=true->j8b x0 x1 x2 x3 3)/\((!(j9s i6).1)=false->∀(i10 i11 i12:Nat) (i13:Option Addr) (i14 i15:Nat),(∃i16,jbx x1 x2 x3 i6 i16 i13 i15)->∃(i17:Unit),i13=i13/\size (zsc i6)=size (zsc i6)/\i15=i15/\(z2v x1 x0 (GV.pv x2)).1=0/\Pl i13/\True/\(∀i18,jbx x1 x2 x3 i6 i18 i13 i15->jmj x0 x1 x2 i6 i18 i13 i15)/\True)))
 def jmg:=Ji (x0<0) (j8b x0 x1 x2 x3 1) (jmh x0 x1 x2 x3)
end
def zdg(S:List AT) (x:SV) (t:Int) (v:GV):qki P (qfv [(16,z9e),(44,z1j)]) Try.f21 z6j (zim) ⟨S,x,t,v⟩=(small S/\PV.sz (GV.pv v)/\PV.wt (GV.pv v)<90000000000000->(∃(p:Pub),True/\z05 S x p/\GV.ok v p)->jmg t S v x):=by kernel_rfl
def zge:=λS x t v=>Eq.trans (zdg S x t v) (by delta Ji Jt Jf jmi j8b j9s zsc jbx jmj jmh jmg;exact rfl)
def z3b(a b:ByteArray):q19 (a++b)=q19 a++q19 b:=by
 unfold q19
 rw[ByteArray.data_append,Array.toList_append,List.map_append]
def z0b(a b:ByteArray):(a++b).size=a.size+b.size:=ByteArray.size_append
def zr8(c:Nat) (h:c<256):q19 (mkS [c])=[.int .u8 (c:Nat)]:=by
 simp[q19,mkS]
 omega
def z99(c:Nat):(mkS [c]).size=1:=rfl
def zfk{a b:ByteArray} (h:q19 a=q19 b):a=b:=by
 unfold q19 at h
 apply ByteArray.ext;apply Array.toList_inj.mp
 refine List.map_inj_right (f:=λb:UInt8=>Value.int .u8 (b.toNat:Nat)) (λx y e=> ?_)|>.mp h
 injection e with _ e
 exact UInt8.toNat_inj.mp (by omega)
def zbb(b:ByteArray):List.length (q19 b)=b.size*1:=by rw[q33,Nat.mul_one]
def z0n(b:ByteArray):b++mkS []=b:=by
 apply zfk;rw[z3b];show _++[]=_;rw[List.append_nil]
def z2p(n:Int):∀j,(fxB n j).size=j
 |0=>rfl
 |j+1=>by rw[fxB,z0b,z2p n j,z99]
def z1o(n:Int) (h1: -9223372036854775808<=n) (h2:n<9223372036854775808):(vz n).size<=10:=by
 have:=Go.Proofs.Ytpanaicglidfjaa.Rv.venc_ten (zg n) (j0h h1 h2)
 simpa[vz,ByteArray.size]using this
def zuk(m:Int):shP .shl .u64 m 1=(m*2) % 18446744073709551616:=by
 show IntKind.wrap .u64 (m*2 ^ min (1:Int).toNat 64)=_
 rw[wrap_u64];rfl
def ja9(n:Int):shP .shr .i64 n 63=n / 9223372036854775808:=by
 show Int.fdiv n (2 ^ min (63:Int).toNat 64)=_
 rw[show(2:Int) ^ min (63:Int).toNat 64=9223372036854775808 from rfl,Int.fdiv_eq_ediv_of_nonneg _ (by omega)]
def zja(r:Nat) (h:r<18446744073709551616):qb6 .xor .u64 (r:Int) 0=(r:Int):=by
 show IntKind.wrap .u64 (BitVec.ofInt 64 (r:Int) ^^^ BitVec.ofInt 64 0).toNat=_
 rw[show BitVec.ofInt 64 0=0#64 from rfl,BitVec.xor_zero,z59 _ h,wrap_u64]
 omega
def zo6(r:Nat) (h:r<18446744073709551616):qb6 .xor .u64 (r:Int) 18446744073709551615=((18446744073709551615- r:Nat):Int):=by
 show IntKind.wrap .u64 (BitVec.ofInt 64 (r:Int) ^^^ BitVec.ofInt 64 18446744073709551615).toNat=_
 rw[show BitVec.ofInt 64 18446744073709551615=BitVec.allOnes 64 from rfl,BitVec.xor_allOnes,BitVec.toNat_not,z59 _ h,wrap_u64]
 omega
def j0j:q58 P 136 zss:=by
 refine qkl mixed z0u (W:=λ_=>{}) Try.func136 (by kernel_rfl) (by decide) (by decide) (λs=>by kernel_rfl) λ(n:Int)=>(j0i n).mpr ?_
 rintro⟨h1,h2⟩
 refine⟨by decide,by decide,?_,trivial⟩
 rw[zj5 n h1 h2,ja9,zuk]
 unfold zg
 by_cases h:0<=n
 ·rw[if_pos h,show n / 9223372036854775808=0 by omega,show IntKind.wrap .u64 0=0 from rfl]
  obtain⟨r,hr⟩:=Int.eq_ofNat_of_zero_le (show 0<=n % 18446744073709551616*2 % 18446744073709551616 by omega)
  rw[hr,zja r (by omega)]
  omega
 ·rw[if_neg h,show n / 9223372036854775808= -1 by omega,show IntKind.wrap .u64 (-1)=18446744073709551615 from rfl]
  obtain⟨r,hr⟩:=Int.eq_ofNat_of_zero_le (show 0<=n % 18446744073709551616*2 % 18446744073709551616 by omega)
  rw[hr,zo6 r (by omega)]
  omega
def j1x:q58 P 103 j0m:=by
 refine qkl mixed (qdh (qh9 j0j qk5)) (W:=λ_=>{}) Try.func103 (by kernel_rfl) (by decide) (by decide) (λs=>by kernel_rfl) λ(n:Int)=>(j1w n).mpr ?_
 exactλh=>⟨n,rfl,h,rfl,trivial⟩
def zu3:q58 P 102 zlq:=
 qkb (Sen.enters_of Try.func102 (by kernel_rfl)) (by decide) (by decide) (λ(z:Nat)=>[.int .u64 (z:Int)]) (λ(z:Nat)=> .string ⟨(Go.Proofs.Ytpanaicglidfjaa.Rv.venc z).toArray⟩) (λs=>rfl) (λs=>rfl) (λs=>rfl) (λs=>rfl)
  (λs I=> .sv _) λ(z:Nat) w h=>Go.Proofs.Ytpanaicglidfjaa.Rv.put_any z w h
def z72:q58 P 66 z89:=by
 refine qkl mixed (qdh (qh9 j1x (qh9 zu3 qk5))) (W:=λ_=>{}) Try.func66 (by kernel_rfl) (by decide) (by decide) (λs=>by kernel_rfl) λ⟨(x:SV),B,(n:Int)⟩=>(zmu x B n).mpr ?_
 rintro⟨hB,h1,h2⟩
 have hz:(vz n).size<=10:=z1o n h1 h2
 refine⟨n,(wrap_u64 n).symm,⟨h1,h2⟩,zg n,rfl,j0h h1 h2,?_⟩
 and_intros
 all_goals first|exact rfl|exact z0b _ _|exact z3b _ _|exact zbb _|trivial|skip
 show(B.size+(vz n).size)*1<=_
 omega
def jnb:∀j:Nat,j<8->∀n:Int,shP .shr .u64 n (IntKind.wrap .u64 (8*IntKind.wrap .u64 (j:Int)))=n / (2 ^ (8*j):Nat):=λj hj n=>by
 rw[wrap_u64,wrap_u64,show 8*((j:Int) % 18446744073709551616) % 18446744073709551616=((8*j:Nat):Int)by omega]
 show Int.fdiv n (2 ^ min ((8*j:Nat):Int).toNat 64)=_
 rw[Int.toNat_natCast,Nat.min_eq_left (by omega),Int.fdiv_eq_ediv_of_nonneg _ (Int.le_of_lt (Int.pow_pos (by decide)))]
 norm_cast
def zgo:q58 P 65 z6l:=by
 refine qkl mixed z0u (W:=zin) Try.func65 (by kernel_rfl) (by decide) (by decide) (λs=>by kernel_rfl) λ⟨(x:SV),B,(n:Int),(k:Int)⟩=>(zgn x B n k).mpr ?_
 rintro⟨hB,hk0,hk8,hn0,hn1⟩
 simp only[decide_eq_true_eq,decide_eq_false_iff_not,and_true,true_and]
 refine⟨⟨0,rfl,by rw[fxB,z0n],by rw[fxB,z0n],by omega⟩,?_⟩
 intro j hj
 refine⟨λhlt=>⟨?_,zbb _,?_,⟨by omega,by omega⟩,j+1,rfl,?_,?_,by omega,by omega⟩,λhge=> ?_⟩
 ·rw[wrap_u64];omega
 ·rw[z0b,z2p];omega
 ·rw[z0b,z0b,z2p,z2p];omega
 ·rw[jnb j (by omega),fxB,z3b,z3b,z3b,zr8 _ (by omega),z8q,List.append_assoc]
  have e2:(2:Int) ^ (8*j)=((2 ^ (8*j):Nat):Int):=by norm_cast
  rw[e2]
  generalize n / ((2 ^ (8*j):Nat):Int)=m
  rw[show((m % 256).toNat:Int)=m % 256 by omega]
 ·obtain rfl:j=k.toNat:=by omega
  exact⟨rfl,rfl⟩
def zck:q58 P 67 zbk:=by
 refine qkl mixed (qdh (qh9 z72 qk5)) (W:=λ_=>{}) Try.func67 (by kernel_rfl) (by decide) (by decide) (λs=>by kernel_rfl) λ⟨(x:SV),B,s⟩=>(zno x B s).mpr ?_
 intro hB
 have hB:B.size+s.size<130000000000000:=hB
 have hz:=z1o (s.size:Int) (by omega) (by omega)
 refine⟨⟨x,B,s.size⟩,rfl,rfl,rfl,rfl,rfl,rfl,⟨by show B.size<_;omega,by show _<=(s.size:Int);omega,by show(s.size:Int)<_;omega⟩,zbb _,?_,rfl,rfl,rfl,z0b _ _,z3b _ _,trivial⟩
 rw[z0b];show(B.size+(vz (s.size:Int)).size+s.size)*1<=_
 omega
section
variable {S:List AT} {B:ByteArray}
def z6w{t:Int} {v:PV} (h:(PV.enc S t v B).1=true):(PV.enc S t v B).2.size<=5000:=by
  obtain⟨n,s,l,ks,b⟩:=v
  rw[PV.enc]at h⊢
  cases hs:S[t.toNat]? with
  |none=>rw[hs]at h;simp at h
  | some a=>
    rw[hs]at h
    simp only[Bool.and_eq_true,decide_eq_true_eq]at h⊢
    exact h.2
variable {f:Nat->Int} {ks:List ByteArray} {l:List PV} {j:Nat}
def zgb(h:j<l.length):PV.encL S f ks j (l.drop j) B=if(PV.enc S (f j) l[j] (B++z3u ks j)).1=true then PV.encL S f ks (j+1) (l.drop (j+1)) (PV.enc S (f j) l[j] (B++z3u ks j)).2 else(false,(PV.enc S (f j) l[j] (B++z3u ks j)).2):=by
 rw[List.drop_eq_getElem_cons h,PV.encL]
def z6t(h:l.length<=j):PV.encL S f ks j (l.drop j) B=(true,B):=by
 rw[List.drop_of_length_le h,PV.encL]
def zs9:∀{l:List PV} {i:Nat} (h:i<l.length),l[i].wt<=PV.wts l
  |v::l,0,h=>by rw[PV.wts];show v.wt<=_;omega
  | v::l,i+1,h=>by
    have h':i<l.length:=by simpa using h
    have:=zs9 h'
    rw[PV.wts]
    show l[i].wt<=_
    omega
def zrl:∀{l:List ByteArray} {i:Nat} (h:i<l.length),l[i].size+10<=kzs l
  |v::l,0,h=>by rw[kzs];show v.size+10<=_;omega
  | v::l,i+1,h=>by
    have h':i<l.length:=by simpa using h
    have:=zrl h'
    rw[kzs]
    show l[i].size+10<=_
    omega
def GV.wt_eq(v:GV):v.pv.wt=30+0*v.s.size+kzs v.ks+PV.wts (GV.pvs v.l):=by rw[GV.pv_eq,PV.wt]
variable {v:GV}
def GV.wt_at{i:Nat} (hi:i<v.l.length):30+kzs v.ks+v.l[i].pv.wt<=v.pv.wt:=by
 have:=zs9 (l:=GV.pvs v.l) (i:=i) (by rw[GV.pvs_len];exact hi)
 rw[z3i hi]at this
 have e:=GV.wt_eq v
 omega
def GV.wt_len(v:GV):30*v.l.length<=v.pv.wt:=by
 have:=za3 (GV.pvs v.l)
 rw[GV.pvs_len]at this
 rw[GV.wt_eq]
 omega
def GV.sz_at(h:v.pv.sz) {i:Nat} (hi:i<v.l.length):v.l[i].pv.sz:=by
 refine⟨GV.sm_at h.1 hi,?_⟩
 have h2:=h.2
 rw[GV.pv_eq,PV.ss]at h2
 have hp:=z3i hi
 exact z7b.1 h2.2 _ (by rw[←hp];exact List.getElem_mem _)
def GV.ss_s(h:v.pv.sz):v.s.size<=1000001:=by
 have h2:=h.2
 rw[GV.pv_eq,PV.ss]at h2
 exact h2.1
def z1h(hj:j<v.l.length):SizeOf.sizeOf v.l[j]<SizeOf.sizeOf v:=by
 have h1:=z7a hj
 have:SizeOf.sizeOf v.l<SizeOf.sizeOf v:=by cases v;simp[GV.l];omega
 omega
def zgh(hj:j<v.l.length) (h:PV.fitL S f j ((GV.pvs v.l).drop j)=true):PV.fits S (f j) v.l[j].pv=true/\PV.fitL S f (j+1) ((GV.pvs v.l).drop (j+1))=true:=by
 have hd:=z53 (S:=S) (f:=f) (l:=GV.pvs v.l) (j:=j) (by rw[GV.pvs_len];exact hj)
 rw[z3i hj]at hd
 rw[hd,Bool.and_eq_true]at h
 exact h
def zgd(hj:j<v.l.length):PV.encL S f ks j ((GV.pvs v.l).drop j) B=if(PV.enc S (f j) v.l[j].pv (B++z3u ks j)).1=true then PV.encL S f ks (j+1) ((GV.pvs v.l).drop (j+1)) (PV.enc S (f j) v.l[j].pv (B++z3u ks j)).2 else(false,(PV.enc S (f j) v.l[j].pv (B++z3u ks j)).2):=by
 have:=zgb (S:=S) (f:=f) (ks:=ks) (l:=GV.pvs v.l) (j:=j) (B:=B) (by rw[GV.pvs_len];exact hj)
 rw[z3i hj]at this
 exact this
def z2r(j:Nat):z3u [] j=mkS []:=by simp[z3u]
def ze3(n:Nat) (hv0:q58 P 44 (z1j.below zdu n)):q58 P 68 (z4w.below zhd (n+1)):=by
 refine qkl mixed (qdh (qh9 hv0 qk5)) (W:=zcy) Try.func68 (by kernel_rfl) (show 1<=4 by decide) (show 4<=6 by decide) (λs=>by kernel_rfl) λ⟨S,(x:SV),B,a,v⟩=>(ze2 n S x B a v).mpr ?_
 rintro⟨hmu,hS,hv,⟨hB,hw⟩,hk,hl,hks,hfit⟩ ⟨p,_,hx,ha,hvo⟩
 have hmu:SizeOf.sizeOf v<n+1:=hmu
 have xl:=GV.x_len hvo
 have fl:a.f.2.1=a.fs.length:=ha.2.2.1.1
 have wl:=GV.wt_len v
 simp only[sbS,Int.toNat_natCast,xl,fl]
 refine⟨⟨⟨0,B⟩,rfl,rfl,rfl,by show 0<=_;omega, .inr (Nat.le_refl _),hfit,rfl⟩,?_⟩
 rintro⟨j,C⟩ ⟨hj,hC,hf,he⟩
 simp only at*
 refine⟨λhlt=> ?_,λhge=> ?_⟩
 ·have hjf:j<a.fs.length:=by omega
  have hjl:j<v.l.length:=by omega
  have hty:z0c a v.b j=a.fs[j].ty:=by unfold z0c;rw[if_pos hk,List.getElem?_eq_getElem hjf]
  have hd:=zgh hjl hf
  have hs:=zgd (S:=S) (f:=z0c a v.b) (ks:=v.ks) (B:=C) hjl
  rw[hks,z2r,z0n,←hks]at hs
  rw[hty]at hd hs
  refine⟨by omega,(z1y ha hjf).1,a.fs[j].nm,a.fs[j].al.1,a.fs[j].al.2.1,a.fs[j].al.2.2,a.fs[j].ty,a.fs[j].hd,a.fs[j].df.k,a.fs[j].df.n,a.fs[j].df.s,a.fs[j].df.y.1,a.fs[j].df.y.2.1,a.fs[j].df.y.2.2,a.fs[j].df.x.1,a.fs[j].df.x.2.1,a.fs[j].df.x.2.2,λq hq=>(z1y hq.2.1 hjf).2,by omega,(GV.cells_at hvo hjl).1,v.l[j].n,v.l[j].s,v.l[j].x.1,v.l[j].x.2.1,v.l[j].x.2.2,v.l[j].y.1,v.l[j].y.2.1,v.l[j].y.2.2,v.l[j].b,λq hq=>(GV.cells_at hq.2.2 hjl).2,⟨S,x,C,a.fs[j].ty,v.l[j]⟩,?_⟩
  simp only[true_and,eq_self]
  have:=z1h hjl
  have:=GV.wt_at hjl
  refine⟨⟨by show SizeOf.sizeOf v.l[j]<n;omega,hS,GV.sz_at hv hjl,⟨by show C.size+v.l[j].pv.wt<_;omega,by show v.l[j].pv.wt<_;omega⟩,hd.1⟩,λq hq=>⟨hq.1,GV.ok_at hq.2.2 hjl⟩,λhb=> ?_,λhb=> ?_⟩
  ·rw[←he,hs,if_neg (by rw[hb];decide)]
   exact⟨rfl,rfl,rfl⟩
  ·have hz:=z6w hb
   refine⟨⟨by omega,by omega⟩,⟨j+1,(PV.enc S a.fs[j].ty v.l[j].pv C).2⟩,by show((j+1:Nat):Int)=_;omega,rfl,rfl,⟨by show j+1<=_;omega, .inl hz,hd.2,?_⟩,by show _- (j+1)<_;omega⟩
   rw[←he,hs,if_pos hb]
 ·rw[←he,z6t (by rw[GV.pvs_len];omega)]
  exact⟨rfl,rfl,rfl⟩
def z9p(h:j<ks.length):z3u ks j=vz (ks[j].size:Nat)++ks[j]:=by
 unfold z3u;rw[List.getElem?_eq_getElem h]
def zfr(n:Nat) (hv0:q58 P 44 (z1j.below zdu n)):q58 P 69 (z6h.below zhd (n+1)):=by
 refine qkl mixed (qdh (qh9 z72 (qh9 zck (qh9 hv0 qk5)))) (W:=zij) Try.func69 (by kernel_rfl) (show 1<=4 by decide) (show 4<=6 by decide) (λs=>by kernel_rfl) λ⟨S,(x:SV),B,a,v⟩=>(zfq n S x B a v).mpr ?_
 rintro⟨hmu,hS,hv,⟨hB,hw⟩,hk,hfit⟩ ⟨p,_,hx,ha,hvo⟩
 have hmu:SizeOf.sizeOf v<n+1:=hmu
 have xl:=GV.x_len hvo
 have yl:=GV.y_len hvo
 have wl:=GV.wt_len v
 have kl:v.ks.length=0\/v.ks.length=v.l.length:=hk.elim (λh=> .inl (by rw[h.2];rfl)) (λh=> .inr h.2)
 simp only[sbS,Int.toNat_natCast,exists_const,xl,yl]
 have hz0:=z1o (v.l.length:Int) (by omega) (by omega)
 have hblz:(blB v.l.length B).size<=B.size+10:=by
  unfold blB
  split
  ·rw[z0b];omega
  ·omega
 refine⟨⟨λhlt=>⟨⟨x,B,v.l.length⟩,?_⟩,λhge=> ?_⟩,?_⟩
 ·unfold blB
  rw[if_pos (by omega)]
  refine⟨rfl,rfl,rfl,rfl,rfl,rfl,⟨?_,?_,?_⟩,rfl,rfl,rfl,rfl,rfl⟩
  ·show B.size<_;omega
  ·show -9223372036854775808<=(v.l.length:Int);omega
  ·show(v.l.length:Int)<_;omega
 ·unfold blB
  rw[if_neg (by omega)]
  exact⟨rfl,rfl⟩
 rintro _ _
 refine⟨⟨⟨0,blB v.l.length B⟩,rfl,rfl,rfl,by show 0<=_;omega, .inr hblz,hfit,rfl⟩,?_⟩
 rintro⟨j,C⟩ ⟨hj,hC,hf,he⟩
 simp only at*
 refine⟨λhlt=> ?_,λhge=> ?_⟩
 ·have hjl:j<v.l.length:=by omega
  have hty:z0c a v.b j=a.it:=by
   unfold z0c
   rw[if_neg (by omega),if_neg (by omega)]
  have hd:=zgh hjl hf
  have hs:=zgd (S:=S) (f:=z0c a v.b) (ks:=v.ks) (B:=C) hjl
  rw[hty]at hd hs
  have hsz:=z1h hjl
  have hwt:=GV.wt_at hjl
  have hfail:∀D,D=C++z3u v.ks j->(PV.enc S a.it v.l[j].pv D).1=false->enB S a v B=(false,(PV.enc S a.it v.l[j].pv D).2):=λD hD hb=>by
   subst hD
   unfold enB
   rw[←he,hs,if_neg (show¬(PV.enc S a.it v.l[j].pv (C++z3u v.ks j)).1=true by rw[hb];decide)]
   rfl
  have hgo:∀D,D=C++z3u v.ks j->(PV.enc S a.it v.l[j].pv D).1=true->PV.encL S (z0c a v.b) v.ks (j+1) ((GV.pvs v.l).drop (j+1)) (PV.enc S a.it v.l[j].pv D).2=PV.encL S (z0c a v.b) v.ks 0 (GV.pvs v.l) (blB v.l.length B):=λD hD hb=>by
   subst hD
   rw[←he,hs,if_pos hb]
  refine⟨by omega,(GV.cells_at hvo hjl).1,v.l[j].n,v.l[j].s,v.l[j].x.1,v.l[j].x.2.1,v.l[j].x.2.2,v.l[j].y.1,v.l[j].y.2.1,v.l[j].y.2.2,v.l[j].b,λq hq=>(GV.cells_at hq.2.2 hjl).2,λh13=> ?_,λh13=> ?_⟩
  ·have hjk:j<v.ks.length:=by omega
   have hkz:=zrl hjk
   have hvz:=z1o (v.ks[j].size:Int) (by omega) (by omega)
   have hD:C++vz (v.ks[j].size:Nat)++v.ks[j]=C++z3u v.ks j:=by rw[z9p hjk,ByteArray.append_assoc]
   have hDz:(C++vz (v.ks[j].size:Nat)++v.ks[j]).size=C.size+(vz (v.ks[j].size:Nat)).size+v.ks[j].size:=by rw[z0b,z0b]
   have hy:=λq (hq:GV.ok v q)=>z7f (show slP txV v.y v.ks q by rw[GV.ok_eq]at hq;exact hq.2.1) hjk
   refine⟨by omega,(hy p hvo).1,v.ks[j],λq hq=>(hy q hq.2.2).2,⟨x,C,v.ks[j]⟩,?_⟩
   simp only[true_and,eq_self]
   refine⟨by show C.size+v.ks[j].size<_;omega,⟨S,x,C++vz (v.ks[j].size:Nat)++v.ks[j],a.it,v.l[j]⟩,?_⟩
   simp only[true_and,eq_self]
   refine⟨⟨by show SizeOf.sizeOf v.l[j]<n;omega,hS,GV.sz_at hv hjl,⟨by show(C++vz (v.ks[j].size:Nat)++v.ks[j]).size+v.l[j].pv.wt<_;omega,by show v.l[j].pv.wt<_;omega⟩,hd.1⟩,λq hq=>⟨hq.1,GV.ok_at hq.2.2 hjl⟩,λhb=> ?_,λhb=> ?_⟩
   ·rw[hfail _ hD hb]
    exact⟨rfl,rfl,rfl⟩
   ·have hz:=z6w hb
    refine⟨⟨by omega,by omega⟩,⟨j+1,(PV.enc S a.it v.l[j].pv (C++vz (v.ks[j].size:Nat)++v.ks[j])).2⟩,by show((j+1:Nat):Int)=_;omega,rfl,rfl,⟨by show j+1<=_;omega, .inl hz,hd.2,hgo _ hD hb⟩,by show _- (j+1)<_;omega⟩
  ·have hks:v.ks=[]:=by
    rcases hk with h|h
    ·exact h.2
    ·exact absurd h.1 h13
   have hD:C=C++z3u v.ks j:=by rw[hks,z2r,z0n]
   refine⟨⟨S,x,C,a.it,v.l[j]⟩,?_⟩
   simp only[true_and,eq_self]
   refine⟨⟨by show SizeOf.sizeOf v.l[j]<n;omega,hS,GV.sz_at hv hjl,⟨by show C.size+v.l[j].pv.wt<_;omega,by show v.l[j].pv.wt<_;omega⟩,hd.1⟩,λq hq=>⟨hq.1,GV.ok_at hq.2.2 hjl⟩,λhb=> ?_,λhb=> ?_⟩
   ·rw[hfail _ hD hb]
    exact⟨rfl,rfl,rfl⟩
   ·have hz:=z6w hb
    refine⟨⟨by omega,by omega⟩,⟨j+1,(PV.enc S a.it v.l[j].pv C).2⟩,by show((j+1:Nat):Int)=_;omega,rfl,rfl,⟨by show j+1<=_;omega, .inl hz,hd.2,hgo _ hD hb⟩,by show _- (j+1)<_;omega⟩
 ·rw[z6t (by rw[GV.pvs_len];omega)]at he
  have hen:enB S a v B=(true,C++vz 0):=by
   unfold enB
   rw[←he];rfl
  refine⟨⟨x,C,0⟩,rfl,rfl,rfl,rfl,rfl,rfl,⟨by show C.size<_;omega,by show(-9223372036854775808:Int)<=0;omega,by show(0:Int)<_;omega⟩,?_⟩
  rw[hen]
  exact⟨rfl,rfl,rfl,rfl,rfl,rfl⟩
end
section
variable {a:AT}
def z1m{n:Nat} {ks:List ByteArray} {b:Int} (h:okP a n ks b=true):(a.k≠13->ks=[])/\(a.k=9->n=a.fs.length)/\(a.k=14->0<=b/\b<a.brs.length/\n=1)/\(a.k=13->n=ks.length):=by
 unfold okP at h
 split at h
 ·cases h
 rename_i h0
 refine⟨λhk=>List.length_eq_zero_iff.1 (by omega),λhk=> ?_,λhk=> ?_,λhk=> ?_⟩
 ·rw[if_pos hk]at h;simpa using h
 ·rw[if_neg (by omega),if_pos hk]at h;simpa using h
 ·rw[if_neg (by omega),if_neg (by omega),if_pos hk,Bool.and_eq_true]at h;simpa using h.1
variable {S:List AT} {t:Int} {v:GV}
def zrg(hs:S[t.toNat]? =some a) (h:PV.fits S t v.pv=true) (hq:isQ a.k=true):okP a v.l.length v.ks v.b=true/\PV.fitL S (z0c a v.b) 0 (GV.pvs v.l)=true:=by
 rw[GV.pv_eq,PV.fits,GV.pvs_len]at h
 split at h
 ·cases h
 rw[hs]at h
 have hq2:=hq
 unfold isQ at hq2
 rw[decide_eq_true_eq]at hq2
 have hn:isN a.k=false:=by unfold isN;exact decide_eq_false (by omega)
 have ht:isT a.k=false:=by unfold isT;exact decide_eq_false (by omega)
 simp only[hn,ht,hq,if_true,Bool.false_eq_true,if_false,Bool.and_eq_true]at h
 exact⟨h.1.1.1,h.1.1.2⟩
def z6x{v:PV} (h:PV.fits S t v=true):0<=t/\t<S.length:=by
 obtain⟨n,s,l,ks,b⟩:=v
 rw[PV.fits]at h
 split at h
 ·cases h
 ·omega
def z1v(n:Int): -9223372036854775808<=IntKind.wrap .i64 n/\IntKind.wrap .i64 n<9223372036854775808:=by
 simp[IntKind.wrap,IntKind.bits,IntKind.signed]
 omega
def z95(S:List AT) (a:AT) (v:GV) (B:ByteArray):Bool×ByteArray:=
 if a.k=2 then(true,B++fxB v.n 1)else
 if a.k=3\/a.k=4\/a.k=10 then(true,B++vz (IntKind.wrap .i64 v.n))else
 if a.k=5 then(true,B++fxB v.n 4)else
 if a.k=6 then(true,B++fxB v.n 8)else
 if a.k=7\/a.k=8 then(true,B++vz v.s.size++v.s)else
 if a.k=11 then(true,B++v.s)else
 if a.k=14 then PV.encL S (z0c a v.b) v.ks 0 (GV.pvs v.l) (B++vz v.b)else
 if a.k=9 then PV.encL S (z0c a v.b) v.ks 0 (GV.pvs v.l) B else
 if a.k=12\/a.k=13 then enB S a v B else(true,B)
variable {B:ByteArray}
def j15(hs:S[t.toNat]? =some a):PV.enc S t v.pv B=((z95 S a v B).1&&decide ((z95 S a v B).2.size<=5000),(z95 S a v B).2):=by
 rw[GV.pv_eq,PV.enc,hs,GV.pvs_len]
 rfl
def zt0(hs:S[t.toNat]? =some a) {r:Bool×ByteArray} (h:z95 S a v B=r):(r.1=true->(PV.enc S t v.pv B).1=decide ((r.2.size:Int)<=5000))/\(r.1=false->(PV.enc S t v.pv B).1=false)/\(PV.enc S t v.pv B).2=r.2:=by
 rw[j15 hs,h]
 refine⟨λh=> ?_,λh=> ?_,rfl⟩
 ·rw[h,Bool.true_and];exact z08 (by omega)
 ·rw[h,Bool.false_and]
def zif(n:Nat) (hv0:q58 P 44 (z1j.below zdu n)) (hr0:q58 P 68 (z4w.below zhd (n+1))) (hb0:q58 P 69 (z6h.below zhd (n+1))):q58 P 44 (z1j.below zdu (n+1)):=by
 refine qkl mixed (qdh (qh9 z72 (qh9 zgo (qh9 zck (qh9 hr0 (qh9 hb0 (qh9 hv0 qk5))))))) (W:=ziy) Try.func44 (by kernel_rfl) (show 1<=4 by decide) (show 4<=6 by decide) (λs=>by kernel_rfl) λ⟨S,(x:SV),B,(t:Int),v⟩=>(zie n S x B t v).mpr ?_
 rintro⟨hmu,hS,hv,⟨hB,hw⟩,hfit⟩ ⟨p,_,hx,hvo⟩
 have hmu:SizeOf.sizeOf v<n+1:=hmu
 have xs:x.2.1=S.length:=hx.1.1
 have xl:=GV.x_len hvo
 have wl:=GV.wt_eq v
 have hvs:=hv.1
 have hs1:=GV.ss_s hv
 rw[GV.sm_eq]at hvs
 obtain⟨hn,hss,vl,kl,ksz,_⟩:=hvs
 obtain⟨t0,t1⟩:=z6x hfit
 simp only[sbS,Int.toNat_natCast,exists_const]
 obtain⟨j,rfl⟩:=Int.eq_ofNat_of_zero_le t0
 have hj:j<S.length:=by omega
 have hsj:S[((j:Nat):Int).toNat]? =some S[j]:=by rw[Int.toNat_natCast,List.getElem?_eq_getElem hj]
 have hat:=λq (hq:z05 S x q/\v.ok q)=>z2d hq.1 hj
 have hao:=λq (hq:z05 S x q/\v.ok q)=>hq.1.2 S[j] (List.getElem_mem hj)
 refine⟨⟨by omega,by omega⟩,(hat p ⟨hx,hvo⟩).1,S[j].k,S[j].nm,S[j].al.1,S[j].al.2.1,S[j].al.2.2,S[j].it,S[j].sy.1,S[j].sy.2.1,S[j].sy.2.2,S[j].hd,S[j].df,S[j].sz,S[j].f.1,S[j].f.2.1,S[j].f.2.2,S[j].br.1,S[j].br.2.1,S[j].br.2.2,λq hq=>(hat q hq).2,?_⟩
 have hsm:=hS.2 S[j] (List.getElem_mem hj)
 have hao2:=λq (hq:z05 S x q/\v.ok q)=>hao q hq
 have hqq:=zrg (v:=v) hsj hfit
 have ef:=λ(r:Bool×ByteArray) (h:z95 S S[j] v B=r)=>zt0 (t:=((j:Nat):Int)) (v:=v) (B:=B) hsj h
 have bl:S[j].br.2.1=S[j].brs.length:=(hao p ⟨hx,hvo⟩).2.2.2.1.1
 generalize S[j]=a at*
 generalize PV.enc S (j:Int) v.pv B=R at*
 refine⟨λh2=> ?_,λh2=>⟨⟨λh=>by unfold z5n;exact z08 (by omega),λh3=>⟨λh=>by unfold z5n;exact z08 (by omega),λh4=>by unfold z5n;exact z08 (by omega)⟩⟩,?_⟩⟩
 ·obtain⟨e1,_,e2⟩:=ef _ (by unfold z95;rw[if_pos h2])
  refine⟨⟨x,B,v.n,1⟩,rfl,rfl,rfl,rfl,rfl,rfl,rfl,⟨by show B.size<_;omega,by show(0:Int)<=1;omega,by show(1:Int)<=8;omega,hn.1,hn.2⟩,e1 rfl,rfl,rfl,rfl,by rw[e2];rfl,by rw[e2];rfl⟩
 intro _ _
 refine⟨λhL=> ?_,λhL=> ?_⟩
 ·have hL2:=hL
  unfold z5n at hL2
  rw[decide_eq_true_eq]at hL2
  obtain⟨e1,_,e2⟩:=ef _ (by unfold z95;rw[if_neg h2,if_pos hL2])
  have hw64:=z1v v.n
  refine⟨⟨x,B,IntKind.wrap .i64 v.n⟩,rfl,rfl,rfl,rfl,rfl,rfl,⟨by show B.size<_;omega,hw64.1,hw64.2⟩,e1 rfl,rfl,rfl,rfl,by rw[e2],by rw[e2]⟩
 have hL2:=hL
 unfold z5n at hL2
 rw[decide_eq_false_iff_not]at hL2
 refine⟨λh5=> ?_,λh5=>⟨λh6=> ?_,λh6=>⟨⟨λh=>by unfold z81;exact z08 (by omega),λh=>by unfold z81;exact z08 (by omega)⟩,?_⟩⟩⟩
 ·obtain⟨e1,_,e2⟩:=ef _ (by unfold z95;rw[if_neg h2,if_neg hL2,if_pos h5])
  refine⟨⟨x,B,v.n,4⟩,rfl,rfl,rfl,rfl,rfl,rfl,rfl,⟨by show B.size<_;omega,by show(0:Int)<=4;omega,by show(4:Int)<=8;omega,hn.1,hn.2⟩,e1 rfl,rfl,rfl,rfl,by rw[e2];rfl,by rw[e2];rfl⟩
 ·obtain⟨e1,_,e2⟩:=ef _ (by unfold z95;rw[if_neg h2,if_neg hL2,if_neg h5,if_pos h6])
  refine⟨⟨x,B,v.n,8⟩,rfl,rfl,rfl,rfl,rfl,rfl,rfl,⟨by show B.size<_;omega,by show(0:Int)<=8;omega,by show(8:Int)<=8;omega,hn.1,hn.2⟩,e1 rfl,rfl,rfl,rfl,by rw[e2];rfl,by rw[e2];rfl⟩
 intro _ _
 refine⟨λhb=> ?_,λhb=> ?_⟩
 ·have hb2:=hb
  unfold z81 at hb2
  rw[decide_eq_true_eq]at hb2
  obtain⟨e1,_,e2⟩:=ef _ (by unfold z95;rw[if_neg h2,if_neg hL2,if_neg h5,if_neg h6,if_pos hb2])
  refine⟨⟨x,B,v.s⟩,rfl,rfl,rfl,rfl,rfl,rfl,by show B.size+v.s.size<_;omega,e1 rfl,rfl,rfl,rfl,by rw[e2],by rw[e2]⟩
 have hb2:=hb
 unfold z81 at hb2
 rw[decide_eq_false_iff_not]at hb2
 refine⟨λh11=> ?_,λh11=>⟨λh14=> ?_,λh14=>⟨λh9=> ?_,λh9=>⟨⟨λh=>by unfold z80;exact z08 (by omega),λh=>by unfold z80;exact z08 (by omega)⟩,?_⟩⟩⟩⟩
 ·obtain⟨e1,_,e2⟩:=ef _ (by unfold z95;rw[if_neg h2,if_neg hL2,if_neg h5,if_neg h6,if_neg hb2,if_pos h11])
  refine⟨zbb B,by omega,?_,by rw[e2,z0b],by rw[e2,z3b]⟩
  rw[e1 rfl,z0b]
 ·obtain⟨ho,hfl⟩:=hqq (by unfold isQ;exact decide_eq_true (by omega))
  obtain⟨o1,o2,o3,o4⟩:=z1m ho
  obtain⟨b0,b1,l1⟩:=o3 h14
  have hks:=o1 (by omega)
  have h0:0<v.l.length:=by omega
  obtain⟨b,hb⟩:=Int.eq_ofNat_of_zero_le b0
  have hbl:b<a.brs.length:=by omega
  have hty:z0c a v.b 0=a.brs[b]:=by
   unfold z0c
   rw[if_neg (by omega),if_pos h14,hb,Int.toNat_natCast,List.getD_eq_getElem?_getD,List.getElem?_eq_getElem hbl];rfl
  have hd:=zgh (S:=S) (f:=z0c a v.b) (j:=0) h0 (by rw[List.drop_zero];exact hfl)
  rw[hty]at hd
  have hsz:=z1h h0
  have hwt:=GV.wt_at h0
  have hvz:=z1o v.b (by omega) (by omega)
  have hs:=zgd (S:=S) (f:=z0c a v.b) (ks:=v.ks) (B:=B++vz v.b) h0
  have hend:∀C,PV.encL S (z0c a v.b) v.ks (0+1) ((GV.pvs v.l).drop (0+1)) C=(true,C):=λC=>z6t (by rw[GV.pvs_len];omega)
  rw[hend,hks,z2r,z0n,←hks,hty,List.drop_zero]at hs
  have hen:z95 S a v B=((PV.enc S a.brs[b] v.l[0].pv (B++vz v.b)).1,(PV.enc S a.brs[b] v.l[0].pv (B++vz v.b)).2):=by
   unfold z95
   rw[if_neg h2,if_neg hL2,if_neg h5,if_neg h6,if_neg hb2,if_neg h11,if_pos h14,hs]
   split
   ·rename_i hh;rw[hh]
   ·rename_i hh;rw[Bool.not_eq_true]at hh;rw[hh]
  obtain⟨e1,e3,e2⟩:=ef _ hen
  refine⟨⟨x,B,v.b⟩,rfl,rfl,rfl,rfl,rfl,rfl,⟨by show B.size<_;omega,by show _<=v.b;omega,by show v.b<_;omega⟩,⟨b0,by omega⟩,?_⟩
  rw[show v.b.toNat=b by omega]
  have hba:=λq (hq:z05 S x q/\v.ok q)=>z1u (hao2 q hq) hbl
  refine⟨(hba p ⟨hx,hvo⟩).1,a.brs[b],λq hq=>(hba q hq).2,⟨by omega,by omega⟩,(GV.cells_at hvo h0).1,v.l[0].n,v.l[0].s,v.l[0].x.1,v.l[0].x.2.1,v.l[0].x.2.2,v.l[0].y.1,v.l[0].y.2.1,v.l[0].y.2.2,v.l[0].b,λq hq=>(GV.cells_at hq.2 h0).2,⟨S,x,B++vz v.b,a.brs[b],v.l[0]⟩,?_⟩
  simp only[true_and,eq_self]
  refine⟨⟨by show SizeOf.sizeOf v.l[0]<n;omega,hS,GV.sz_at hv h0,⟨by show(B++vz v.b).size+v.l[0].pv.wt<_;rw[z0b];omega,by show v.l[0].pv.wt<_;omega⟩,hd.1⟩,λq hq=>⟨hq.1,GV.ok_at hq.2 h0⟩,λhb=>⟨e1 hb,by rw[e2],by rw[e2]⟩,λhb=>⟨e3 hb,by rw[e2],by rw[e2]⟩⟩
 ·obtain⟨ho,hfl⟩:=hqq (by unfold isQ;exact decide_eq_true (by omega))
  obtain⟨o1,o2,o3,o4⟩:=z1m ho
  obtain⟨e1,e3,e2⟩:=ef _ (by unfold z95;rw[if_neg h2,if_neg hL2,if_neg h5,if_neg h6,if_neg hb2,if_neg h11,if_neg h14,if_pos h9])
  refine⟨⟨S,x,B,a,v⟩,?_⟩
  simp only[true_and,eq_self]
  exact⟨⟨hmu,hS,hv,⟨hB,hw⟩,h9,o2 h9,o1 (by omega),hfl⟩,λq hq=>⟨hq.1,hao2 q hq,hq.2⟩,λhb=>⟨e1 hb,by rw[e2],by rw[e2]⟩,λhb=>⟨e3 hb,by rw[e2],by rw[e2]⟩⟩
 intro _ _
 refine⟨λhA=> ?_,λhA=> ?_⟩
 ·have hA2:=hA
  unfold z80 at hA2
  rw[decide_eq_true_eq]at hA2
  obtain⟨ho,hfl⟩:=hqq (by unfold isQ;exact decide_eq_true (by omega))
  obtain⟨o1,o2,o3,o4⟩:=z1m ho
  obtain⟨e1,e3,e2⟩:=ef _ (by unfold z95;rw[if_neg h2,if_neg hL2,if_neg h5,if_neg h6,if_neg hb2,if_neg h11,if_neg h14,if_neg h9,if_pos hA2])
  refine⟨⟨S,x,B,a,v⟩,?_⟩
  simp only[true_and,eq_self]
  refine⟨⟨hmu,hS,hv,⟨hB,hw⟩,?_,hfl⟩,λq hq=>⟨hq.1,hao2 q hq,hq.2⟩,λhb=>⟨e1 hb,by rw[e2],by rw[e2]⟩,λhb=>⟨e3 hb,by rw[e2],by rw[e2]⟩⟩
  exact hA2.elim (λh=> .inl ⟨h,o1 (by omega)⟩) (λh=> .inr ⟨h,(o4 h).symm⟩)
 ·have hA2:=hA
  unfold z80 at hA2
  rw[decide_eq_false_iff_not]at hA2
  obtain⟨e1,_,e2⟩:=ef _ (by unfold z95;rw[if_neg h2,if_neg hL2,if_neg h5,if_neg h6,if_neg hb2,if_neg h11,if_neg h14,if_neg h9,if_neg hA2])
  exact⟨e1 rfl,by rw[e2],by rw[e2]⟩
def z6v:∀n,q58 P 44 (z1j.below zdu n)
 |0=>Ct.below_zero (by decide) (by decide) (Sen.enters_of Try.func44 (by kernel_rfl)) λs=>⟨rfl,rfl⟩
 |n+1=>zif n (z6v n) (ze3 n (z6v n)) (zfr n (z6v n))
def zea:q58 P 44 z1j:=Ct.of_below z6v
def z8c:q58 P 21 z6j:=by
 refine qkl mixed (qdh (qh9 zma (qh9 zea qk5))) (W:=zim) Try.func21 (by kernel_rfl) (by decide) (by decide) (λs=>by kernel_rfl) λ⟨S,(x:SV),(t:Int),v⟩=>(zge S x t v).mpr ?_
 rintro⟨hS,hv,hw⟩ ⟨p,_,hx,hvo⟩
 have xs:x.2.1=S.length:=hx.1.1
 have nil:∀q,qhd q noA 0 0 (q19 (mkS [])):=λq=>⟨Nat.le_refl _, .inl ⟨rfl,z1i⟩⟩
 simp only[sbS,Int.toNat_natCast,exists_const]
 have r1:(t<0\/S.length<=t)->z2v S t v.pv=(1,mkS []):=λh=>by unfold z2v;rw[if_pos h]
 refine⟨λh=> ?_,λh=>⟨λh2=> ?_,λh2=>⟨⟨S,x,t,v⟩,?_⟩⟩⟩
 ·rw[r1 (.inl h)];exact⟨rfl,z1i,λq _=>⟨rfl,nil q⟩⟩
 ·rw[r1 (.inr (by omega))];exact⟨rfl,z1i,λq _=>⟨rfl,nil q⟩⟩
 simp only[true_and,eq_self]
 have hr:¬(t<0\/S.length<=t):=by omega
 refine⟨⟨hS,hv.1⟩,λq hq=>hq,λhb=> ?_,λhb=>⟨⟨S,x,mkS [],t,v⟩,?_⟩⟩
 ·have:z2v S t v.pv=(7,mkS []):=by unfold z2v;rw[if_neg hr,if_pos hb]
  rw[this];exact⟨rfl,z1i,λq _=>⟨rfl,nil q⟩⟩
 have hr2:z2v S t v.pv=if(PV.enc S t v.pv (mkS [])).1=true then(0,(PV.enc S t v.pv (mkS [])).2)else(3,mkS []):=by unfold z2v;rw[if_neg hr,if_neg (by rw[hb];decide)]
 simp only[true_and,eq_self]
 refine⟨rfl,⟨hS,hv,⟨by show 0+v.pv.wt<_;omega,hw⟩,hb⟩,λq hq=>hq,λhe=> ?_,λhe=> ?_⟩
 ·rw[hr2,if_neg (by rw[he];decide)];exact⟨rfl,z1i,λq _=>⟨rfl,nil q⟩⟩
 ·rintro b s u a n c ⟨q,hq,hc,hrow⟩
  rw[hr2,if_pos he]
  refine⟨rfl,rowP_Pl hrow,λr hr=>⟨rfl,?_⟩⟩
  have:=hr.2.2
  rw[Nat.mul_one,←q33,List.take_length]at this
  exact⟨hr.2.1,this⟩
end
mutual
def PV.fb(S:List AT) (t:Int):PV->ByteArray
  | .mk n s l ks b=>match S[t.toNat]? with
    |none=>mkS []
    | some a=>
      if a.k=2 then fxB n 1 else
      if a.k=3\/a.k=4\/a.k=10 then vz (IntKind.wrap .i64 n)else
      if a.k=5 then fxB n 4 else
      if a.k=6 then fxB n 8 else
      if a.k=7\/a.k=8 then vz s.size++s else
      if a.k=11 then s else
      if a.k=14 then vz b++PV.fbL S (z0c a b) ks 0 l else
      if a.k=9 then PV.fbL S (z0c a b) ks 0 l else
      if a.k=12\/a.k=13 then(if 0<l.length then vz l.length else mkS [])++PV.fbL S (z0c a b) ks 0 l++vz 0
      else mkS []
def PV.fbL(S:List AT) (f:Nat->Int) (ks:List ByteArray) (i:Nat):List PV->ByteArray
 | []=>mkS []
 |v::l=>z3u ks i++PV.fb S (f i) v++PV.fbL S f ks (i+1) l
end
def j9w:Ct where
 σ:=Int×Int
 args:=λ⟨n,k⟩=>[.sv (.int .u64 n), .sv (.int .i64 k)]
 h:=λ_=>[]
 m:=1
 pre:=λ⟨n,k⟩=>(0<=k/\k<=8)/\0<=n/\n<18446744073709551616
 r:=λ⟨n,k⟩=> .sv (.string (fxB n k.toNat))
 h':=λ_=>[]
 m':=2
 g:=λ_=>none
def jc8:Int×Int->WayF:=λ⟨n,k⟩=>{
 ann:=λ_ _ _=>some {σ:=Nat,pre:=λj=>(j:Int)<=k,t:=λj=>[(0, .sv (.int .u64 (n / (2 ^ (8*j):Nat)))),(5, .sv (.string (fxB n j))),(6, .sv (.int .i64 (j:Int)))],h:=λ_=>[],more:=0,μ:=λj=>k.toNat- j,keep:=[1]}}
def z9d:Ct where
 σ:=FtS
 args:=λ⟨S,x,t,v⟩=>[scA x, .sv (.int .i64 t),v.av]
 h:=λ_=>[]
 m:=1
 pre:=λ⟨S,x,t,v⟩=>small S/\v.pv.sz/\v.pv.wt<90000000000000/\PV.fits S t v.pv=true
 mem:=λ⟨S,x,t,v⟩=>svM S x v
 r:=λ⟨S,x,t,v⟩=> .sv (.string (PV.fb S t v.pv))
 h':=λ_=>[]
 m':=2
 g:=λ_=>none
def zto:FtS->Nat:=λ⟨S,x,t,v⟩=>SizeOf.sizeOf v
def bl0(l:Nat):ByteArray:=if 0<l then vz l else mkS []
def j21:FtS->WayF:=λ⟨S,x,t,v⟩=>{
 cut:=λi t _=>match i with
  |8=>swc z5n 24 18 [1,3,5,7,18] t
  |15=>swc z81 42 18 [1,3,5,7,18] t
  |29=>swc z80 99 18 [1,3,5,7,18] t
  |32=>some {σ:=Unit,t:=λ_=>[(10, .sv (.string (bl0 v.l.length)))],h:=λ_=>[],more:=0,μ:=λ_=>0,keep:=[1,3,5,7,18]}
  |_=>none
 ann:=λid _ _=>match id with
  |1=>some {σ:=Nat×ByteArray,pre:=λ⟨j,C⟩=>j<=v.l.length/\C++PV.fbL S (z0c (atS S t) v.b) v.ks j ((GV.pvs v.l).drop j)=PV.fbL S (z0c (atS S t) v.b) v.ks 0 (GV.pvs v.l),t:=λ⟨j,C⟩=>[(8, .sv (.string C)),(9, .sv (.int .i64 (j:Int)))],h:=λ_=>[],more:=0,μ:=λ⟨j,C⟩=>v.l.length- j,keep:=[1,3,5,7,18]}
  |_=>some {σ:=Nat×ByteArray,pre:=λ⟨j,C⟩=>j<=v.l.length/\C++PV.fbL S (z0c (atS S t) v.b) v.ks j ((GV.pvs v.l).drop j)=bl0 v.l.length++PV.fbL S (z0c (atS S t) v.b) v.ks 0 (GV.pvs v.l),t:=λ⟨j,C⟩=>[(10, .sv (.string C)),(11, .sv (.int .i64 (j:Int)))],h:=λ_=>[],more:=0,μ:=λ⟨j,C⟩=>v.l.length- j,keep:=[1,3,5,7,18]}}
def z6k:Ct where
 σ:=FtS
 args:=λ⟨S,x,t,v⟩=>[scA x, .sv (.int .i64 t),v.av]
 h:=λ_=>[]
 m:=1
 pre:=λ⟨S,x,t,v⟩=>small S/\z1k S/\v.pv.sz/\v.pv.wt<90000000000000
 mem:=λ⟨S,x,t,v⟩=>svM S x v
 r:=λ⟨S,x,t,v⟩=> .tup [.tsl 1, .sv (.int .i64 (z2v S t v.pv).1)]
 h':=λ_=>[]
 m':=2
 g:=λ⟨S,x,t,v⟩=>some {β:=Unit,ks:=[1],pre:=λ_=>True,mem:=λ_ xs=>bsM (z2v S t v.pv).2 xs}
def zcu:FtS->WayF:=λ_=>{pubE:=[26]}
def ztf(n k:Int):qki P (λ_=>none) Try.f70 j9w (jc8) ⟨n,k⟩=(((0:Int)<=k/\k<=(8:Int))/\(0:Int)<=n/\n<(18446744073709551616:Int)->(∃(s:Nat),n / (↑((2:Nat) ^ ((8:Nat)*s)):Int)=n/\k=k/\fxB n s=mkS []/\(↑s:Int)=(0:Int)/\(↑s:Int)<=k/\True)/\∀(s:Nat),(↑s:Int)<=k->(decide ((↑s:Int)<k)=true->(256:Int)≠(0:Int)/\∃(s_1:ByteArray),size s_1=(1:Nat)/\qh1 [int u8 (IntKind.wrap u8 (Int.tmod (n / (↑((2:Nat) ^ ((8:Nat)*s)):Int)) (256:Int)))] (0:Nat) (q19 s_1)/\size (fxB n s)+size s_1<=(9223372036854775807:Nat)/\(256:Int)≠(0:Int)/\((-9223372036854775808:Int)<=(↑s:Int)+(1:Int)/\(↑s:Int)+(1:Int)<=(9223372036854775807:Int))/\∃(s_2:Nat),n / (↑((2:Nat) ^ ((8:Nat)*s_2)):Int)=IntKind.wrap u64 (Int.tdiv (n / (↑((2:Nat) ^ ((8:Nat)*s)):Int)) (256:Int))/\k=k/\fxB n s_2=fxB n s++s_1/\(↑s_2:Int)=(↑s:Int)+(1:Int)/\(↑s_2:Int)<=k/\toNat k- s_2<toNat k- s/\True)/\(decide ((↑s:Int)<k)=false->fxB n (toNat k)=fxB n s/\True)):=by kernel_rfl
section
variable (x0:Int) (x1:SV) (x2:List AT) (x3:GV) (x4:Nat) (x5:Int) (x6:ByteArray) (x7:Option Addr) (x8:Nat) (x9:Int) (x10:Option Addr) (x11 x12:Nat) (x13:Bool) (x14:ByteArray) (x15:Int) (x16:Option Addr) (x17 x18:Nat) (x19:Option Addr) (x20 x21 x22:Nat) (x23:Prop) (x24:Nat×ByteArray) (x25:FtS) (x26:Nat×ByteArray) (x27:Nat->Option Obj)
 abbrev z5m:=True/\z05 x2 x1 x27/\GV.ok x3 x27
 def zqz:=(Jt (x0=x9)->∃(i0:Int×Int),i0.1=GV.n x3/\i0.2=x15/\((0<=i0.2/\i0.2<=8)/\0<=i0.1/\i0.1<18446744073709551616)/\PV.fb x2 x5 (GV.pv x3)=fxB i0.1 (toNat i0.2)/\True)
 def z3a:=x1.1=x1.1/\x1.2.1=x1.2.1/\x1.2.2=x1.2.2/\x0=x0/\x6=x6/\x7=x7/\x4=x4/\x8=x8/\x5=x5/\x10=x10/\x11=x11/\x12=x12/\x13=x13/\x14=x14/\x9=x9/\x16=x16/\x17=x17/\x18=x18/\x19=x19/\x20=x20/\x21=x21/\GV.n x3=GV.n x3/\GV.s x3=GV.s x3/\(GV.x x3).1=(GV.x x3).1/\(GV.x x3).2.1=(GV.x x3).2.1/\(GV.x x3).2.2=(GV.x x3).2.2/\(GV.y x3).1=(GV.y x3).1/\(GV.y x3).2.1=(GV.y x3).2.1/\(GV.y x3).2.2=(GV.y x3).2.2/\GV.b x3=GV.b x3/\(∀i0,z5m x1 x2 x3 i0->z5m x1 x2 x3 i0)/\x23
 def j8m:=Ji (x0=4) (∃(i0:Unit),x5=x5/\z5n x0=decide (x0=4)/\x0=x0/\z3a x0 x1 x2 x3 x4 x9 x6 x7 x8 x15 x10 x11 x12 x13 x14 x16 x17 x18 x19 x20 x21 (True/\True)) (∃(i1:Unit),x5=x5/\z5n x0=decide (x0=10)/\x0=x0/\z3a x0 x1 x2 x3 x4 x9 x6 x7 x8 x15 x10 x11 x12 x13 x14 x16 x17 x18 x19 x20 x21 (True/\True))
 def zfe:=((-9223372036854775808:Int)<=x0/\x0<9223372036854775808)
 abbrev z4p:=List.toArray (Proofs.Ytpanaicglidfjaa.Rv.venc (zg x0))
 def j0b:=(∀i0,z5m x1 x2 x3 i0->q3f i0 (adr x7 (toNat (GV.b x3)*1)) [int i64 x0])
 abbrev zb7:=(↑(GV.x x3).2.1:Int)
 def j05:=(∀i0,z5m x1 x2 x3 i0->q3f i0 (adr (GV.x x3).1 ((0:Nat)*5)) [int u64 x0,string x6,slice x7 x4 x8,slice x10 x11 x12,int i64 x5])
 def zl3:=x25.2.1.1=x1.1/\x25.2.1.2.1=x1.2.1/\x25.2.1.2.2=x1.2.2/\x25.2.2.1=x0/\GV.n x25.2.2.2=x5/\GV.s x25.2.2.2=x6/\(GV.x x25.2.2.2).1=x7/\(GV.x x25.2.2.2).2.1=x4/\(GV.x x25.2.2.2).2.2=x8/\(GV.y x25.2.2.2).1=x10/\(GV.y x25.2.2.2).2.1=x11/\(GV.y x25.2.2.2).2.2=x12/\GV.b x25.2.2.2=x9/\(zto x25<x17/\small x25.1/\PV.sz (GV.pv x25.2.2.2)/\PV.wt (GV.pv x25.2.2.2)<90000000000000/\PV.fits x25.1 x25.2.2.1 (GV.pv x25.2.2.2)=true)/\(∀i0,z5m x1 x2 x3 i0->z05 x25.1 x25.2.1 i0/\GV.ok x25.2.2.2 i0)/\x23
 abbrev j07:=slice (GV.x x3).1 (GV.x x3).2.1 (GV.x x3).2.2
 def zr0:=x24.1<=length (GV.l x3)/\x24.2++PV.fbL x2 (z0c (atS x2 x0) (GV.b x3)) (GV.ks x3) x24.1 (drop x24.1 (GV.pvs (GV.l x3)))=PV.fbL x2 (z0c (atS x2 x0) (GV.b x3)) (GV.ks x3) 0 (GV.pvs (GV.l x3))
 def zr3:=(0<=(↑x24.1:Int)/\(↑x24.1:Int)<(zb7 x3))/\(GV.x x3).1≠noA/\x23
 def zr1:=(∀i0,z5m x1 x2 x3 i0->q3f i0 (adr (GV.x x3).1 (toNat (↑x24.1:Int)*5)) [int u64 x0,string x6,slice x7 x4 x8,slice x10 x11 x12,int i64 x5])
 abbrev j06:=Jb ((↑x24.1:Int)+1)
 def j04:=size x24.2+size (PV.fb x25.1 x25.2.2.1 (GV.pv x25.2.2.2))<=9223372036854775807/\j06 x24/\x23
 def zr4:=length (GV.l x3)- x24.1<length (GV.l x3)- x26.1/\True
 def j8k:=(0<=(↑x24.1:Int)/\(↑x24.1:Int)<(↑x4:Int))/\x7≠noA/\∃(i0:Int),(∀i1,z5m x1 x2 x3 i1->q3f i1 (Addr.add (adr x7 (toNat (↑x24.1:Int)*9)) 2) [int i64 i0])/\zr3 x3 (∃(i2:Int),∃i3,∃i4,∃(i5:Nat),∃(i6:Nat),∃i7,∃(i8:Nat),∃(i9:Nat),∃(i10:Int),zr1 i2 x1 x2 x3 i5 i10 i3 i4 i6 i7 i8 i9 x24/\∃(i12:FtS),zl3 i0 x1 x2 x3 i5 i2 i3 i4 i6 i10 i7 i8 i9 x8 (j04 (∃(i14:Nat×ByteArray),x0=x0/\(↑i14.1:Int)=(↑x24.1:Int)+1/\i14.2=x24.2++PV.fb i12.1 i12.2.2.1 (GV.pv i12.2.2.2)/\x5=x5/\z3a x5 x1 x2 x3 x11 x9 x6 x10 x12 x15 x16 x17 x18 x13 x14 x7 x4 x20 x19 x21 x22 ((zr0 x0 x2 x3 i14)/\zr4 x3 i14 x24)) x24 i12) i12) x24
 def j8j:=Ji ((↑x24.1:Int)<(zb7 x3)) (j8k x0 x1 x2 x3 x4 x5 x6 x7 x8 x9 x10 x11 x12 x13 x14 x15 x16 x17 x18 x19 x20 x21 x22 x24) (PV.fb x2 x0 (GV.pv x3)=x24.2/\True)
 def j8i:=(∃(i0:Nat×ByteArray),x0=x0/\(↑i0.1:Int)=0/\i0.2=mkS []/\x5=x5/\z3a x5 x1 x2 x3 x4 x9 x6 x7 x8 x15 x10 x11 x12 x13 x14 x16 x17 x18 x19 x20 x21 ((zr0 x0 x2 x3 i0)/\True))/\∀(i1:Nat×ByteArray),zr0 x0 x2 x3 i1->j8j x0 x1 x2 x3 x17 x5 x6 x16 x22 x9 x7 x4 x8 x13 x14 x15 x10 x11 x12 x19 x18 x20 x21 i1
 def zl4:=x24.1<=length (GV.l x3)/\x24.2++PV.fbL x2 (z0c (atS x2 x0) (GV.b x3)) (GV.ks x3) x24.1 (drop x24.1 (GV.pvs (GV.l x3)))=bl0 (length (GV.l x3))++PV.fbL x2 (z0c (atS x2 x0) (GV.b x3)) (GV.ks x3) 0 (GV.pvs (GV.l x3))
 def j08:=(0<=(↑x24.1:Int)/\(↑x24.1:Int)<(↑(GV.y x3).2.1:Int))/\(GV.y x3).1≠noA/\x23
 def zr2:=(∀i0,z5m x1 x2 x3 i0->q3f i0 (adr (GV.y x3).1 (toNat (↑x24.1:Int)*1)) [string x6])
 def j0a:=zfe x0/\size x24.2+size (ByteArray.mk (z4p x0))<=9223372036854775807/\x23
 abbrev j09:=slice (GV.y x3).1 (GV.y x3).2.1 (GV.y x3).2.2
 def j8h:=j08 x3 (∃i0,zr2 x1 x2 x3 i0 x24/\∃(i2:Int),i2=(↑(size i0):Int)/\j0a i2 (j08 x3 (∃i3,zr2 x1 x2 x3 i3 x24/\size (x24.2++ByteArray.mk (z4p i2))+size i3<=9223372036854775807/\AV.sv (j09 x3)=AV.sv (j09 x3)/\∃i5,zr2 x1 x2 x3 i5 x24/\AV.sv (string i5)=AV.sv (string i3)/\zr3 x3 (∃(i7:Int),∃i8,∃i9,∃(i10:Nat),∃(i11:Nat),∃i12,∃(i13:Nat),∃(i14:Nat),∃(i15:Int),zr1 i7 x1 x2 x3 i10 i15 i8 i9 i11 i12 i13 i14 x24/\∃(i17:FtS),zl3 x0 x1 x2 x3 i10 i7 i8 i9 i11 i15 i12 i13 i14 x4 (size (x24.2++ByteArray.mk (z4p i2)++i3)+size (PV.fb i17.1 i17.2.2.1 (GV.pv i17.2.2.2))<=9223372036854775807/\j06 x24/\∃(i19:Nat×ByteArray),x5=x5/\(↑i19.1:Int)=(↑x24.1:Int)+1/\i19.2=x24.2++ByteArray.mk (z4p i2)++i3++PV.fb i17.1 i17.2.2.1 (GV.pv i17.2.2.2)/\x9=x9/\z3a x9 x1 x2 x3 x8 x0 x6 x7 x11 x15 x10 x12 x17 x13 x14 x16 x18 x20 x19 x21 x22 ((zl4 x5 x2 x3 i19)/\zr4 x3 i19 x24)) i17) x24) x24) x24) x24
 def j8l:=zr3 x3 (∃(i0:Int),∃i1,∃i2,∃(i3:Nat),∃(i4:Nat),∃i5,∃(i6:Nat),∃(i7:Nat),∃(i8:Int),zr1 i0 x1 x2 x3 i3 i8 i1 i2 i4 i5 i6 i7 x24/\∃(i10:FtS),zl3 x0 x1 x2 x3 i3 i0 i1 i2 i4 i8 i5 i6 i7 x4 (j04 (∃(i11:Nat×ByteArray),x5=x5/\(↑i11.1:Int)=(↑x24.1:Int)+1/\i11.2=x24.2++PV.fb i10.1 i10.2.2.1 (GV.pv i10.2.2.2)/\x9=x9/\z3a x9 x1 x2 x3 x8 x0 x6 x7 x11 x15 x10 x12 x17 x13 x14 x16 x18 x20 x19 x21 x22 ((zl4 x5 x2 x3 i11)/\zr4 x3 i11 x24)) x24 i10) i10) x24
 def j8g:=Ji (x0=13) (j8h x5 x1 x2 x3 x4 x9 x6 x7 x8 x0 x10 x11 x12 x13 x14 x15 x16 x17 x18 x19 x20 x21 x22 x24) (j8l x5 x1 x2 x3 x4 x9 x6 x7 x8 x0 x10 x11 x12 x13 x14 x15 x16 x17 x18 x19 x20 x21 x22 x24)
 def j8f:=Ji ((↑x24.1:Int)<(zb7 x3)) (j8g x0 x1 x2 x3 x4 x5 x6 x7 x8 x9 x10 x11 x12 x13 x14 x15 x16 x17 x18 x19 x20 x21 x22 x24) (∃(i33:Int),i33=0/\j0a i33 (PV.fb x2 x9 (GV.pv x3)=x24.2++ByteArray.mk (z4p i33)/\True) x24)
 def j8e:=(∃(i0:Nat×ByteArray),x0=x0/\(↑i0.1:Int)=0/\i0.2=bl0 (length (GV.l x3))/\x5=x5/\z3a x5 x1 x2 x3 x4 x9 x6 x7 x8 x15 x10 x11 x12 x13 x14 x16 x17 x18 x19 x20 x21 ((zl4 x0 x2 x3 i0)/\True))/\∀(i1:Nat×ByteArray),zl4 x0 x2 x3 i1->j8f x5 x1 x2 x3 x22 x9 x6 x7 x4 x0 x10 x8 x11 x13 x14 x15 x16 x12 x17 x19 x18 x20 x21 i1
 def j8d:=(Ji (0<(zb7 x3)) (∃(i0:Int),i0=(zb7 x3)/\zfe i0/\∃(i1:Unit),x0=x0/\bl0 (length (GV.l x3))=ByteArray.mk (z4p i0)/\x5=x5/\z3a x5 x1 x2 x3 x4 x9 x6 x7 x8 x15 x10 x11 x12 x13 x14 x16 x17 x18 x19 x20 x21 (True/\True)) (∃(i3:Unit),x0=x0/\bl0 (length (GV.l x3))=mkS []/\x5=x5/\z3a x5 x1 x2 x3 x4 x9 x6 x7 x8 x15 x10 x11 x12 x13 x14 x16 x17 x18 x19 x20 x21 (True/\True)))/\∀(i5:Unit),True->j8e x0 x1 x2 x3 x4 x5 x6 x7 x8 x9 x10 x11 x12 x13 x14 x15 x16 x17 x18 x19 x20 x21 x22
 def j8c:=(z80 x0=true->j8d x5 x1 x2 x3 x4 x0 x6 x7 x8 x9 x10 x11 x12 x13 x14 x15 x16 x17 x18 x19 x20 x21 x22)/\(z80 x0=false->PV.fb x2 x5 (GV.pv x3)=mkS []/\True)
 def jmt:=(Ji (x0=12) (∃(i0:Unit),x5=x5/\z80 x0=decide (x0=12)/\x0=x0/\z3a x0 x1 x2 x3 x4 x9 x6 x7 x8 x15 x10 x11 x12 x13 x14 x16 x17 x18 x19 x20 x21 (True/\True)) (∃(i2:Unit),x5=x5/\z80 x0=decide (x0=13)/\x0=x0/\z3a x0 x1 x2 x3 x4 x9 x6 x7 x8 x15 x10 x11 x12 x13 x14 x16 x17 x18 x19 x20 x21 (True/\True)))/\∀(i4:Unit),True->j8c x0 x1 x2 x3 x4 x5 x6 x7 x8 x9 x10 x11 x12 x13 x14 x15 x16 x17 x18 x19 x20 x21 x22
 def jms:=Ji (x0=9) (j8i x5 x1 x2 x3 x4 x0 x6 x7 x8 x9 x10 x11 x12 x13 x14 x15 x16 x17 x18 x19 x20 x21 x22) (jmt x0 x1 x2 x3 x4 x5 x6 x7 x8 x9 x10 x11 x12 x13 x14 x15 x16 x17 x18 x19 x20 x21 x22)
 def jmr:=Ji (x0=14) (∃(i0:Int),i0=GV.b x3/\zfe i0/\(0<=GV.b x3/\GV.b x3<(↑x4:Int))/\x7≠noA/\∃(i1:Int),j0b i1 x1 x2 x3 x7/\((0:Int)<=0/\0<(zb7 x3))/\(GV.x x3).1≠noA/\∃(i3:Int),∃i4,∃i5,∃(i6:Nat),∃(i7:Nat),∃i8,∃(i9:Nat),∃(i10:Nat),∃(i11:Int),j05 i3 x1 x2 x3 i6 i11 i4 i5 i7 i8 i9 i10/\∃(i13:FtS),zl3 i1 x1 x2 x3 i6 i3 i4 i5 i7 i11 i8 i9 i10 x8 (size (ByteArray.mk (z4p i0))+size (PV.fb i13.1 i13.2.2.1 (GV.pv i13.2.2.2))<=9223372036854775807/\AV.agg [AV.sv (slice x1.1 x1.2.1 x1.2.2)]=AV.agg [AV.sv (slice x1.1 x1.2.1 x1.2.2)]/\AV.sv (slice x7 x4 x11)=AV.sv (slice x7 x4 x11)/\AV.sv (int i64 (GV.b x3))=AV.sv (int i64 (GV.b x3))/\∃(i15:Int),j0b i15 x1 x2 x3 x7/\AV.sv (int i64 i15)=AV.sv (int i64 i1)/\AV.sv (j07 x3)=AV.sv (j07 x3)/\∃(i17:Int),∃i18,∃i19,∃(i20:Nat),∃(i21:Nat),∃i22,∃(i23:Nat),∃(i24:Nat),∃(i25:Int),j05 i17 x1 x2 x3 i20 i25 i18 i19 i21 i22 i23 i24/\AV.agg [AV.sv (int u64 i17),AV.sv (string i18),AV.sv (slice i19 i20 i21),AV.sv (slice i22 i23 i24),AV.sv (int i64 i25)]=AV.agg [AV.sv (int u64 i3),AV.sv (string i4),AV.sv (slice i5 i6 i7),AV.sv (slice i8 i9 i10),AV.sv (int i64 i11)]/\PV.fb x2 x5 (GV.pv x3)=ByteArray.mk (z4p i0)++PV.fb i13.1 i13.2.2.1 (GV.pv i13.2.2.2)/\True) i13) (jms x0 x1 x2 x3 x12 x5 x6 x10 x17 x9 x16 x18 x20 x13 x14 x15 x19 x21 x22 x7 x4 x11 x8)
 def jmq:=Ji (x0=11) (PV.fb x2 x5 (GV.pv x3)=GV.s x3/\True) (jmr x0 x1 x2 x3 x4 x5 x6 x7 x8 x9 x10 x11 x12 x13 x14 x15 x16 x17 x18 x19 x20 x21 x22)
 def jmp:=(z81 x0=true->∃(i0:Int),i0=(↑(size (GV.s x3)):Int)/\zfe i0/\size (ByteArray.mk (z4p i0))+size (GV.s x3)<=9223372036854775807/\AV.sv (string (GV.s x3))=AV.sv (string (GV.s x3))/\PV.fb x2 x5 (GV.pv x3)=ByteArray.mk (z4p i0)++GV.s x3/\True)/\(z81 x0=false->jmq x0 x1 x2 x3 x4 x5 x6 x7 x8 x9 x10 x11 x12 x13 x14 x15 x16 x17 x18 x19 x20 x21 x22)
 def jmo:=(Ji (x0=7) (∃(i0:Unit),x5=x5/\x0=x0/\z81 x0=decide (x0=7)/\z3a x0 x1 x2 x3 x4 x9 x6 x7 x8 x15 x10 x11 x12 x13 x14 x16 x17 x18 x19 x20 x21 (True/\True)) (∃(i2:Unit),x5=x5/\x0=x0/\z81 x0=decide (x0=8)/\z3a x0 x1 x2 x3 x4 x9 x6 x7 x8 x15 x10 x11 x12 x13 x14 x16 x17 x18 x19 x20 x21 (True/\True)))/\∀(i4:Unit),True->jmp x0 x1 x2 x3 x20 x5 x6 x19 x22 x9 x7 x21 x4 x13 x14 x15 x10 x8 x11 x16 x12 x17 x18
 def jmn:=zqz x0 x2 x3 x5 5 4/\(Jf (x0=5)->zqz x0 x2 x3 x5 6 8/\(Jf (x0=6)->jmo x0 x1 x2 x3 x4 x5 x6 x7 x8 x9 x10 x11 x12 x13 x14 x15 x16 x17 x18 x19 x20 x21 x22))
 def jmm:=(z5n x0=true->∃(i0:Int),i0=IntKind.wrap i64 (GV.n x3)/\zfe i0/\PV.fb x2 x5 (GV.pv x3)=ByteArray.mk (z4p i0)/\True)/\(z5n x0=false->jmn x0 x1 x2 x3 x4 x5 x6 x7 x8 x9 x10 x11 x12 x13 x14 x15 x16 x17 x18 x19 x20 x21 x22)
 def jml:=(Ji (x0=3) (∃(i0:Unit),x5=x5/\z5n x0=decide (x0=3)/\x0=x0/\z3a x0 x1 x2 x3 x4 x9 x6 x7 x8 x15 x10 x11 x12 x13 x14 x16 x17 x18 x19 x20 x21 (True/\True)) (j8m x0 x1 x2 x3 x4 x5 x6 x7 x8 x9 x10 x11 x12 x13 x14 x15 x16 x17 x18 x19 x20 x21))/\∀(i6:Unit),True->jmm x0 x1 x2 x3 x4 x5 x6 x7 x8 x9 x10 x11 x12 x13 x14 x15 x16 x17 x18 x19 x20 x21 x22
 def jmk:=(0<=x0/\x0<(↑x1.2.1:Int))/\x1.1≠noA/\∃(i0:Int),∃i1,∃i2,∃(i3:Nat),∃(i4:Nat),∃(i5:Int),∃i6,∃(i7:Nat),∃(i8:Nat),∃(i9:Bool),∃i10,∃(i11:Int),∃i12,∃(i13:Nat),∃(i14:Nat),∃i15,∃(i16:Nat),∃(i17:Nat),(∀i18,z5m x1 x2 x3 i18->q3f i18 (adr x1.1 (toNat x0*10)) [int i64 i0,string i1,slice i2 i3 i4,int i64 i5,slice i6 i7 i8,bool i9,string i10,int i64 i11,slice i12 i13 i14,slice i15 i16 i17])/\zqz i0 x2 x3 x0 2 1/\(Jf (i0=2)->jml i0 x1 x2 x3 i3 x0 i1 i2 i4 i5 i6 i7 i8 i9 i10 i11 i12 i13 i14 i15 i16 i17 x4)
end
def zlw(n:Nat) (S:List AT) (x:SV) (t:Int) (v:GV):qki P (qfv [(70,j9w),(71,zg2),(45,z9d.below zto n)]) Try.f45 (z9d.below zto (n+1)) (j21) ⟨S,x,t,v⟩=(zto (S,x,t,v)<n+1/\small S/\PV.sz (GV.pv v)/\PV.wt (GV.pv v)<90000000000000/\PV.fits S t (GV.pv v)=true->(∃(p:Pub),z5m x S v p)->jmk t x S v n):=by kernel_rfl
def zsx:=λn S x t v=>Eq.trans (zlw n S x t v) (by delta Ji Jb Jt Jf z5m zqz z3a j8m zfe z4p j0b zb7 j05 zl3 j07 zr0 zr3 zr1 j06 j04 zr4 j8k j8j j8i zl4 j08 zr2 j0a j09 j8h j8l j8g j8f j8e j8d j8c jmt jms jmr jmq jmp jmo jmn jmm jml jmk;exact rfl)
section
variable (x0:List AT) (x1:Int) (x2:GV) (x3:SV) (x4:Int) (x5:FtS) (x6:Prop) (x7:Nat->Option Obj) (x8 x9 x10:Nat) (x11:(Option Addr×Nat×Nat)×Int)
 abbrev jc0:= !(decide (0<=x11.2)&&decide (x11.2<(↑x11.1.2.1:Int)))
 def jmv:=0=size (z2v x0 x1 (GV.pv x2)).2/\qhd x7 noA 0 0 (q19 (z2v x0 x1 (GV.pv x2)).2)
 def j9t:=∃(i0:Unit),noA=noA/\(0:Nat)=0/\(0:Nat)=0/\(z2v x0 x1 (GV.pv x2)).1=x4/\Pl noA/\True/\(∀i1,True/\z05 x0 x3 i1/\GV.ok x2 i1->jmv x0 x1 x2 i1)/\True
 def jby:=x5.2.1.1=x3.1/\x5.2.1.2.1=x3.2.1/\x5.2.1.2.2=x3.2.2/\x5.2.2.1=x1/\GV.n x5.2.2.2=GV.n x2/\GV.s x5.2.2.2=GV.s x2/\(GV.x x5.2.2.2).1=(GV.x x2).1/\(GV.x x5.2.2.2).2.1=(GV.x x2).2.1/\(GV.x x5.2.2.2).2.2=(GV.x x2).2.2/\(GV.y x5.2.2.2).1=(GV.y x2).1/\(GV.y x5.2.2.2).2.1=(GV.y x2).2.1/\(GV.y x5.2.2.2).2.2=(GV.y x2).2.2/\GV.b x5.2.2.2=GV.b x2/\x6
 abbrev zr5:=PV.fb x5.1 x5.2.2.1 (GV.pv x5.2.2.2)
 def jbz:=(True/\z05 x0 x3 x7/\GV.ok x2 x7)/\True/\size (zr5 x5)<=x8 / 1/\qhc x7 (some (Addr.mk x9 x10 none)) (take (size (zr5 x5)*1) (q19 (zr5 x5)))
 def jmu:=size (zr5 x5)=size (z2v x0 x1 (GV.pv x2)).2/\qhd x7 (some (Addr.mk x8 x9 none)) (size (zr5 x5)) (x10 / nat_lit 1) (q19 (z2v x0 x1 (GV.pv x2)).2)
end
def z9k(S:List AT) (x:SV) (t:Int) (v:GV):qki P (qfv [(30,j0l),(12,z51),(45,z9d)]) Try.f22 z6k (zcu) ⟨S,x,t,v⟩=(small S/\z1k S/\PV.sz (GV.pv v)/\PV.wt (GV.pv v)<90000000000000->(∃(p:Pub),True/\z05 S x p/\GV.ok v p)->∃(s:(Option Addr×Nat×Nat)×Int),s.1.1=x.1/\s.1.2.1=x.2.1/\s.1.2.2=x.2.2/\s.2=t/\True/\((jc0 s)=true->j9t S t v x 1)/\((jc0 s)=false->∃(s:FtS),jby t v x s ((small s.1/\z1k s.1/\PV.sm (GV.pv s.2.2.2))/\(∀(p:Pub),True/\z05 S x p/\GV.ok v p->z05 s.1 s.2.1 p/\GV.ok s.2.2.2 p)/\((!PV.fits s.1 s.2.2.1 (GV.pv s.2.2.2))=true->j9t S t v x 7)/\((!PV.fits s.1 s.2.2.1 (GV.pv s.2.2.2))=false->∃(s:FtS),jby t v x s ((small s.1/\PV.sz (GV.pv s.2.2.2)/\PV.wt (GV.pv s.2.2.2)<90000000000000/\PV.fits s.1 s.2.2.1 (GV.pv s.2.2.2)=true)/\(∀(p:Pub),True/\z05 S x p/\GV.ok v p->z05 s.1 s.2.1 p/\GV.ok s.2.2.2 p)/\Ji (5000<(↑(size (zr5 s)):Int)) (j9t S t v x 3) (∀(b s_1 u:Nat),(∃(p:Pub),jbz S v x s p u b s_1)->∃(b_1:Unit),some (Addr.mk b s_1 none)=some (Addr.mk b s_1 none)/\size (zr5 s)=size (zr5 s)/\u / nat_lit 1=u / nat_lit 1/\(z2v S t (GV.pv v)).1=0/\Pl (some (Addr.mk b s_1 none))/\True/\(∀(p:Pub),jbz S v x s p u b s_1->jmu S t v s p b s_1 u)/\True)))))):=by kernel_rfl
def zde:=λS x t v=>Eq.trans (z9k S x t v) (by delta Ji Jt Jf jc0 jmv j9t jby zr5 jbz jmu;exact rfl)
section
variable {S:List AT} {t:Int}
def zgm{a:AT} {n:Int} {s:ByteArray} {l:List PV} {ks:List ByteArray} {b:Int} (hs:S[t.toNat]? =some a) (h:PV.fits S t (.mk n s l ks b)=true) (hq:isQ a.k=true):okP a l.length ks b=true/\PV.fitL S (z0c a b) 0 l=true:=by
 rw[PV.fits]at h
 split at h
 ·cases h
 rw[hs]at h
 have hq2:=hq
 unfold isQ at hq2
 rw[decide_eq_true_eq]at hq2
 have hn:isN a.k=false:=by unfold isN;exact decide_eq_false (by omega)
 have ht:isT a.k=false:=by unfold isT;exact decide_eq_false (by omega)
 simp only[hn,ht,hq,if_true,Bool.false_eq_true,if_false,Bool.and_eq_true]at h
 exact⟨h.1.1.1,h.1.1.2⟩
def zby{v:PV} (h:PV.fits S t v=true):∃a,S[t.toNat]? =some a/\a∈S:=by
 have hr:=z6x h
 exact⟨S[t.toNat]'(by omega),List.getElem?_eq_getElem (by omega),List.getElem_mem _⟩
def z6u{r:Bool×ByteArray} {B F:ByteArray} (h1:r.1=true->r.2=B++F) (h2:(B++F).size<=5000->r.1=true):((r.1&&decide (r.2.size<=5000))=true↔(B++F).size<=5000)/\((r.1&&decide (r.2.size<=5000))=true->r.2=B++F):=by
 rw[Bool.and_eq_true,decide_eq_true_eq]
 refine⟨⟨λh=> ?_,λh=>⟨h2 h,?_⟩⟩,λh=>h1 h.1⟩
 ·rw[←h1 h.1];exact h.2
 ·rw[h1 (h2 h)];exact h
def zsz{C B F:ByteArray} (h:C=B++F):((((true,C):Bool×ByteArray).1&&decide (((true,C):Bool×ByteArray).2.size<=5000))=true↔(B++F).size<=5000)/\((((true,C):Bool×ByteArray).1&&decide (((true,C):Bool×ByteArray).2.size<=5000))=true->((true,C):Bool×ByteArray).2=B++F):=z6u (λ_=>h) λ_=>rfl
mutual
def zre{S:List AT}:∀(v:PV) (t:Int) (B:ByteArray),PV.fits S t v=true->((PV.enc S t v B).1=true↔(B++PV.fb S t v).size<=5000)/\((PV.enc S t v B).1=true->(PV.enc S t v B).2=B++PV.fb S t v)
  | .mk n s l ks b,t,B,h=>by
    obtain⟨a,hs,_⟩:=zby h
    have hq:=zgm (a:=a) hs h
    rw[PV.enc,PV.fb,hs]
    dsimp only
    by_cases h2:a.k=2
    · rw[if_pos h2,if_pos h2];exact zsz rfl
    rw[if_neg h2,if_neg h2]
    by_cases h3:a.k=3\/a.k=4\/a.k=10
    · rw[if_pos h3,if_pos h3];exact zsz rfl
    rw[if_neg h3,if_neg h3]
    by_cases h5:a.k=5
    · rw[if_pos h5,if_pos h5];exact zsz rfl
    rw[if_neg h5,if_neg h5]
    by_cases h6:a.k=6
    · rw[if_pos h6,if_pos h6];exact zsz rfl
    rw[if_neg h6,if_neg h6]
    by_cases h7:a.k=7\/a.k=8
    · rw[if_pos h7,if_pos h7];exact zsz ByteArray.append_assoc
    rw[if_neg h7,if_neg h7]
    by_cases h11:a.k=11
    · rw[if_pos h11,if_pos h11];exact zsz rfl
    rw[if_neg h11,if_neg h11]
    by_cases h14:a.k=14
    · rw[if_pos h14,if_pos h14]
      have hl:=encL_fb l (z0c a b) ks 0 (B++vz b) (hq (by unfold isQ;exact decide_eq_true (by omega))).2
      rw[ByteArray.append_assoc]at hl
      exact z6u hl.1 hl.2
    rw[if_neg h14,if_neg h14]
    by_cases h9:a.k=9
    · rw[if_pos h9,if_pos h9]
      have hl:=encL_fb l (z0c a b) ks 0 B (hq (by unfold isQ;exact decide_eq_true (by omega))).2
      exact z6u hl.1 hl.2
    rw[if_neg h9,if_neg h9]
    by_cases hA:a.k=12\/a.k=13
    · rw [if_pos hA,if_pos hA]
      have hl:=λB'=>encL_fb l (z0c a b) ks 0 B' (hq (by unfold isQ;exact decide_eq_true (by omega))).2
      have e:(if 0<l.length then B++vz l.length else B)=B++(if 0<l.length then vz l.length else mkS []):=by
        split
        · rfl
        · rw[z0n]
      rw[e]
      generalize (if 0<l.length then vz l.length else mkS [])=L
      obtain⟨l1,l2⟩:=hl (B++L)
      refine z6u (λh=> ?_) λh=> ?_
      · by_cases hb:(PV.encL S (z0c a b) ks 0 l (B++L)).1=true
        · rw[if_pos hb]
          show(PV.encL S (z0c a b) ks 0 l (B++L)).2++vz 0=_
          rw[l1 hb];simp only[ByteArray.append_assoc]
        · rw[if_neg hb]at h;exact absurd h hb
      · rw[if_pos (l2 (by
          have e2:B++(L++PV.fbL S (z0c a b) ks 0 l++vz 0)=(B++L++PV.fbL S (z0c a b) ks 0 l)++vz 0:=by simp only[ByteArray.append_assoc]
          rw[e2,z0b]at h
          omega))]
    · rw[if_neg hA,if_neg hA];exact zsz (z0n B).symm
def encL_fb{S:List AT}:∀(l:List PV) (f:Nat->Int) (ks:List ByteArray) (i:Nat) (B:ByteArray),PV.fitL S f i l=true->((PV.encL S f ks i l B).1=true->(PV.encL S f ks i l B).2=B++PV.fbL S f ks i l)/\((B++PV.fbL S f ks i l).size<=5000->(PV.encL S f ks i l B).1=true)
  | [],f,ks,i,B,h=>by
    rw[PV.encL,PV.fbL]
    exact⟨λ_=>(z0n B).symm,λ_=>rfl⟩
  | v ::l,f,ks,i,B,h=>by
    rw[PV.fitL,Bool.and_eq_true]at h
    obtain⟨e1,e2⟩:=zre v (f i) (B++z3u ks i) h.1
    rw[PV.encL,PV.fbL]
    have ea:B++(z3u ks i++PV.fb S (f i) v++PV.fbL S f ks (i+1) l)=B++z3u ks i++PV.fb S (f i) v++PV.fbL S f ks (i+1) l:=by simp only[ByteArray.append_assoc]
    rw[ea]
    by_cases hb:(PV.enc S (f i) v (B++z3u ks i)).1=true
    · rw[if_pos hb,e2 hb]
      exact encL_fb l f ks (i+1) _ h.2
    · rw[if_neg hb]
      refine⟨λh=>(by cases h),λh=>absurd (e1.2 ?_) hb⟩
      rw[z0b]at h
      omega
end
def zt9(ks:List ByteArray) (i:Nat) (h:kzs ks<90000000000000):(z3u ks i).size+kzs (ks.drop (i+1))<=kzs (ks.drop i):=by
 by_cases hi:i<ks.length
 ·rw[z9p hi,List.drop_eq_getElem_cons hi,kzs,z0b]
  have:=z71 (List.getElem_mem hi)
  have:=z1o (ks[i].size:Int) (by omega) (by omega)
  omega
 ·rw[List.drop_of_length_le (by omega),List.drop_of_length_le (by omega)]
  have:z3u ks i=mkS []:=by unfold z3u;rw[List.getElem?_eq_none (by omega)]
  rw[this];decide
mutual
def zgf{S:List AT}:∀(v:PV) (t:Int),v.sz->v.wt<90000000000000->PV.fits S t v=true->small S->(PV.fb S t v).size<=50000*v.wt
  | .mk n s l ks b,t,hz,hw,h,hS=>by
    obtain⟨a,hs,ha⟩:=zby h
    have hq:=zgm (a:=a) hs h
    have hsz:=hz.2
    have hsm:=hz.1
    rw[PV.ss]at hsz
    rw[PV.sm]at hsm
    have hl:=λhi=>fbL_size l (z0c a b) ks 0 (z5a.1 hsm.2.2.2.2.2) (z7b.1 hsz.2) (by rw[PV.wt]at hw;omega) (by rw[PV.wt]at hw;omega) hi hS
    rw[List.drop_zero]at hl
    rw[PV.wt]at hw⊢
    have hll:=za3 l
    rw[PV.fb,hs]
    dsimp only
    have x1:=λm (h1: -9223372036854775808<=m) h2=>z1o m h1 h2
    have x2:=z2p n
    by_cases h2:a.k=2
    · rw[if_pos h2,x2];omega
    rw[if_neg h2]
    by_cases h3:a.k=3\/a.k=4\/a.k=10
    · rw[if_pos h3]
      have:=x1 _ (z1v n).1 (z1v n).2
      omega
    rw[if_neg h3]
    by_cases h5:a.k=5
    · rw[if_pos h5,x2];omega
    rw[if_neg h5]
    by_cases h6:a.k=6
    · rw[if_pos h6,x2];omega
    rw[if_neg h6]
    by_cases h7:a.k=7\/a.k=8
    · rw[if_pos h7,z0b]
      have:=x1 (s.size:Int) (by omega) (by omega)
      omega
    rw[if_neg h7]
    by_cases h11:a.k=11
    · rw[if_pos h11];omega
    rw[if_neg h11]
    have hbl:=(hS.2 a ha)
    by_cases h14:a.k=14
    · rw[if_pos h14,z0b]
      obtain⟨ho,hf⟩:=hq (by unfold isQ;exact decide_eq_true (by omega))
      obtain⟨o1,o2,o3,o4⟩:=z1m ho
      have:=o3 h14
      have:=x1 b (by omega) (by omega)
      have:=hl hf
      omega
    rw[if_neg h14]
    by_cases h9:a.k=9
    · rw[if_pos h9]
      have:=hl (hq (by unfold isQ;exact decide_eq_true (by omega))).2
      omega
    rw[if_neg h9]
    by_cases hA:a.k=12\/a.k=13
    · rw[if_pos hA,z0b,z0b]
      have:=hl (hq (by unfold isQ;exact decide_eq_true (by omega))).2
      have:=x1 0 (by omega) (by omega)
      have:=x1 (l.length:Int) (by omega) (by omega)
      have e:(if 0<l.length then vz l.length else mkS []).size<=10:=by
        split
        · assumption
        · decide
      omega
    · rw[if_neg hA]
      show 0<=_
      omega
def fbL_size{S:List AT}:∀(l:List PV) (f:Nat->Int) (ks:List ByteArray) (i:Nat),(∀v∈l,v.sm)->(∀v∈l,v.ss)->PV.wts l<90000000000000->kzs ks<90000000000000->PV.fitL S f i l=true->small S->(PV.fbL S f ks i l).size<=kzs (ks.drop i)+50000*PV.wts l
  | [],f,ks,i,_,_,_,_,_,_=>by rw[PV.fbL];show 0<=_;omega
  | v::l,f,ks,i,h1,h2,hw,hk,hf,hS=>by
    rw[PV.fitL,Bool.and_eq_true]at hf
    rw[PV.wts]at hw⊢
    have a1:=zgf v (f i) ⟨h1 v (.head _),h2 v (.head _)⟩ (by omega) hf.1 hS
    have a2:=fbL_size l f ks (i+1) (λu hu=>h1 u (.tail _ hu)) (λu hu=>h2 u (.tail _ hu)) (by omega) hk hf.2 hS
    have a3:=zt9 ks i hk
    rw[PV.fbL,z0b,z0b]
    omega
end
def zgc{v:PV} (ht:¬(t<0\/S.length<=t)) (h:PV.fits S t v=true):z2v S t v=if(PV.fb S t v).size<=5000 then(0,PV.fb S t v)else(3,mkS []):=by
 unfold z2v
 rw[if_neg ht,if_neg (by rw[h];decide)]
 obtain⟨e1,e2⟩:=zre v t (mkS []) h
 have e0:mkS []++PV.fb S t v=PV.fb S t v:=by apply zfk;rw[z3b];rfl
 rw[e0]at e1 e2
 by_cases hb:(PV.enc S t v (mkS [])).1=true
 ·rw[if_pos hb,if_pos (e1.1 hb),e2 hb]
 ·rw[if_neg hb,if_neg λg=>hb (e1.2 g)]
end
section
def ztg:q58 P 70 j9w:=by
 refine qkl mixed z0u (W:=jc8) Try.func70 (by kernel_rfl) (by decide) (by decide) (λs=>by kernel_rfl) λ⟨(n:Int),(k:Int)⟩=>(ztf n k).mpr ?_
 rintro⟨⟨hk0,hk8⟩,hn0,hn1⟩
 simp only[decide_eq_true_eq,decide_eq_false_iff_not,and_true,true_and]
 refine⟨⟨0,by simp,rfl,rfl,hk0⟩,λj hj=>⟨λhlt=>⟨by decide,?_⟩,λhge=> ?_⟩⟩
 ·have e2:(2:Int) ^ (8*j)=((2 ^ (8*j):Nat):Int):=by norm_cast
  have e3:n / ((2 ^ (8*(j+1)):Nat):Int)=n / ((2 ^ (8*j):Nat):Int) / 256:=by
   rw[show 8*(j+1)=8*j+8 by omega,Nat.pow_add,Int.natCast_mul,Int.ediv_ediv_of_nonneg (Int.natCast_nonneg _)];rfl
  have m0:0<=n / ((2 ^ (8*j):Nat):Int):=Int.ediv_nonneg hn0 (Int.natCast_nonneg _)
  have m1:n / ((2 ^ (8*j):Nat):Int)<=n:=Int.ediv_le_self _ hn0
  have e4:fxB n (j+1)=fxB n j++mkS [(n / ((2 ^ (8*j):Nat):Int) % 256).toNat]:=by rw[fxB,e2]
  have e5:=z2p n j
  generalize n / ((2 ^ (8*j):Nat):Int)=m at*
  refine⟨mkS [(m % 256).toNat],rfl,λi w h=> ?_,?_,by decide,⟨by omega,by omega⟩,j+1,?_,e4,by omega,by omega,by omega⟩
  ·rw[zr8 _ (by omega)]at h
   rw[Int.tmod_eq_emod_of_nonneg m0,z8q,Nat.zero_add,show m % 256 % 256=(((m % 256).toNat:Nat):Int)by omega];exact h
  ·rw[e5];show j+1<=_;omega
  ·rw[e3,Int.tdiv_eq_ediv_of_nonneg m0,wrap_u64];omega
 ·obtain rfl:j=k.toNat:=by omega
  rfl
def z77(b:ByteArray):mkS []++b=b:=by apply zfk;rw[z3b];rfl
def zbt{S:List AT} {f:Nat->Int}:∀{l:List PV} {k i:Nat} (h:i<l.length),PV.fitL S f k l=true->PV.fits S (f (k+i)) l[i]=true
  |v::l,k,0,h,hf=>by rw[PV.fitL,Bool.and_eq_true]at hf;exact hf.1
  | v::l,k,i+1,h,hf=>by
    rw[PV.fitL,Bool.and_eq_true]at hf
    have:=zbt (k:=k+1) (i:=i) (by simpa using h) hf.2
    rw[show k+(i+1)=k+1+i by omega];exact this
variable {S:List AT} {f:Nat->Int} {v:GV}
def z9m{i:Nat} (hi:i<v.l.length) (h:PV.fitL S f 0 (GV.pvs v.l)=true):PV.fits S (f i) v.l[i].pv=true:=by
 have:=zbt (i:=i) (by rw[GV.pvs_len];exact hi) h
 rw[Nat.zero_add,z3i hi]at this;exact this
variable {ks:List ByteArray}
def zt1{j:Nat} (hj:j<v.l.length):PV.fbL S f ks j ((GV.pvs v.l).drop j)=z3u ks j++PV.fb S (f j) v.l[j].pv++PV.fbL S f ks (j+1) ((GV.pvs v.l).drop (j+1)):=by
 have h:j<(GV.pvs v.l).length:=by rw[GV.pvs_len];exact hj
 rw[List.drop_eq_getElem_cons h,PV.fbL,z3i hj]
def zbq{l:List PV} {j:Nat} (h:l.length<=j):PV.fbL S f ks j (l.drop j)=mkS []:=by
 rw[List.drop_of_length_le h,PV.fbL]
def fbB(S:List AT) (a:AT) (v:GV):ByteArray:=
 if a.k=2 then fxB v.n 1 else
 if a.k=3\/a.k=4\/a.k=10 then vz (IntKind.wrap .i64 v.n)else
 if a.k=5 then fxB v.n 4 else
 if a.k=6 then fxB v.n 8 else
 if a.k=7\/a.k=8 then vz v.s.size++v.s else
 if a.k=11 then v.s else
 if a.k=14 then vz v.b++PV.fbL S (z0c a v.b) v.ks 0 (GV.pvs v.l)else
 if a.k=9 then PV.fbL S (z0c a v.b) v.ks 0 (GV.pvs v.l)else
 if a.k=12\/a.k=13 then bl0 v.l.length++PV.fbL S (z0c a v.b) v.ks 0 (GV.pvs v.l)++vz 0 else mkS []
def j9z{t:Int} {a:AT} (hs:S[t.toNat]? =some a):PV.fb S t v.pv=fbB S a v:=by
 rw[GV.pv_eq,PV.fb,hs,GV.pvs_len]
 rfl
def zsy(n:Nat) (he0:q58 P 45 (z9d.below zto n)):q58 P 45 (z9d.below zto (n+1)):=by
 refine qkl mixed (qdh (qh9 ztg (qh9 zmt (qh9 he0 qk5)))) (W:=j21) Try.func45 (by kernel_rfl) (show 1<=1 by decide) (show 1<=2 by decide) (λs=>by kernel_rfl) λ⟨S,(x:SV),(t:Int),v⟩=>(zsx n S x t v).mpr ?_
 rintro⟨hmu,hS,hv,hw,hfit⟩ ⟨p,_,hx,hvo⟩
 have hmu:SizeOf.sizeOf v<n+1:=hmu
 have xs:x.2.1=S.length:=hx.1.1
 have xl:=GV.x_len hvo
 have yl:=GV.y_len hvo
 have wl:=GV.wt_len v
 have hs1:=GV.ss_s hv
 have hvs:=hv.1
 rw[GV.sm_eq]at hvs
 obtain⟨hn,hss,vl,kl,ksz,_⟩:=hvs
 obtain⟨t0,t1⟩:=z6x hfit
 have hsz:=zgf v.pv t hv hw hfit hS
 obtain⟨j,rfl⟩:=Int.eq_ofNat_of_zero_le t0
 have hj:j<S.length:=by omega
 have hsj:S[((j:Nat):Int).toNat]? =some S[j]:=by rw[Int.toNat_natCast,List.getElem?_eq_getElem hj]
 have hat:=λq (hq:z05 S x q/\v.ok q)=>z2d hq.1 hj
 have hao:=λq (hq:z05 S x q/\v.ok q)=>hq.1.2 S[j] (List.getElem_mem hj)
 have hsm:=hS.2 S[j] (List.getElem_mem hj)
 have hqq:=zrg (v:=v) hsj hfit
 have ef:=λ(r:ByteArray) (h:fbB S S[j] v=r)=>(j9z (v:=v) hsj).trans h
 have bl:S[j].br.2.1=S[j].brs.length:=(hao p ⟨hx,hvo⟩).2.2.2.1.1
 have fl:S[j].f.2.1=S[j].fs.length:=(hao p ⟨hx,hvo⟩).2.2.1.1
 simp only[sbS,Int.toNat_natCast,exists_const,xl,yl,z0v hj]
 refine⟨⟨by omega,by omega⟩,(hat p ⟨hx,hvo⟩).1,S[j].k,S[j].nm,S[j].al.1,S[j].al.2.1,S[j].al.2.2,S[j].it,S[j].sy.1,S[j].sy.2.1,S[j].sy.2.2,S[j].hd,S[j].df,S[j].sz,S[j].f.1,S[j].f.2.1,S[j].f.2.2,S[j].br.1,S[j].br.2.1,S[j].br.2.2,λq hq=>(hat q hq).2,?_⟩
 rw[bl,fl]
 generalize S[j]=a at*
 generalize PV.fb S (j:Int) v.pv=F at*
 refine⟨λh2=> ?_,λh2=>⟨⟨λh=>by unfold z5n;exact z08 (by omega),λh3=>⟨λh=>by unfold z5n;exact z08 (by omega),λh4=>by unfold z5n;exact z08 (by omega)⟩⟩,?_⟩⟩
 ·exact⟨⟨v.n,1⟩,rfl,rfl,⟨⟨(by decide:(0:Int)<=1),(by decide:(1:Int)<=8)⟩,hn.1,hn.2⟩,ef _ (by unfold fbB;rw[if_pos h2];rfl)⟩
 intro _ _
 refine⟨λhL=> ?_,λhL=> ?_⟩
 ·unfold z5n at hL
  rw[decide_eq_true_eq]at hL
  exact⟨_,rfl,z1v v.n,ef _ (by unfold fbB;rw[if_neg h2,if_pos hL];rfl)⟩
 unfold z5n at hL
 rw[decide_eq_false_iff_not]at hL
 refine⟨λh5=> ?_,λh5=>⟨λh6=> ?_,λh6=>⟨⟨λh=>by unfold z81;exact z08 (by omega),λh=>by unfold z81;exact z08 (by omega)⟩,?_⟩⟩⟩
 ·exact⟨⟨v.n,4⟩,rfl,rfl,⟨⟨(by decide:(0:Int)<=4),(by decide:(4:Int)<=8)⟩,hn.1,hn.2⟩,ef _ (by unfold fbB;rw[if_neg h2,if_neg hL,if_pos h5];rfl)⟩
 ·exact⟨⟨v.n,8⟩,rfl,rfl,⟨⟨(by decide:(0:Int)<=8),(by decide:(8:Int)<=8)⟩,hn.1,hn.2⟩,ef _ (by unfold fbB;rw[if_neg h2,if_neg hL,if_neg h5,if_pos h6];rfl)⟩
 intro _ _
 refine⟨λhb=> ?_,λhb=> ?_⟩
 ·unfold z81 at hb
  rw[decide_eq_true_eq]at hb
  have hz:=z1o (v.s.size:Int) (by omega) (by omega)
  refine⟨_,rfl,⟨by omega,by omega⟩,?_,ef _ (by unfold fbB;rw[if_neg h2,if_neg hL,if_neg h5,if_neg h6,if_pos hb];rfl)⟩
  show(vz (v.s.size:Int)).size+v.s.size<=_
  omega
 unfold z81 at hb
 rw[decide_eq_false_iff_not]at hb
 refine⟨λh11=> ?_,λh11=>⟨λh14=> ?_,λh14=>⟨λh9=> ?_,λh9=>⟨⟨λh=>by unfold z80;exact z08 (by omega),λh=>by unfold z80;exact z08 (by omega)⟩,?_⟩⟩⟩⟩
 ·exact ef _ (by unfold fbB;rw[if_neg h2,if_neg hL,if_neg h5,if_neg h6,if_neg hb,if_pos h11])
 ·obtain⟨ho,hfl⟩:=hqq (by unfold isQ;exact decide_eq_true (by omega))
  obtain⟨o1,o2,o3,o4⟩:=z1m ho
  obtain⟨b0,b1,l1⟩:=o3 h14
  have hks:=o1 (by omega)
  have h0:0<v.l.length:=by omega
  obtain⟨b,hvb⟩:=Int.eq_ofNat_of_zero_le b0
  have hbl:b<a.brs.length:=by omega
  have hty:z0c a v.b 0=a.brs[b]:=by
   unfold z0c
   rw[if_neg (by omega),if_pos h14,hvb,Int.toNat_natCast,List.getD_eq_getElem?_getD,List.getElem?_eq_getElem hbl];rfl
  have hd:=z9m (S:=S) (f:=z0c a v.b) h0 hfl
  have hs:=zt1 (S:=S) (f:=z0c a v.b) (ks:=v.ks) h0
  have hend:=zbq (S:=S) (f:=z0c a v.b) (ks:=v.ks) (l:=GV.pvs v.l) (j:=0+1) (by rw[GV.pvs_len];omega)
  rw[hend,hks,z2r,z77,z0n,←hks,List.drop_zero]at hs
  have hsz0:=z1h h0
  have hwt:=GV.wt_at h0
  have hvz:=z1o v.b (by omega) (by omega)
  rw[hty]at hd hs
  have eF:=ef _ (by unfold fbB;rw[if_neg h2,if_neg hL,if_neg h5,if_neg h6,if_neg hb,if_neg h11,if_pos h14,hs])
  have hFs:F.size=(vz v.b).size+(PV.fb S a.brs[b] v.l[0].pv).size:=by rw[eF,z0b]
  have hba:=λq (hq:z05 S x q/\v.ok q)=>z1u (hao q hq) hbl
  refine⟨v.b,rfl,⟨by omega,by omega⟩,⟨b0,by omega⟩,?_⟩
  rw[show v.b.toNat=b by omega]
  refine⟨(hba p ⟨hx,hvo⟩).1,a.brs[b],λq hq=>(hba q hq).2,⟨by omega,by omega⟩,(GV.cells_at hvo h0).1,v.l[0].n,v.l[0].s,v.l[0].x.1,v.l[0].x.2.1,v.l[0].x.2.2,v.l[0].y.1,v.l[0].y.2.1,v.l[0].y.2.2,v.l[0].b,λq hq=>(GV.cells_at hq.2 h0).2,⟨S,x,a.brs[b],v.l[0]⟩,?_⟩
  simp only[true_and,eq_self]
  refine⟨⟨by show SizeOf.sizeOf v.l[0]<n;omega,hS,GV.sz_at hv h0,by show v.l[0].pv.wt<_;omega,hd⟩,λq hq=>⟨hq.1,GV.ok_at hq.2 h0⟩,?_,a.brs[b],λq hq=>(hba q hq).2,rfl,v.l[0].n,v.l[0].s,v.l[0].x.1,v.l[0].x.2.1,v.l[0].x.2.2,v.l[0].y.1,v.l[0].y.2.1,v.l[0].y.2.2,v.l[0].b,λq hq=>(GV.cells_at hq.2 h0).2,rfl,eF⟩
  show(vz v.b).size+(PV.fb S a.brs[b] v.l[0].pv).size<=_
  omega
 ·obtain⟨ho,hfl⟩:=hqq (by unfold isQ;exact decide_eq_true (by omega))
  obtain⟨o1,o2,o3,o4⟩:=z1m ho
  have hll:=o2 h9
  have hks:=o1 (by omega)
  have eF:=ef _ (by unfold fbB;rw[if_neg h2,if_neg hL,if_neg h5,if_neg h6,if_neg hb,if_neg h11,if_neg h14,if_pos h9])
  refine⟨⟨⟨0,mkS []⟩,rfl,rfl,Nat.zero_le _,?_⟩,?_⟩
  ·exact z77 _
  rintro⟨i,C⟩ ⟨hi,he⟩
  simp only at hi he⊢
  refine⟨λhlt=> ?_,λhge=> ?_⟩
  ·have hil:i<v.l.length:=by omega
   have hif:i<a.fs.length:=by omega
   have hty:z0c a v.b i=a.fs[i].ty:=by unfold z0c;rw[if_pos h9,List.getElem?_eq_getElem hif]
   have hd:=z9m (S:=S) (f:=z0c a v.b) hil hfl
   have hs:=zt1 (S:=S) (f:=z0c a v.b) (ks:=v.ks) hil
   rw[hty]at hd hs
   rw[hs,hks,z2r,z77,←hks]at he
   have hes:=congrArg ByteArray.size he
   rw[←eF,z0b,z0b]at hes
   have hsc:=z1h hil
   have hwt:=GV.wt_at hil
   have hfa:=λq (hq:z05 S x q/\v.ok q)=>z8d (hao q hq) hif
   refine⟨⟨by omega,by omega⟩,(z1y (hao p ⟨hx,hvo⟩) hif).1,a.fs[i].ty,λq hq=>hfa q hq,⟨by omega,by omega⟩,(GV.cells_at hvo hil).1,v.l[i].n,v.l[i].s,v.l[i].x.1,v.l[i].x.2.1,v.l[i].x.2.2,v.l[i].y.1,v.l[i].y.2.1,v.l[i].y.2.2,v.l[i].b,λq hq=>(GV.cells_at hq.2 hil).2,⟨S,x,a.fs[i].ty,v.l[i]⟩,?_⟩
   simp only[true_and,eq_self]
   refine⟨⟨by show SizeOf.sizeOf v.l[i]<n;omega,hS,GV.sz_at hv hil,by show v.l[i].pv.wt<_;omega,hd⟩,λq hq=>⟨hq.1,GV.ok_at hq.2 hil⟩,by omega,⟨by omega,by omega⟩,⟨i+1,C++PV.fb S a.fs[i].ty v.l[i].pv⟩,by show((i+1:Nat):Int)=_;omega,rfl,⟨by show i+1<=_;omega,?_⟩,by show _- (i+1)<_;omega⟩
   rw[←he,ByteArray.append_assoc]
  ·rw[eF,←he,zbq (by rw[GV.pvs_len];omega),z0n]
 intro _ _
 refine⟨λhA=> ?_,λhA=> ?_⟩
 ·unfold z80 at hA
  rw[decide_eq_true_eq]at hA
  obtain⟨ho,hfl⟩:=hqq (by unfold isQ;exact decide_eq_true (by omega))
  obtain⟨o1,o2,o3,o4⟩:=z1m ho
  have eF:=ef _ (by unfold fbB;rw[if_neg h2,if_neg hL,if_neg h5,if_neg h6,if_neg hb,if_neg h11,if_neg h14,if_neg h9,if_pos hA])
  have hz0:=z1o 0 (by omega) (by omega)
  have hFs:=congrArg ByteArray.size eF
  rw[z0b]at hFs
  refine⟨⟨λhl=>⟨_,rfl,⟨by omega,by omega⟩,?_⟩,λhl=> ?_⟩,?_⟩
  ·unfold bl0;rw[if_pos (by omega)];rfl
  ·unfold bl0;rw[if_neg (by omega)]
  intro _ _
  refine⟨⟨⟨0,bl0 v.l.length⟩,rfl,rfl,Nat.zero_le _,rfl⟩,?_⟩
  rintro⟨i,C⟩ ⟨hi,he⟩
  simp only at hi he⊢
  refine⟨λhlt=> ?_,λhge=>⟨0,rfl,⟨by omega,by omega⟩,?_,?_⟩⟩
  ·have hil:i<v.l.length:=by omega
   have hty:z0c a v.b i=a.it:=by
    unfold z0c
    rw[if_neg (by omega),if_neg (by omega)]
   have hd:=z9m (S:=S) (f:=z0c a v.b) hil hfl
   have hs:=zt1 (S:=S) (f:=z0c a v.b) (ks:=v.ks) hil
   rw[hty]at hd hs
   rw[hs]at he
   have hes:=congrArg ByteArray.size he
   rw[z0b,z0b,z0b]at hes
   have hsc:=z1h hil
   have hwt:=GV.wt_at hil
   refine⟨λh13=> ?_,λh13=> ?_⟩
   ·have hik:i<v.ks.length:=by have:=o4 h13;omega
    have hvz:=z1o (v.ks[i].size:Int) (by omega) (by have:=z71 (List.getElem_mem hik);omega)
    have hkz:=z71 (List.getElem_mem hik)
    rw[z9p hik]at he hes
    rw[z0b]at hes
    have hy:=λq (hq:v.ok q)=>z7f (show slP txV v.y v.ks q by rw[GV.ok_eq]at hq;exact hq.2.1) hik
    have sC1:(C++vz (v.ks[i].size:Int)).size=C.size+(vz (v.ks[i].size:Int)).size:=z0b _ _
    have sC2:(C++vz (v.ks[i].size:Int)++v.ks[i]).size=C.size+(vz (v.ks[i].size:Int)).size+v.ks[i].size:=by rw[z0b,z0b]
    refine⟨⟨by omega,by omega⟩,(hy p hvo).1,v.ks[i],λq hq=>(hy q hq.2).2,_,rfl,⟨by omega,by omega⟩,?_,⟨by omega,by omega⟩,(hy p hvo).1,v.ks[i],λq hq=>(hy q hq.2).2,?_,v.ks[i],λq hq=>(hy q hq.2).2,rfl,⟨by omega,by omega⟩,(GV.cells_at hvo hil).1,v.l[i].n,v.l[i].s,v.l[i].x.1,v.l[i].x.2.1,v.l[i].x.2.2,v.l[i].y.1,v.l[i].y.2.1,v.l[i].y.2.2,v.l[i].b,λq hq=>(GV.cells_at hq.2 hil).2,⟨S,x,a.it,v.l[i]⟩,?_⟩
    ·show C.size+(vz (v.ks[i].size:Int)).size<=_;omega
    ·show(C++vz (v.ks[i].size:Int)).size+v.ks[i].size<=_;omega
    simp only[true_and,eq_self]
    refine⟨⟨by show SizeOf.sizeOf v.l[i]<n;omega,hS,GV.sz_at hv hil,by show v.l[i].pv.wt<_;omega,hd⟩,λq hq=>⟨hq.1,GV.ok_at hq.2 hil⟩,?_,⟨by omega,by omega⟩,⟨i+1,C++vz (v.ks[i].size:Int)++v.ks[i]++PV.fb S a.it v.l[i].pv⟩,by show((i+1:Nat):Int)=_;omega,rfl,⟨by show i+1<=_;omega,?_⟩,by show _- (i+1)<_;omega⟩
    ·show(C++vz (v.ks[i].size:Int)++v.ks[i]).size+_<=_;omega
    ·rw[←he];simp only[ByteArray.append_assoc]
   ·have hks:=o1 (by omega)
    rw[hks,z2r,z77,←hks]at he
    refine⟨⟨by omega,by omega⟩,(GV.cells_at hvo hil).1,v.l[i].n,v.l[i].s,v.l[i].x.1,v.l[i].x.2.1,v.l[i].x.2.2,v.l[i].y.1,v.l[i].y.2.1,v.l[i].y.2.2,v.l[i].b,λq hq=>(GV.cells_at hq.2 hil).2,⟨S,x,a.it,v.l[i]⟩,?_⟩
    simp only[true_and,eq_self]
    refine⟨⟨by show SizeOf.sizeOf v.l[i]<n;omega,hS,GV.sz_at hv hil,by show v.l[i].pv.wt<_;omega,hd⟩,λq hq=>⟨hq.1,GV.ok_at hq.2 hil⟩,by omega,⟨by omega,by omega⟩,⟨i+1,C++PV.fb S a.it v.l[i].pv⟩,by show((i+1:Nat):Int)=_;omega,rfl,⟨by show i+1<=_;omega,?_⟩,by show _- (i+1)<_;omega⟩
    rw[←he,ByteArray.append_assoc]
  ·have hes:=congrArg ByteArray.size he
   rw[zbq (by rw[GV.pvs_len];omega),z0n]at hes
   show C.size+(vz 0).size<=_
   omega
  ·rw[eF,←he,zbq (by rw[GV.pvs_len];omega),z0n];rfl
 ·unfold z80 at hA
  rw[decide_eq_false_iff_not]at hA
  exact ef _ (by unfold fbB;rw[if_neg h2,if_neg hL,if_neg h5,if_neg h6,if_neg hb,if_neg h11,if_neg h14,if_neg h9,if_neg hA])
def zbp:∀n,q58 P 45 (z9d.below zto n)
 |0=>Ct.below_zero (by decide) (by decide) (Sen.enters_of Try.func45 (by kernel_rfl)) λs=>⟨rfl,rfl⟩
 |n+1=>zsy n (zbp n)
def zlx:q58 P 45 z9d:=Ct.of_below zbp
def zdf:q58 P 22 z6k:=by
 refine qkl mixed (qdh (qh9 z6z (qh9 zgk (qh9 zlx qk5)))) (W:=zcu) Try.func22 (by kernel_rfl) (by decide) (by decide) (λs=>by kernel_rfl) λ⟨S,(x:SV),(t:Int),v⟩=>(zde S x t v).mpr ?_
 rintro⟨hS,hk,hv,hw⟩ ⟨p,_,hx,hvo⟩
 have xs:x.2.1=S.length:=hx.1.1
 have nil:∀q,qhd q noA 0 0 (q19 (mkS [])):=λq=>⟨Nat.le_refl _, .inl ⟨rfl,z1i⟩⟩
 simp only[sbS,Int.toNat_natCast,exists_const]
 refine⟨⟨x,t⟩,rfl,rfl,rfl,rfl,λh=> ?_,λh=>⟨⟨S,x,t,v⟩,?_⟩⟩
 ·have:z2v S t v.pv=(1,mkS []):=by
   unfold z2v
   simp only[Bool.and_eq_false_iff,decide_eq_false_iff_not]at h
   rw[if_pos (by omega)]
  rw[this];exact⟨rfl,z1i,λq _=>⟨rfl,nil q⟩⟩
 simp only[Bool.and_eq_true,decide_eq_true_eq]at h
 have hr:¬(t<0\/S.length<=t):=by omega
 simp only[true_and,eq_self]
 refine⟨⟨hS,hk,hv.1⟩,λq hq=>hq,λhb=> ?_,λhb=>⟨⟨S,x,t,v⟩,?_⟩⟩
 ·have:z2v S t v.pv=(7,mkS []):=by unfold z2v;rw[if_neg hr,if_pos hb]
  rw[this];exact⟨rfl,z1i,λq _=>⟨rfl,nil q⟩⟩
 have hr2:=zgc hr hb
 simp only[true_and,eq_self]
 refine⟨⟨hS,hv,hw,hb⟩,λq hq=>hq,λhe=> ?_,λhe=> ?_⟩
 ·rw[hr2,if_neg (by omega)];exact⟨rfl,z1i,λq _=>⟨rfl,nil q⟩⟩
 ·rw[hr2,if_pos (by omega)]
  rintro b s u ⟨q,hq,hc,hrow⟩
  refine⟨rfl,rowP_Pl hrow,λr hr=>⟨rfl,?_⟩⟩
  have:=hr.2.2
  rw[Nat.mul_one,←q33,List.take_length]at this
  exact⟨hr.2.1,this⟩
end
def zsp:Ct where
 σ:=SV
 args:=λx=>[svA x]
 h:=λ_=>[]
 m:=1
 r:=λ_=> .ptr 1 0
 h':=λx=>pkO x 0
 m':=2
 g:=λ_=>none
def ztl(x:SV):qki P (λ_=>none) Try.f8 zsp (λ_=>{}) x=(True->Prod.fst x=Prod.fst x/\Prod.fst (Prod.snd x)=Prod.fst (Prod.snd x)/\Prod.snd (Prod.snd x)=Prod.snd (Prod.snd x)/\(0:Int)=(0:Int)/\True):=by kernel_rfl
section
def ztm:q58 P 8 zsp:=by
 refine qkl mixed z0u (W:=λ_=>{}) Try.func8 (by kernel_rfl) (by decide) (by decide) (λs=>by kernel_rfl) λ(x:SV)=>(ztl x).mpr ?_
 simp only[true_and,and_true,eq_self,imp_self,implies_true]
variable {S:List AT}
def zdn(h:z0a S):small S:=⟨by have:=h.1;omega,λe he=>by have:=(h.2 e he).2.2.2.2.2.2.2;omega⟩
def zdm(h:z0a S):z1k S:=λe he=>(h.2 e he).1
def tK(k it:Int):AT:=⟨k,mkS [],(none,0,0),[],it,(none,0,0),[],false,mkS [],0,(none,0,0),[],(none,0,0),[]⟩
def jaa(k it:Int) (p:Pub):(tK k it).ok p:=⟨z06,z06,z06,z06,λf hf=>absurd hf (by simp[tK])⟩
end
def z4t:Ct where
 σ:=Unit
 args:=λ_=>[]
 h:=λ_=>[]
 m:=1
 r:=λ_=> .bool true
 h':=λ_=>[]
 m':=1
 g:=λ_=>none
def zcs:z4t.σ->WayF:=λ_=>{pub:=λi k=>match i,k with
 |2,2=>[10]
 |_,_=>[]}
abbrev LeS:=SV×List Int×SV×List Int×Int×Int×Int
def tvM(x:SV) (L:List Int) (y:SV) (M:List Int):PF:=⟨true,λp=>slP byV x L p/\slP byV y M p,λ_ _ h e=>⟨z0d h e.1,z0d h e.2⟩⟩
def j8s(L:List Int):Prop:=L.length<9223372036854775808/\∀b∈L,0<=b/\b<256
def zrb:Ct:=ctP LeS (λ⟨x,L,y,M,how,n,t⟩=>[svA x,svA y, .sv (.int .u8 how), .sv (.int .u64 n), .sv (.int .i64 t)]) (λ⟨x,L,y,M,how,n,t⟩=>j8s L/\j8s M/\(0<=how/\how<256)/\0<=n/\n<18446744073709551616) (λ⟨x,L,y,M,how,n,t⟩=>tvM x L y M) λ_=> .sv (.bool true)
def zry:LeS->WayF:=λ_=>{
 spl:=λi=>match i with
  |8=>some 3
  |_=>none
 flo:=λi=>match i with
  |8=>some (7,[3])
  |_=>none}
end
end Go.Proofs.Ytpanaicglidfjaa.Wd
