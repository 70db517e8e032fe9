/-
  What the functions do: contracts, and their questions answered. No condition but what its theorems ask.
-/
import Derived.Test.YtpanaicglidfjaaT6
namespace Go.Proofs.Ytpanaicglidfjaa.Wd
open Go.Proofs.Ytpanaicglidfjaa.Eng Go.Proofs.Ytpanaicglidfjaa.Sen Go.RowKit
set_option linter.defProp false
set_option linter.unusedVariables false
set_option linter.unusedSimpArgs false
set_option maxRecDepth 1000000
noncomputable section
theorem is11_eq(x:SV) (t:Int):q2h P (λ_=>none) Try.f30 cIsT (λ_=>{}) ⟨x,t⟩=(True->(decide ((0:Int)<=t)=true->(decide ((0:Int)<=t)&&decide (t<(↑(Prod.fst (Prod.snd x)):Int)))=decide (t<(↑(Prod.fst (Prod.snd x)):Int))/\True)/\(decide ((0:Int)<=t)=false->(decide ((0:Int)<=t)&&decide (t<(↑(Prod.fst (Prod.snd x)):Int)))=false/\True)):=by kernel_rfl
noncomputable section
variable (x0:Int) (x1:SV) (x2:List AT) (x3:GV) (x4:Nat) (x5:Int) (x6:ByteArray) (x7:Option Addr) (x8:Nat) (x9:Int) (x10:Option Addr) (x11:Nat) (x12:Nat) (x13:Bool) (x14:ByteArray) (x15:Int) (x16:Option Addr) (x17:Nat) (x18:Nat) (x19:Option Addr) (x20:Nat) (x21:Nat) (x22:Nat) (x23:Prop) (x24:(Option Addr×Nat×Nat)×Int)
 abbrev zcd30:= !(decide (0<=x24.2)&&decide (x24.2<(↑x24.1.2.1:Int)))
 abbrev qlo:=PV.fits x2 x0 (GV.pv x3)=false/\True
 abbrev qce:=x1.1=x1.1/\x1.2.1=x1.2.1/\x1.2.2=x1.2.2/\GV.n x3=GV.n x3/\GV.s x3=GV.s x3/\(GV.x x3).1=(GV.x x3).1/\(GV.x x3).2.1=(GV.x x3).2.1/\(GV.x x3).2.2=(GV.x x3).2.2/\(GV.y x3).1=(GV.y x3).1/\(GV.y x3).2.1=(GV.y x3).2.1/\(GV.y x3).2.2=(GV.y x3).2.2/\GV.b x3=GV.b x3/\x0=x0/\x6=x6/\x7=x7/\x4=x4/\x8=x8/\x5=x5/\x10=x10/\x11=x11/\x12=x12/\x13=x13/\x14=x14/\x9=x9/\x16=x16/\x17=x17/\x18=x18/\x19=x19/\x20=x20/\x21=x21/\(∀(i0:Pub),True/\q0l x2 x1 i0/\GV.ok x3 i0->True/\q0l x2 x1 i0/\GV.ok x3 i0)/\True/\True
 abbrev qep:=isT (AT.k (atS x2 x0))=false/\nB (AT.k (atS x2 x0))=true/\isQ (AT.k (atS x2 x0))=false/\x23
 abbrev qck:=(-2147483648:Int)<=IntKind.wrap IntKind.i64 (GV.n x3)
 abbrev qht:=decide (qck x3)=decide (qck x3)
 abbrev zcd15:=qht x3/\qht x3/\qht x3/\(decide (qck x3)=true->∃(i0:Unit),q26 x2 (atS x2 x0) x3=decide (IntKind.wrap IntKind.i64 (GV.n x3)<2147483648)/\qep x0 x2 (qce x5 x1 x2 x3 x4 x9 x6 x7 x8 x15 x10 x11 x12 x13 x14 x16 x17 x18 x19 x20 x21))/\(decide (qck x3)=false->∃(i1:Unit),q26 x2 (atS x2 x0) x3=false/\qep x0 x2 (qce x5 x1 x2 x3 x4 x9 x6 x7 x8 x15 x10 x11 x12 x13 x14 x16 x17 x18 x19 x20 x21))
 abbrev zcd13:=(decide (qck x3)=true->zcd15 x0 x1 x2 x3 x4 x5 x6 x7 x8 x9 x10 x11 x12 x13 x14 x15 x16 x17 x18 x19 x20 x21)/\(decide (qck x3)=false->qht x3/\qht x3/\qht x3/\(decide (qck x3)=true->∃(i2:Unit),False)/\(decide (qck x3)=false->∃(i3:Unit),q26 x2 (atS x2 x0) x3=false/\qep x0 x2 (qce x5 x1 x2 x3 x4 x9 x6 x7 x8 x15 x10 x11 x12 x13 x14 x16 x17 x18 x19 x20 x21)))
 abbrev zcd24:=(decide (AT.k (atS x2 x0)=4)=true->∃(i0:Unit),x5=x5/\b46 (AT.k (atS x2 x0))=decide (AT.k (atS x2 x0)=4)/\qce x5 x1 x2 x3 x4 x9 x6 x7 x8 x15 x10 x11 x12 x13 x14 x16 x17 x18 x19 x20 x21)/\(decide (AT.k (atS x2 x0)=4)=false->∃(i1:Unit),x5=x5/\b46 (AT.k (atS x2 x0))=decide (x5=6)/\qce x5 x1 x2 x3 x4 x9 x6 x7 x8 x15 x10 x11 x12 x13 x14 x16 x17 x18 x19 x20 x21)
 abbrev qzr:=isT (AT.k (atS x2 x0))=true/\nB (AT.k (atS x2 x0))=false/\isQ (AT.k (atS x2 x0))=false/\x23
 abbrev zcd11:=(decide (x0=11)=true->∃(i0:Unit),q26 x2 (atS x2 x5) x3=decide ((↑(ByteArray.size (GV.s x3)):Int)=x9)/\qzr x5 x2 (qce x0 x1 x2 x3 x4 x15 x6 x7 x8 x9 x10 x11 x12 x13 x14 x16 x17 x18 x19 x20 x21))/\(decide (x0=11)=false->∃(i1:FpS),i1.2.1.1=x1.1/\i1.2.1.2.1=x1.2.1/\i1.2.1.2.2=x1.2.2/\AT.k i1.2.2.1=x0/\AT.nm i1.2.2.1=x6/\(AT.al i1.2.2.1).1=x7/\(AT.al i1.2.2.1).2.1=x4/\(AT.al i1.2.2.1).2.2=x8/\AT.it i1.2.2.1=x15/\(AT.sy i1.2.2.1).1=x10/\(AT.sy i1.2.2.1).2.1=x11/\(AT.sy i1.2.2.1).2.2=x12/\AT.hd i1.2.2.1=x13/\AT.df i1.2.2.1=x14/\AT.sz i1.2.2.1=x9/\(AT.f i1.2.2.1).1=x16/\(AT.f i1.2.2.1).2.1=x17/\(AT.f i1.2.2.1).2.2=x18/\(AT.br i1.2.2.1).1=x19/\(AT.br i1.2.2.1).2.1=x20/\(AT.br i1.2.2.1).2.2=x21/\GV.n i1.2.2.2=GV.n x3/\GV.s i1.2.2.2=GV.s x3/\(GV.x i1.2.2.2).1=(GV.x x3).1/\(GV.x i1.2.2.2).2.1=(GV.x x3).2.1/\(GV.x i1.2.2.2).2.2=(GV.x x3).2.2/\(GV.y i1.2.2.2).1=(GV.y x3).1/\(GV.y i1.2.2.2).2.1=(GV.y x3).2.1/\(GV.y i1.2.2.2).2.2=(GV.y x3).2.2/\GV.b i1.2.2.2=GV.b x3/\(muIn i1<x22+1/\small i1.1/\q4m i1.1/\List.length (AT.fs i1.2.2.1)<1000000/\PV.sm (GV.pv i1.2.2.2)/\isQ (AT.k i1.2.2.1)=true)/\(∀(i2:Pub),True/\q0l x2 x1 i2/\GV.ok x3 i2->q0l i1.1 i1.2.1 i2/\AT.ok i1.2.2.1 i2/\GV.ok i1.2.2.2 i2)/\∃(i3:Unit),q26 x2 (atS x2 x5) x3=inF i1.1 i1.2.2.1 i1.2.2.2/\isT (AT.k (atS x2 x5))=false/\nB (AT.k (atS x2 x5))=false/\isQ (AT.k (atS x2 x5))=true/\qce x0 x1 x2 x3 x4 x15 x6 x7 x8 x9 x10 x11 x12 x13 x14 x16 x17 x18 x19 x20 x21)
 abbrev zcd10:=(decide (x0=8)=true->GV.s x3=GV.s x3/\ByteArray.size (GV.s x3)<9223372036854775808/\∃(i0:Unit),q26 x2 (atS x2 x5) x3=vld (GV.s x3)/\qzr x5 x2 (qce x0 x1 x2 x3 x4 x9 x6 x7 x8 x15 x10 x11 x12 x13 x14 x16 x17 x18 x19 x20 x21))/\(decide (x0=8)=false->zcd11 x0 x1 x2 x3 x4 x5 x6 x7 x8 x15 x10 x11 x12 x13 x14 x9 x16 x17 x18 x19 x20 x21 x22)
 abbrev zcd9:=(decide (x0=7)=true->∃(i0:Unit),q26 x2 (atS x2 x5) x3=true/\qzr x5 x2 (qce x0 x1 x2 x3 x4 x9 x6 x7 x8 x15 x10 x11 x12 x13 x14 x16 x17 x18 x19 x20 x21))/\(decide (x0=7)=false->zcd10 x0 x1 x2 x3 x4 x5 x6 x7 x8 x9 x10 x11 x12 x13 x14 x15 x16 x17 x18 x19 x20 x21 x22)
 abbrev zcd8:=(decide (x0=10)=true->∃(i0:Unit),q26 x2 (atS x2 x5) x3=decide (GV.n x3<IntKind.wrap IntKind.u64 (↑x4:Int))/\qep x5 x2 (qce x0 x1 x2 x3 x8 x9 x6 x7 x11 x15 x10 x4 x12 x13 x14 x16 x17 x18 x19 x20 x21))/\(decide (x0=10)=false->zcd9 x0 x1 x2 x3 x8 x5 x6 x7 x11 x9 x10 x4 x12 x13 x14 x15 x16 x17 x18 x19 x20 x21 x22)
 abbrev zcd7:=(decide (x0=5)=true->∃(i0:Unit),q26 x2 (atS x2 x5) x3=decide (GV.n x3<4294967296)/\qep x5 x2 (qce x0 x1 x2 x3 x4 x9 x6 x7 x8 x15 x10 x11 x12 x13 x14 x16 x17 x18 x19 x20 x21))/\(decide (x0=5)=false->zcd8 x0 x1 x2 x3 x11 x5 x6 x7 x4 x9 x10 x8 x12 x13 x14 x15 x16 x17 x18 x19 x20 x21 x22)
 abbrev zcd5:=(b46 (AT.k (atS x2 x0))=true->∃(i0:Unit),q26 x2 (atS x2 x0) x3=true/\qep x0 x2 (qce x5 x1 x2 x3 x4 x9 x6 x7 x8 x15 x10 x11 x12 x13 x14 x16 x17 x18 x19 x20 x21))/\(b46 (AT.k (atS x2 x0))=false->zcd7 x5 x1 x2 x3 x4 x0 x6 x7 x8 x9 x10 x11 x12 x13 x14 x15 x16 x17 x18 x19 x20 x21 x22)
 abbrev zcd4:=((∃(i0:Unit),x0=x0/\decide (AT.k (atS x2 x5)=4)=decide (x0=4)/\qce x0 x1 x2 x3 x4 x9 x6 x7 x8 x15 x10 x11 x12 x13 x14 x16 x17 x18 x19 x20 x21)/\∀(i1:Unit),True->zcd24 x5 x1 x2 x3 x4 x0 x6 x7 x8 x9 x10 x11 x12 x13 x14 x15 x16 x17 x18 x19 x20 x21)/\∀(i4:Unit),True->zcd5 x5 x1 x2 x3 x4 x0 x6 x7 x8 x9 x10 x11 x12 x13 x14 x15 x16 x17 x18 x19 x20 x21 x22
 abbrev zcd2:=(decide (x0=3)=true->zcd13 x5 x1 x2 x3 x4 x0 x6 x7 x8 x9 x10 x11 x12 x13 x14 x15 x16 x17 x18 x19 x20 x21)/\(decide (x0=3)=false->zcd4 x0 x1 x2 x3 x4 x5 x6 x7 x8 x9 x10 x11 x12 x13 x14 x15 x16 x17 x18 x19 x20 x21 x22)
 abbrev zcd1:=(decide (x0=2)=true->∃(i0:Unit),q26 x2 (atS x2 x5) x3=decide (GV.n x3<=1)/\qep x5 x2 (qce x0 x1 x2 x3 x4 x9 x6 x7 x8 x15 x10 x11 x12 x13 x14 x16 x17 x18 x19 x20 x21))/\(decide (x0=2)=false->zcd2 x0 x1 x2 x3 x4 x5 x6 x7 x8 x9 x10 x11 x12 x13 x14 x15 x16 x17 x18 x19 x20 x21 x22)
 abbrev qy7:=q26 x2 (atS x2 x0) x3=q26 x2 (atS x2 x0) x3/\isT (AT.k (atS x2 x0))=isT (AT.k (atS x2 x0))/\nB (AT.k (atS x2 x0))=nB (AT.k (atS x2 x0))/\x23
 abbrev zcd12:=((!decide (x0=14))=true->∃(i0:Unit),qy7 x5 x2 x3 (qmh (atS x2 x5) x3= !decide (GV.b x3=0)/\isQ (AT.k (atS x2 x5))=isQ (AT.k (atS x2 x5))/\qce x0 x1 x2 x3 x4 x9 x6 x7 x8 x15 x10 x11 x12 x13 x14 x16 x17 x18 x19 x20 x21))/\((!decide (x0=14))=false->∃(i1:Unit),qy7 x5 x2 x3 (qmh (atS x2 x5) x3=false/\isQ (AT.k (atS x2 x5))=isQ (AT.k (atS x2 x5))/\qce x0 x1 x2 x3 x4 x9 x6 x7 x8 x15 x10 x11 x12 x13 x14 x16 x17 x18 x19 x20 x21))
 abbrev zcd20:=(decide (0<(↑(GV.y x3).2.1:Int))=true->∃(i0:Unit),qy7 x0 x2 x3 (qmh (atS x2 x0) x3=true/\isQ (AT.k (atS x2 x0))=isQ (AT.k (atS x2 x0))/\qce x5 x1 x2 x3 x4 x9 x6 x7 x8 x15 x10 x11 x12 x13 x14 x16 x17 x18 x19 x20 x21))/\(decide (0<(↑(GV.y x3).2.1:Int))=false->zcd12 x5 x1 x2 x3 x4 x0 x6 x7 x8 x9 x10 x11 x12 x13 x14 x15 x16 x17 x18 x19 x20 x21)
 abbrev zcd17:=(isQ (AT.k (atS x2 x0))=true->PV.fits x2 x0 (GV.pv x3)=true/\True)/\(isQ (AT.k (atS x2 x0))=false->PV.fits x2 x0 (GV.pv x3)=decide ((↑(GV.x x3).2.1:Int)=0)/\True)
 abbrev zcd29:=(decide (GV.s x3=mkS [])=true->zcd17 x0 x2 x3)/\(decide (GV.s x3=mkS [])=false->qlo x0 x2 x3)
 abbrev zcd14:=(isT (AT.k (atS x2 x0))=true->zcd17 x0 x2 x3)/\(isT (AT.k (atS x2 x0))=false->zcd29 x0 x2 x3)
 abbrev zcd28:=(decide (GV.n x3=0)=true->zcd14 x0 x2 x3)/\(decide (GV.n x3=0)=false->qlo x0 x2 x3)
 abbrev zcd23:=(nB (AT.k (atS x2 x0))=true->zcd14 x0 x2 x3)/\(nB (AT.k (atS x2 x0))=false->zcd28 x0 x2 x3)
 abbrev zcd21:=(q26 x2 (atS x2 x0) x3=true->zcd23 x0 x2 x3)/\(q26 x2 (atS x2 x0) x3=false->qlo x0 x2 x3)
 abbrev zcd19:=(qmh (atS x2 x0) x3=true->qlo x0 x2 x3)/\(qmh (atS x2 x0) x3=false->zcd21 x0 x2 x3)
 abbrev zcd6:=(((!decide (x0=13))=true->zcd20 x5 x1 x2 x3 x4 x0 x6 x7 x8 x9 x10 x11 x12 x13 x14 x15 x16 x17 x18 x19 x20 x21)/\((!decide (x0=13))=false->zcd12 x0 x1 x2 x3 x4 x5 x6 x7 x8 x9 x10 x11 x12 x13 x14 x15 x16 x17 x18 x19 x20 x21))/\∀(i5:Unit),True->zcd19 x5 x2 x3
 abbrev zcd0:=(0<=x0/\x0<(↑x1.2.1:Int))/\x1.1≠noA/\∃(i0:Int),∃(i1:ByteArray),∃(i2:Option Addr),∃(i3:Nat),∃(i4:Nat),∃(i5:Int),∃(i6:Option Addr),∃(i7:Nat),∃(i8:Nat),∃(i9:Bool),∃(i10:ByteArray),∃(i11:Int),∃(i12:Option Addr),∃(i13:Nat),∃(i14:Nat),∃(i15:Option Addr),∃(i16:Nat),∃(i17:Nat),(∀(i18:Pub),True/\q0l x2 x1 i18/\GV.ok x3 i18->q02 i18 (adr x1.1 (Int.toNat x0*10)) [Value.int IntKind.i64 i0,Value.string i1,Value.slice i2 i3 i4,Value.int IntKind.i64 i5,Value.slice i6 i7 i8,Value.bool i9,Value.string i10,Value.int IntKind.i64 i11,Value.slice i12 i13 i14,Value.slice i15 i16 i17])/\((decide (i0=1)=true->∃(i19:Unit),q26 x2 (atS x2 x0) x3=true/\isT (AT.k (atS x2 x0))=false/\nB (AT.k (atS x2 x0))=false/\isQ (AT.k (atS x2 x0))=false/\qce i0 x1 x2 x3 i3 i5 i1 i2 i4 i11 i6 i7 i8 i9 i10 i12 i13 i14 i15 i16 i17)/\(decide (i0=1)=false->zcd1 i0 x1 x2 x3 i3 x0 i1 i2 i4 i5 i6 i7 i8 i9 i10 i11 i12 i13 i14 i15 i16 i17 x4))/\∀(i54:Unit),True->zcd6 i0 x1 x2 x3 i3 x0 i1 i2 i4 i5 i6 i7 i8 i9 i10 i11 i12 i13 i14 i15 i16 i17
end
theorem qv1(n:Nat) (S:List AT) (x:SV) (t:Int) (v:GV):q2h P (q0r [(30,cIsT),(31,q5l),(32,qiz.below muIn (n+1))]) Try.f12 (q98.below muFr (n+1)) (wFitsR) ⟨S,x,t,v⟩=(muFr (S,x,t,v)<n+1/\small S/\q4m S/\PV.sm (GV.pv v)->(∃(p:Pub),True/\q0l S x p/\GV.ok v p)->∃(s:(Option Addr×Nat×Nat)×Int),s.1.1=x.1/\s.1.2.1=x.2.1/\s.1.2.2=x.2.2/\s.2=t/\True/\((zcd30 s)=true->qlo t S v)/\((zcd30 s)=false->zcd0 t x S v n)):=by kernel_rfl
def fitsR_eq(n:Nat) (S:List AT) (x:SV) (t:Int) (v:GV):=Eq.trans (qv1 n S x t v) (by delta zcd30 qlo qce qep qck qht zcd15 zcd13 zcd24 qzr zcd11 zcd10 zcd9 zcd8 zcd7 zcd5 zcd4 zcd2 zcd1 qy7 zcd12 zcd20 zcd17 zcd29 zcd14 zcd28 zcd23 zcd21 zcd19 zcd6 zcd0;exact rfl)
noncomputable section
variable (x0:SV) (x1:GV) (x2:AT) (x3:List AT) (x4:Prop) (x5:Nat) (x6:Nat) (x7:FtS) (x8:Int) (x9:ByteArray) (x10:Option Addr) (x11:Option Addr) (x12:Nat) (x13:Nat) (x14:Int) (x15:Nat) (x16:Nat->Option Obj)
 abbrev qac:=True/\q0l x3 x0 x16/\AT.ok x2 x16/\GV.ok x1 x16
 abbrev q4w:=(↑(GV.x x1).2.1:Int)
 abbrev qog:=x0.1=x0.1/\x0.2.1=x0.2.1/\x0.2.2=x0.2.2/\GV.n x1=GV.n x1/\GV.s x1=GV.s x1/\(GV.x x1).1=(GV.x x1).1/\(GV.x x1).2.1=(GV.x x1).2.1/\(GV.x x1).2.2=(GV.x x1).2.2/\(GV.y x1).1=(GV.y x1).1/\(GV.y x1).2.1=(GV.y x1).2.1/\(GV.y x1).2.2=(GV.y x1).2.2/\GV.b x1=GV.b x1/\AT.k x2=AT.k x2/\AT.nm x2=AT.nm x2/\(AT.al x2).1=(AT.al x2).1/\(AT.al x2).2.1=(AT.al x2).2.1/\(AT.al x2).2.2=(AT.al x2).2.2/\AT.it x2=AT.it x2/\(AT.sy x2).1=(AT.sy x2).1/\(AT.sy x2).2.1=(AT.sy x2).2.1/\(AT.sy x2).2.2=(AT.sy x2).2.2/\AT.hd x2=AT.hd x2/\AT.df x2=AT.df x2/\AT.sz x2=AT.sz x2/\(AT.f x2).1=(AT.f x2).1/\(AT.f x2).2.1=(AT.f x2).2.1/\(AT.f x2).2.2=(AT.f x2).2.2/\(AT.br x2).1=(AT.br x2).1/\(AT.br x2).2.1=(AT.br x2).2.1/\(AT.br x2).2.2=(AT.br x2).2.2/\(∀(i0:Pub),qac x0 x1 x2 x3 i0->qac x0 x1 x2 x3 i0)/\x4
 abbrev qvd:=AT.k x2≠14/\okQ x2 (List.length (GV.l x1)) (GV.ks x1) (GV.b x1)=true
 abbrev zce21:=((!decide ((q4w x1)=(↑(AT.f x2).2.1:Int)))=true->inF x3 x2 x1=false/\True)/\((!decide ((q4w x1)=(↑(AT.f x2).2.1:Int)))=false->∃(i0:Unit),qog x0 x1 x2 x3 ((qvd x1 x2)/\True))
 abbrev qf4:=(↑(GV.y x1).2.1:Int)
 abbrev qlz:=x5<=List.length (GV.ks x1)/\(q31 (GV.ks x1)=if x5=0 then q31 (GV.ks x1)else q31 (List.drop (x5- 1) (GV.ks x1)))/\x4
 abbrev zce36:=(∀(i0:Pub),qac x0 x1 x2 x3 i0->q02 i0 (adr (GV.y x1).1 (Int.toNat (↑x5:Int)*1)) [Value.string x9])
 abbrev zce33:=((!vld x9)=true->inF x3 x2 x1=false/\True)/\((!vld x9)=false->False)
 abbrev zce32:=(!vld x9)= !vld x9/\(!vld x9)= !vld x9/\(!vld x9)= !vld x9/\zce33 x1 x2 x3 x9
 abbrev q2v:=decide (0<(↑x5:Int))=decide (0<(↑x5:Int))
 abbrev qve:=((-9223372036854775808:Int)<=(↑x5:Int)+1/\(↑x5:Int)+1<=9223372036854775807)
 abbrev zce34:=List.length (GV.ks x1)- x5<List.length (GV.ks x1)- x6/\True
 abbrev qah:=decide (0<=GV.b x1)=decide (0<=GV.b x1)
 abbrev qb5:=GV.b x1<(↑(AT.br x2).2.1:Int)
 abbrev qho:=decide (qb5 x1 x2)=decide (qb5 x1 x2)
 abbrev q7t:=decide ((q4w x1)=1)=decide ((q4w x1)=1)
 abbrev qxf:=q7t x1/\q7t x1/\q7t x1/\q7t x1/\q7t x1/\x4
 abbrev zce31:=x7.2.1.1=x0.1/\x7.2.1.2.1=x0.2.1/\x7.2.1.2.2=x0.2.2/\x4
 abbrev zce19:=GV.n x7.2.2.2=x8/\GV.s x7.2.2.2=x9/\(GV.x x7.2.2.2).1=x10/\(GV.x x7.2.2.2).2.1=x5/\(GV.x x7.2.2.2).2.2=x6/\(GV.y x7.2.2.2).1=x11/\(GV.y x7.2.2.2).2.1=x12/\(GV.y x7.2.2.2).2.2=x13/\GV.b x7.2.2.2=x14/\(muFr x7<x15/\small x7.1/\q4m x7.1/\PV.sm (GV.pv x7.2.2.2))/\(∀(i0:Pub),qac x0 x1 x2 x3 i0->q0l x7.1 x7.2.1 i0/\GV.ok x7.2.2.2 i0)/\x4
 abbrev zce7:=qxf x1 ((0<=GV.b x1/\qb5 x1 x2)/\(AT.br x2).1≠noA/\q7t x1/\∃(i0:Int),(∀(i1:Pub),qac x0 x1 x2 x3 i1->q02 i1 (adr (AT.br x2).1 (Int.toNat (GV.b x1)*1)) [Value.int IntKind.i64 i0])/\q7t x1/\q7t x1/\q7t x1/\((0:Int)<=0/\0<(q4w x1))/\(GV.x x1).1≠noA/\q7t x1/\∃(i2:Int),∃(i3:ByteArray),∃(i4:Option Addr),∃(i5:Nat),∃(i6:Nat),∃(i7:Option Addr),∃(i8:Nat),∃(i9:Nat),∃(i10:Int),(∀(i11:Pub),qac x0 x1 x2 x3 i11->q02 i11 (adr (GV.x x1).1 ((0:Nat)*5)) [Value.int IntKind.u64 i2,Value.string i3,Value.slice i4 i5 i6,Value.slice i7 i8 i9,Value.int IntKind.i64 i10])/\q7t x1/\∃(i12:FtS),zce31 x0 (i12.2.2.1=i0/\zce19 x0 x1 x2 x3 ((decide ((q4w x1)=1)=true->inF x3 x2 x1=PV.fits i12.1 i12.2.2.1 (GV.pv i12.2.2.2)/\True)/\(decide ((q4w x1)=1)=false->inF x3 x2 x1=false/\True)) i5 i6 i12 i2 i3 i4 i7 i8 i9 i10 x5) i12)
 abbrev zce24:=q7t x1/\qxf x1 (qxf x1 ((decide ((q4w x1)=1)=true->False)/\(decide ((q4w x1)=1)=false->inF x3 x2 x1=false/\True)))
 abbrev zce6:=(decide ((q4w x1)=1)=true->zce7 x0 x1 x2 x3 x5)/\(decide ((q4w x1)=1)=false->zce24 x1 x2 x3)
 abbrev zce5:=qho x1 x2/\qho x1 x2/\qho x1 x2/\(decide (qb5 x1 x2)=true->zce6 x0 x1 x2 x3 x5)/\(decide (qb5 x1 x2)=false->inF x3 x2 x1=false/\True)
 abbrev zce25:=qho x1 x2/\qho x1 x2/\qho x1 x2/\(decide (qb5 x1 x2)=true->False)/\(decide (qb5 x1 x2)=false->inF x3 x2 x1=false/\True)
 abbrev zce4:=(decide (qb5 x1 x2)=true->zce5 x0 x1 x2 x3 x5)/\(decide (qb5 x1 x2)=false->zce25 x1 x2 x3)
 abbrev zce3:=qah x1/\qah x1/\qah x1/\qah x1/\qah x1/\(decide (0<=GV.b x1)=true->zce4 x0 x1 x2 x3 x5)/\(decide (0<=GV.b x1)=false->inF x3 x2 x1=false/\True)
 abbrev zce29:=qah x1/\qah x1/\qah x1/\qah x1/\qah x1/\(decide (0<=GV.b x1)=true->False)/\(decide (0<=GV.b x1)=false->inF x3 x2 x1=false/\True)
 abbrev zce2:=(decide (0<=GV.b x1)=true->zce3 x0 x1 x2 x3 x5)/\(decide (0<=GV.b x1)=false->zce29 x1 x2 x3)
 abbrev zce1:=(decide (AT.k x2=14)=true->zce2 x0 x1 x2 x3 x5)/\(decide (AT.k x2=14)=false->∃(i14:Unit),qog x0 x1 x2 x3 ((qvd x1 x2)/\True))
 abbrev zce23:=x5<=List.length (GV.l x1)/\PV.fitL x3 (q2p x2 (GV.b x1)) x5 (List.drop x5 (GV.pvs (GV.l x1)))=PV.fitL x3 (q2p x2 (GV.b x1)) 0 (GV.pvs (GV.l x1))
 abbrev zce18:=(0<=(↑x5:Int)/\(↑x5:Int)<(↑(AT.f x2).2.1:Int))/\(AT.f x2).1≠noA/\∃(i0:Int),(∀(i1:Pub),qac x0 x1 x2 x3 i1->q02 i1 (Addr.add (adr (AT.f x2).1 (Int.toNat (↑x5:Int)*9)) 2) [Value.int IntKind.i64 i0])/\∃(i2:Unit),q2p x2 (GV.b x1) (Int.toNat (↑x5:Int))=i0/\(↑x5:Int)=(↑x5:Int)/\qog x0 x1 x2 x3 (True/\True)
 abbrev zce20:=qve x5/\∃(i0:Nat),(↑i0:Int)=(↑x5:Int)+1/\qog x0 x1 x2 x3 ((zce23 x1 x2 x3 i0)/\List.length (GV.l x1)- i0<List.length (GV.l x1)- x5/\True)
 abbrev zce12:=(0<=(↑x5:Int)/\(↑x5:Int)<(q4w x1))/\(GV.x x1).1≠noA/\∃(i0:Int),∃(i1:ByteArray),∃(i2:Option Addr),∃(i3:Nat),∃(i4:Nat),∃(i5:Option Addr),∃(i6:Nat),∃(i7:Nat),∃(i8:Int),(∀(i9:Pub),qac x0 x1 x2 x3 i9->q02 i9 (adr (GV.x x1).1 (Int.toNat (↑x5:Int)*5)) [Value.int IntKind.u64 i0,Value.string i1,Value.slice i2 i3 i4,Value.slice i5 i6 i7,Value.int IntKind.i64 i8])/\∃(i10:FtS),zce31 x0 (i10.2.2.1=q2p x2 (GV.b x1) (Int.toNat (↑x5:Int))/\zce19 x0 x1 x2 x3 (((!PV.fits i10.1 i10.2.2.1 (GV.pv i10.2.2.2))=true->inF x3 x2 x1=false/\True)/\((!PV.fits i10.1 i10.2.2.1 (GV.pv i10.2.2.2))=false->zce20 x0 x1 x2 x3 x5)) i3 i4 i10 i0 i1 i2 i5 i6 i7 i8 x6) i10
 abbrev zce10:=((decide (AT.k x2=9)=true->zce18 x0 x1 x2 x3 x5)/\(decide (AT.k x2=9)=false->∃(i3:Unit),q2p x2 (GV.b x1) (Int.toNat (↑x5:Int))=AT.it x2/\(↑x5:Int)=(↑x5:Int)/\qog x0 x1 x2 x3 (True/\True)))/\∀(i4:Unit),True->zce12 x0 x1 x2 x3 x5 x6
 abbrev zce9:=(decide ((↑x5:Int)<(q4w x1))=true->zce10 x0 x1 x2 x3 x5 x6)/\(decide ((↑x5:Int)<(q4w x1))=false->inF x3 x2 x1=true/\True)
 abbrev zce8:=(∃(i0:Nat),(↑i0:Int)=0/\qog x0 x1 x2 x3 ((zce23 x1 x2 x3 i0)/\True))/\∀(i1:Nat),zce23 x1 x2 x3 i1->zce9 x0 x1 x2 x3 i1 x5
end
theorem qtn(n:Nat) (S:List AT) (x:SV) (a:AT) (v:GV):q2h P (q0r [(31,q5l),(12,q98.below muFr n)]) Try.f32 (qiz.below muIn (n+1)) (wInner) ⟨S,x,a,v⟩=(muIn (S,x,a,v)<n+1/\small S/\q4m S/\List.length (AT.fs a)<1000000/\PV.sm (GV.pv v)/\isQ (AT.k a)=true->(∃(p:Pub),qac x v a S p)->((decide (AT.k a=9)=true->zce21 x v a S)/\(decide (AT.k a=9)=false->(decide (AT.k a=13)=true->((!decide ((q4w v)=(qf4 v)))=true->inF S a v=false/\True)/\((!decide ((q4w v)=(qf4 v)))=false->(∃(s:Nat),(↑s:Int)=0/\qog x v a S ((qlz v (∀(h:0<s) (h2:s<=List.length (GV.ks v)),vld (GV.ks v)[s- 1]=true) s)/\True))/\∀(s:Nat),(qlz v (∀(h:0<s) (h2:s<=List.length (GV.ks v)),vld (GV.ks v)[s- 1]=true) s)->(decide ((↑s:Int)<(qf4 v))=true->(0<=(↑s:Int)/\(↑s:Int)<(qf4 v))/\(GV.y v).1≠noA/\∃(s_1:ByteArray),zce36 x v a S s s_1/\s_1=s_1/\ByteArray.size s_1<9223372036854775808/\((!vld s_1)=true->zce32 v a S s_1)/\((!vld s_1)=false->(!vld s_1)= !vld s_1/\(!vld s_1)= !vld s_1/\(decide (0<(↑s:Int))=true->q2v s/\q2v s/\q2v s/\(0<=(↑s:Int)/\(↑s:Int)<(qf4 v))/\(GV.y v).1≠noA/\q2v s/\∃(s_2:ByteArray),zce36 x v a S s s_2/\q2v s/\q2v s/\q2v s/\q2v s/\((-9223372036854775808:Int)<=(↑s:Int)- 1/\(↑s:Int)- 1<=9223372036854775807)/\q2v s/\(0<=(↑s:Int)- 1/\(↑s:Int)- 1<(qf4 v))/\(GV.y v).1≠noA/\q2v s/\∃(s_3:ByteArray),(∀(p:Pub),qac x v a S p->q02 p (adr (GV.y v).1 (Int.toNat ((↑s:Int)- 1)*1)) [Value.string s_3])/\q2v s/\(!vld s_1)= !vld s_1/\(decide (0<(↑s:Int))=true->((!vld s_1)=true->inF S a v=false/\True)/\((!vld s_1)=false->((q2y s_2 s_3||decide (s_2=s_3))=true->inF S a v=false/\True)/\((q2y s_2 s_3||decide (s_2=s_3))=false->qve s/\∃(s_4:Nat),(↑s_4:Int)=(↑s:Int)+1/\qog x v a S ((qlz v (∀(h:0<s_4) (h2:s_4<=List.length (GV.ks v)),vld (GV.ks v)[s_4- 1]=true) s_4)/\zce34 v s_4 s))))/\(decide (0<(↑s:Int))=false->((!vld s_1)=true->inF S a v=false/\True)/\((!vld s_1)=false->qve s/\∃(s_4:Nat),(↑s_4:Int)=(↑s:Int)+1/\qog x v a S ((qlz v (∀(h:0<s_4) (h2:s_4<=List.length (GV.ks v)),vld (GV.ks v)[s_4- 1]=true) s_4)/\zce34 v s_4 s))))/\(decide (0<(↑s:Int))=false->q2v s/\q2v s/\q2v s/\q2v s/\q2v s/\q2v s/\q2v s/\q2v s/\q2v s/\q2v s/\q2v s/\(!vld s_1)= !vld s_1/\(decide (0<(↑s:Int))=true->zce33 v a S s_1)/\(decide (0<(↑s:Int))=false->((!vld s_1)=true->inF S a v=false/\True)/\((!vld s_1)=false->qve s/\∃(s_2:Nat),(↑s_2:Int)=(↑s:Int)+1/\qog x v a S ((qlz v (∀(h:0<s_2) (h2:s_2<=List.length (GV.ks v)),vld (GV.ks v)[s_2- 1]=true) s_2)/\zce34 v s_2 s))))))/\(decide ((↑s:Int)<(qf4 v))=false->∃(s:Unit),qog x v a S ((qvd v a)/\True))))/\(decide (AT.k a=13)=false->zce1 x v a S n)))/\∀(s:Unit),qvd v a->zce8 x v a S n):=by kernel_rfl
def inner_eq(n:Nat) (S:List AT) (x:SV) (a:AT) (v:GV):=Eq.trans (qtn n S x a v) (by delta qac q4w qog qvd zce21 qf4 qlz zce36 zce33 zce32 q2v qve zce34 qah qb5 qho q7t qxf zce31 zce19 zce7 zce24 zce6 zce5 zce25 zce4 zce3 zce29 zce2 zce1 zce23 zce18 zce20 zce12 zce10 zce9 zce8;exact rfl)
theorem qgk:q15 P 30 cIsT:=by
 refine q0h mixed q1o (W:=λ_=>{}) Try.func30 (by kernel_rfl) (by decide) (by decide) (λs=>by kernel_rfl) λ⟨(x:SV),(t:Int)⟩=>(is11_eq x t).mpr ?_
 intro _
 simp only[decide_eq_true_eq,decide_eq_false_iff_not,Bool.not_eq_true',Bool.not_eq_false',true_and,and_true,eq_self,imp_self,implies_true,Int.toNat_natCast]
 refine⟨λh=> ?_,λh=> ?_⟩
 ·rw[decide_eq_true h];rfl
 ·rw[decide_eq_false h];rfl
theorem qu7:∀x y:List UInt8,(Op.bytesLess x y||decide (x=y))= !Op.bytesLess y x
  | [],[]=>by simp[Op.bytesLess]
  | [],b::y=>by simp[Op.bytesLess]
  |a::x,[]=>by simp[Op.bytesLess]
  | a ::x,b::y=>by
    have ih:=qu7 x y
    rw[Op.bytesLess,Op.bytesLess]
    have tri:a<b\/a=b\/b<a:=by
      rcases Nat.lt_trichotomy a.toNat b.toNat with h|h|h
      · exact .inl (UInt8.lt_iff_toNat_lt.2 h)
      · exact .inr (.inl (UInt8.toNat_inj.1 h))
      · exact .inr (.inr (UInt8.lt_iff_toNat_lt.2 h))
    rcases tri with h|h|h
    · have h2:¬b<a:=UInt8.lt_asymm h
      have h3:¬b=a:=λe=>by subst e;exact UInt8.lt_irrefl _ h
      simp[h,h2,h3]
    · subst h
      have h2:¬a<a:=UInt8.lt_irrefl a
      simp[h2]
      rw[←ih]
    · have h2:¬a<b:=UInt8.lt_asymm h
      have h3:¬a=b:=λe=>by subst e;exact UInt8.lt_irrefl _ h
      simp[h,h2,h3]
theorem qhg(x y:ByteArray):(q2y x y=true\/x=y)↔q2y y x=false:=by
 have h:=qu7 x.toList y.toList
 have e:=str_eq x y
 unfold q2y
 by_cases hxy:x=y
 ·have:x.toList=y.toList:=by rw[hxy]
  rw[decide_eq_true this,Bool.or_true]at h
  simp[hxy]
  rw[hxy]at h
  simpa using h.symm
 ·have:¬x.toList=y.toList:=λg=>by rw[g]at e;simp at e;exact hxy e
  rw[decide_eq_false this,Bool.or_false]at h
  rw[h];simp[hxy]
theorem inner_ok(n:Nat) (hf:q15 P 12 (q98.below muFr n)):q15 P 32 (qiz.below muIn (n+1)):=by
  refine q0h mixed (q05 (q01 qem (q01 hf q06))) (W:=wInner) Try.func32 (by kernel_rfl) (show 1<=1 by decide) (show 1<=1 by decide) (λs=>by kernel_rfl) λ⟨S,(x:SV),a,v⟩=>(inner_eq n S x a v).mpr ?_
  rintro⟨hmu,hS,hkS,haf,hv,hq⟩ ⟨p,_,hx,ha,hvo⟩
  have hmu:SizeOf.sizeOf v<n+1:=hmu
  have xl:=GV.x_len hvo
  have yl:=GV.y_len hvo
  have fl:a.f.2.1=a.fs.length:=ha.2.2.1.1
  have bl:a.br.2.1=a.brs.length:=ha.2.2.2.1.1
  have hvs:=hv
  rw[GV.sm_eq]at hvs
  obtain⟨_,_,vl,kl,hsz,_⟩:=hvs
  have txs:∀q,v.ok q->slP txV v.y v.ks q:=λq h=>by rw[GV.ok_eq]at h;exact h.2.1
  simp only[decide_eq_true_eq,decide_eq_false_iff_not,Bool.not_eq_true',Bool.not_eq_false',true_and,and_true,eq_self,imp_self,implies_true,exists_const,forall_const,Int.toNat_natCast,xl,yl,fl,bl,Bool.or_eq_true,Bool.or_eq_false_iff]
  have bad:okQ a v.l.length v.ks v.b=false->inF S a v=false:=λh=>by unfold inF;rw[h];rfl
  have child:∀{j:Nat} (hj:j<v.l.length),SizeOf.sizeOf v.l[j]<n:=λ{j} hj=>by
    have h1:=q9z hj
    have:SizeOf.sizeOf v.l<SizeOf.sizeOf v:=by cases v;simp[GV.l];omega
    omega
  have fdrop:∀{j:Nat} (hj:j<v.l.length),PV.fitL S (q2p a v.b) j ((GV.pvs v.l).drop j)=(PV.fits S (q2p a v.b j) (v.l[j]).pv&&PV.fitL S (q2p a v.b) (j+1) ((GV.pvs v.l).drop (j+1))):=λ{j} hj=>by
    have:=qg0 (S:=S) (f:=q2p a v.b) (l:=GV.pvs v.l) (j:=j) (by rw[GV.pvs_len];exact hj)
    rw[q5p hj]at this;exact this
  have fend:PV.fitL S (q2p a v.b) v.l.length ((GV.pvs v.l).drop v.l.length)=true:=by
    rw[List.drop_of_length_le (by rw[GV.pvs_len];exact Nat.le_refl _),PV.fitL]
  have ok9:a.k=9->okQ a v.l.length v.ks v.b=decide (v.l.length=a.fs.length):=λh=>by unfold okQ;rw[if_pos h]
  have ok14:a.k=14->okQ a v.l.length v.ks v.b=decide (0<=v.b/\v.b<a.brs.length/\v.l.length=1):=λh=>by unfold okQ;rw[if_neg (by omega),if_pos h]
  have ok13:a.k=13->okQ a v.l.length v.ks v.b=(decide (v.l.length=v.ks.length)&&q31 v.ks):=λh=>by unfold okQ;rw[if_neg (by omega),if_neg (by omega),if_pos h]
  have ok12:¬a.k=9->¬a.k=13->¬a.k=14->okQ a v.l.length v.ks v.b=true:=λh1 h2 h3=>by unfold okQ;rw[if_neg h1,if_neg h3,if_neg h2]
  refine⟨⟨λh9=>⟨λh=>bad (by rw[ok9 h9];exact decide_eq_false (by omega)),λh=>⟨by omega,by rw[ok9 h9];exact decide_eq_true (by omega)⟩⟩,λh9=>⟨λh13=>⟨λh=>bad (by rw[ok13 h13,decide_eq_false (by omega)];rfl),λh=>⟨⟨0,rfl,Nat.zero_le _,rfl,λh=>absurd h (by omega)⟩,?_⟩⟩,λh13=>⟨λh14=> ?_,λh14=>⟨h14,ok12 h9 h13 h14⟩⟩⟩⟩,?_⟩
  · rintro j ⟨hj,hk,hvv⟩
    have bad13:q31 v.ks=false->inF S a v=false:=λg=>bad (by rw[ok13 h13,g,Bool.and_false])
    refine⟨λhlt=> ?_,λhge=>⟨by omega,?_⟩⟩
    · have hjk:j<v.ks.length:=by omega
      have tx:=λq (hq:q0l S x q/\a.ok q/\v.ok q)=>qa8 (txs q hq.2.2) hjk
      have hsj:=hsz _ (List.getElem_mem hjk)
      have bv:vld v.ks[j]=false->inF S a v=false:=λhb=>bad13 (qcp hjk hb)
      have t0:=tx p ⟨hx,ha,hvo⟩
      refine⟨⟨by omega,by omega⟩,t0.1,v.ks[j],λq hq=>(tx q hq).2,hsj,λhb=>⟨λ_=>bv hb,λh=>by rw[hb]at h;cases h⟩,λhg=>⟨λh0=> ?_,λh0=>⟨λh=>absurd h h0,λ_=>⟨λhb=>bv hb,λ_=> ?_⟩⟩⟩⟩
      · have hj1:j- 1<v.ks.length:=by omega
        have e:((j:Int)- 1).toNat=j- 1:=by omega
        rw[e]
        have tx1:=λq (hq:q0l S x q/\a.ok q/\v.ok q)=>qa8 (txs q hq.2.2) hj1
        have kd:=q9q (ks:=v.ks) (j:=j- 1) (by omega)
        simp only[show j- 1+1=j by omega]at kd
        rw[if_neg (by omega)]at hk
        refine⟨⟨by omega,by omega⟩,t0.1,v.ks[j],λq hq=>(tx q hq).2,⟨by omega,by omega⟩,⟨by omega,by omega⟩,t0.1,v.ks[j- 1],λq hq=>(tx1 q hq).2,λ_=>⟨λhb=>bv hb,λ_=>⟨λhl=> ?_,λhl=> ?_⟩⟩,λh=>absurd h0 h⟩
        · have:=(qhg _ _).1 hl
          exact bad13 (by rw[hk,kd,this,Bool.and_false];rfl)
        · have:q2y v.ks[j- 1] v.ks[j]=true:=by
            cases hb:q2y v.ks[j- 1] v.ks[j]with
            |true=>rfl
            | false=>
              rcases(qhg _ _).2 hb with g|g
              · rw[hl.1]at g;cases g
              · exact absurd g hl.2
          refine⟨⟨by omega,by omega⟩,j+1,by omega,⟨by omega,?_,λ_ _=>hg⟩,by omega⟩
          rw[if_neg (by omega),Nat.add_sub_cancel,hk,kd,this,hvv (by omega) (by omega)];rfl
      · obtain rfl:j=0:=by omega
        exact⟨⟨by omega,by omega⟩,1,rfl,⟨by omega,by simp,λ_ _=>hg⟩,by omega⟩
    · obtain rfl:j=v.ks.length:=by omega
      have:q31 v.ks=true:=by
        by_cases h0:v.ks.length=0
        · rw[List.length_eq_zero_iff]at h0;rw[h0,q31]
        · rw[if_neg h0]at hk
          have:=hvv (by omega) (Nat.le_refl _)
          rw[hk,List.drop_eq_getElem_cons (by omega),show v.ks.length- 1+1=v.ks.length by omega,List.drop_length,q31]
          exact this
      rw[ok13 h13,this,Bool.and_true];exact decide_eq_true (by omega)
  · have bd:¬(0<=v.b/\v.b<a.brs.length/\v.l.length=1)->inF S a v=false:=λh=>bad (by rw[ok14 h14];exact decide_eq_false h)
    refine⟨λd1=>⟨λ_=>⟨λd2=>⟨λ_=>⟨λd3=> ?_,λd3=>⟨λh=>d3 h,λ_=>bd (by omega)⟩⟩,λh=>absurd d2 h⟩,λd2=>⟨λh=>d2 h,λ_=>bd (by omega)⟩⟩,λh=>absurd d1 h⟩,λd1=>⟨λh=>d1 h,λ_=>bd (by omega)⟩⟩
    have hl1:v.l.length=1:=by omega
    have h0:0<v.l.length:=by omega
    obtain⟨b,hb⟩:=Int.eq_ofNat_of_zero_le d1
    have hbl:b<a.brs.length:=by omega
    have hbt:v.b.toNat=b:=by omega
    rw[hbt]
    have hty:q2p a v.b 0=a.brs[b]:=by
      unfold q2p
      rw[if_neg h9,if_pos h14,hbt,List.getD_eq_getElem?_getD,List.getElem?_eq_getElem hbl];rfl
    have hd:=fdrop h0
    have fe:=fend
    rw[hl1]at fe
    rw[List.drop_zero,hty,Nat.zero_add,fe,Bool.and_true]at hd
    have hin:inF S a v=PV.fits S a.brs[b] (v.l[0]).pv:=by
      unfold inF;rw[ok14 h14,decide_eq_true ⟨d1,d2,hl1⟩,hd];rfl
    refine⟨⟨by omega,by omega⟩,(q4b ha hbl).1,a.brs[b],λq hq=>(q4b hq.2.1 hbl).2,⟨by omega,by omega⟩,(GV.cells_at hvo h0).1,v.l[0].n,v.l[0].s,v.l[0].x.1,v.l[0].x.2.1,v.l[0].x.2.2,v.l[0].y.1,v.l[0].y.2.1,v.l[0].y.2.2,v.l[0].b,λq hq=>(GV.cells_at hq.2.2 h0).2,⟨S,x,a.brs[b],v.l[0]⟩,rfl,rfl,rfl,rfl,rfl,rfl,rfl,rfl,rfl,rfl,rfl,rfl,rfl,⟨child h0,hS,hkS,GV.sm_at hv h0⟩,λq hq=>⟨hq.1,GV.ok_at hq.2.2 h0⟩,?_⟩
    exact⟨λ_=>hin,λh=>absurd d3 h⟩
  · rintro⟨h14,hok⟩
    refine⟨⟨0,rfl,Nat.zero_le _,by simp⟩,?_⟩
    rintro j ⟨hj,ht⟩
    refine⟨λhlt=> ?_,λhge=> ?_⟩
    · have hjl:j<v.l.length:=by omega
      have hd:=fdrop hjl
      refine⟨⟨λh9=> ?_,λh9=>by unfold q2p;rw[if_neg h9,if_neg h14]⟩,⟨by omega,by omega⟩,(GV.cells_at hvo hjl).1,v.l[j].n,v.l[j].s,v.l[j].x.1,v.l[j].x.2.1,v.l[j].x.2.2,v.l[j].y.1,v.l[j].y.2.1,v.l[j].y.2.2,v.l[j].b,λq hq=>(GV.cells_at hq.2.2 hjl).2,⟨S,x,q2p a v.b j,v.l[j]⟩,rfl,rfl,rfl,rfl,rfl,rfl,rfl,rfl,rfl,rfl,rfl,rfl,rfl,⟨child hjl,hS,hkS,GV.sm_at hv hjl⟩,λq hq=>⟨hq.1,GV.ok_at hq.2.2 hjl⟩,λhb=> ?_,λhb=>⟨⟨by omega,by omega⟩,j+1,by omega,⟨by omega,?_⟩,by omega⟩⟩
      · have hjf:j<a.fs.length:=by
          rw[ok9 h9]at hok;have:=of_decide_eq_true hok;omega
        have fa:=λq (hq:q0l S x q/\a.ok q/\v.ok q)=>q5n hq.2.1 hjf
        refine⟨⟨by omega,by omega⟩,(fa p ⟨hx,ha,hvo⟩).1,a.fs[j].ty,λq hq=> ?_,by unfold q2p;rw[if_pos h9,List.getElem?_eq_getElem hjf]⟩
        intro i w hi
        cases i with
        |zero=>have:=(fa q hq).2 2 w hi;rw[Addr.add_add];exact this
        |succ i=>simp at hi
      · unfold inF;rw[←ht,hd,hb,Bool.false_and,Bool.and_false]
      · rw[←ht,hd,hb,Bool.true_and]
    · obtain rfl:j=v.l.length:=by omega
      unfold inF
      rw[hok,←ht,fend];rfl
theorem qyj(n:Nat) (hf:q15 P 32 (qiz.below muIn (n+1))):q15 P 12 (q98.below muFr (n+1)):=by
  refine q0h mixed (q05 (q01 qgk (q01 qem (q01 hf q06)))) (W:=wFitsR) Try.func12 (by kernel_rfl) (show 1<=1 by decide) (show 1<=1 by decide) (λs=>by kernel_rfl) λ⟨S,(x:SV),(t:Int),v⟩=>(fitsR_eq n S x t v).mpr ?_
  rintro⟨hmu,hS,hkS,hv⟩ ⟨p,_,hx,hvo⟩
  have hmu:SizeOf.sizeOf v<n+1:=hmu
  have xl:=GV.x_len hvo
  have yl:=GV.y_len hvo
  have sl:x.2.1=S.length:=hx.1.1
  have hvs:=hv
  rw[GV.sm_eq]at hvs
  obtain⟨hn,hs,vl,kl,hsz,_⟩:=hvs
  simp only[decide_eq_true_eq,decide_eq_false_iff_not,Bool.not_eq_true',Bool.not_eq_false',true_and,and_true,eq_self,imp_self,implies_true,exists_const,forall_const,Int.toNat_natCast,xl,yl,sl]
  have hfit:PV.fits S t v.pv=if t<0\/S.length<=t then false else match S[t.toNat]? with
    |none=>false
    | some a=>if isN a.k=true then okN a v.n&&decide (v.s.size=0)&&qgc v.l.length v.ks.length v.b else
      if isT a.k=true then okT a v.s&&decide (v.n=0)&&qgc v.l.length v.ks.length v.b else
      if isQ a.k=true then okP a v.l.length v.ks v.b&&PV.fitL S (q2p a v.b) 0 (GV.pvs v.l)&&decide (v.n=0)&&decide (v.s.size=0)else false:=by
    rw[GV.pv_eq,PV.fits,GV.pvs_len]<;>rfl
  refine⟨⟨x,t⟩,rfl,sl,rfl,rfl,?_⟩
  simp only[sl]
  refine⟨λh=> ?_,λh=> ?_⟩
  · rw[hfit,if_pos]
    by_cases h1:0<=t
    · rw[decide_eq_true h1,Bool.true_and]at h;have:=of_decide_eq_false h;omega
    · omega
  rw[Bool.and_eq_true,decide_eq_true_eq,decide_eq_true_eq]at h
  obtain⟨j,rfl⟩:=Int.eq_ofNat_of_zero_le h.1
  have hj:j<S.length:=by omega
  have hae:atS S (j:Int)=S[j]:=by unfold atS;rw[Int.toNat_natCast,List.getElem?_eq_getElem hj];rfl
  rw[if_neg (by omega)]at hfit
  rw[hae]
  simp only[Int.toNat_natCast,List.getElem?_eq_getElem hj]at hfit⊢
  have hat:=λq (hq:q0l S x q/\v.ok q)=>q5r hq.1 hj
  have hao:=λq (hq:q0l S x q/\v.ok q)=>hq.1.2 S[j] (List.getElem_mem hj)
  have hsm:=hS.2 S[j] (List.getElem_mem hj)
  have hkk:=hkS S[j] (List.getElem_mem hj)
  have syl:S[j].sy.2.1=S[j].sys.length:=(hao p ⟨hx,hvo⟩).2.1.1
  refine⟨⟨by omega,by omega⟩,(hat p ⟨hx,hvo⟩).1,S[j].k,S[j].nm,S[j].al.1,S[j].al.2.1,S[j].al.2.2,S[j].it,S[j].sy.1,S[j].sy.2.1,S[j].sy.2.2,S[j].hd,S[j].df,S[j].sz,S[j].f.1,S[j].f.2.1,S[j].f.2.2,S[j].br.1,S[j].br.2.1,S[j].br.2.2,λq hq=>(hat q hq).2,?_⟩
  have hao2:=λq (hq:q0l S x q/\v.ok q)=>hao q hq
  generalize S[j]=a at*
  clear hat hao hae
  have w64:IntKind.wrap .i64 v.n=if v.n<9223372036854775808 then v.n else v.n- 18446744073709551616:=by
    unfold IntKind.wrap;simp[IntKind.bits,IntKind.signed];omega
  have u64:IntKind.wrap .u64 (a.sys.length:Int)=a.sys.length:=by rw[qa3];omega
  simp only[syl,u64]
  have kinds:a.k=1\/a.k=2\/a.k=3\/a.k=4\/a.k=5\/a.k=6\/a.k=7\/a.k=8\/a.k=9\/a.k=10\/a.k=11\/a.k=12\/a.k=13\/a.k=14:=by omega
  have hin:isQ a.k=true->q26 S a v=inF S a v:=λh=>by
    unfold isQ at h
    have h:=of_decide_eq_true h
    unfold q26 isN isT
    rw[if_neg (by omega),if_neg (by simp;omega),if_neg (by simp;omega)]
  have hbadB:qmh a v=true↔(a.k≠13/\0<v.ks.length)\/(a.k≠14/\v.b≠0):=by
    unfold qmh;simp
  have hbadF:qmh a v=false↔¬((a.k≠13/\0<v.ks.length)\/(a.k≠14/\v.b≠0)):=by
    rw[←hbadB];simp
  have sE:(v.s=mkS [])↔v.s.size=0:=qd1
  have key:PV.fits S (j:Int) v.pv=(!qmh a v&&q26 S a v&&(nB a.k||decide (v.n=0))&&(isT a.k||decide (v.s=mkS []))&&(isQ a.k||decide (v.l.length=0))):=by
    rw[hfit,Bool.eq_iff_iff]
    by_cases hN:isN a.k=true
    · have hk1:=of_decide_eq_true hN
      have hT:isT a.k=false:=decide_eq_false (by omega)
      have hQ:isQ a.k=false:=decide_eq_false (by omega)
      rw[if_pos hN,hT,hQ]
      have hok:(q26 S a v&&(nB a.k||decide (v.n=0)))=okN a v.n:=by
        unfold q26
        by_cases h1:a.k=1
        · rw[if_pos h1];unfold nB okN;rw[if_pos h1,decide_eq_false (by omega)];rfl
        · rw[if_neg h1,if_pos hN];unfold nB;rw[decide_eq_true (by omega)];simp
      have e:(!qmh a v&&q26 S a v&&(nB a.k||decide (v.n=0))&&(false||decide (v.s=mkS []))&&(false||decide (v.l.length=0)))=(!qmh a v&&(q26 S a v&&(nB a.k||decide (v.n=0)))&&(false||decide (v.s=mkS []))&&(false||decide (v.l.length=0))):=by simp only[Bool.and_assoc]
      rw[e,hok]
      unfold qgc
      simp only[Bool.and_eq_true,Bool.or_eq_true,Bool.not_eq_true',decide_eq_true_eq,hbadF,sE,Bool.false_eq_true,false_or]
      constructor
      · rintro⟨⟨h1,h2⟩,⟨h3,h4⟩,h5⟩;exact⟨⟨⟨by omega,h1⟩,h2⟩,h3⟩
      · rintro⟨⟨⟨h1,h2⟩,h3⟩,h4⟩;exact⟨⟨h2,h3⟩,⟨h4,by omega⟩,by omega⟩
    · rw [if_neg hN]
      have hN':isN a.k=false:=by simpa using hN
      have nn:nB a.k=false:=by
        have:=of_decide_eq_false hN'
        exact decide_eq_false (by omega)
      by_cases hT:isT a.k=true
      · have hk1:=of_decide_eq_true hT
        have hQ:isQ a.k=false:=decide_eq_false (by omega)
        have hok:q26 S a v=okT a v.s:=by unfold q26;rw[if_neg (by omega),if_neg hN,if_pos hT]
        rw[if_pos hT,hQ,nn,hT,hok]
        unfold qgc
        simp only[Bool.and_eq_true,Bool.or_eq_true,Bool.not_eq_true',decide_eq_true_eq,hbadF,sE,Bool.false_eq_true,false_or,true_or,and_true]
        constructor
        · rintro⟨⟨h1,h2⟩,⟨h3,h4⟩,h5⟩;exact⟨⟨⟨by omega,h1⟩,h2⟩,h3⟩
        · rintro⟨⟨⟨h1,h2⟩,h3⟩,h4⟩;exact⟨⟨h2,h3⟩,⟨h4,by omega⟩,by omega⟩
      · have hT':isT a.k=false:=by simpa using hT
        have hQ:isQ a.k=true:=by
          have h1:=of_decide_eq_false hT'
          have h2:=of_decide_eq_false hN'
          exact decide_eq_true (by omega)
        have hk1:=of_decide_eq_true hQ
        rw[if_neg hT,if_pos hQ,hQ,nn,hT',hin hQ]
        have hop:okP a v.l.length v.ks v.b=(!qmh a v&&okQ a v.l.length v.ks v.b):=by
          unfold okP okQ
          by_cases hb:v.ks.length>0/\a.k≠13\/v.b≠0/\a.k≠14
          · rw[if_pos hb,hbadB.2 (by omega)];rfl
          · rw[if_neg hb,hbadF.2 (by omega)];rfl
        unfold inF
        rw[hop]
        simp only[Bool.and_eq_true,Bool.or_eq_true,Bool.not_eq_true',decide_eq_true_eq,hbadF,sE,Bool.false_eq_true,false_or,true_or,and_true]
        constructor
        · rintro⟨⟨⟨⟨h1,h2⟩,h3⟩,h4⟩,h5⟩;exact⟨⟨⟨h1,h2,h3⟩,h4⟩,h5⟩
        · rintro⟨⟨⟨h1,h2,h3⟩,h4⟩,h5⟩;exact⟨⟨⟨⟨h1,h2⟩,h3⟩,h4⟩,h5⟩
  have tri:∀k:Int,a.k=k->(isN k=true\/isT k=true)->q26 S a v=(if k=1 then true else if isN k=true then okN a v.n else okT a v.s)/\isT a.k=isT k/\nB a.k=nB k/\isQ a.k=isQ k:=λk hk hh=>by
    subst hk
    refine⟨?_,rfl,rfl,rfl⟩
    unfold q26
    by_cases h1:a.k=1
    · rw[if_pos h1,if_pos h1]
    · rw[if_neg h1,if_neg h1]
      by_cases hN:isN a.k=true
      · rw[if_pos hN,if_pos hN]
      · rw[if_neg hN,if_neg hN,if_pos (hh.resolve_left hN)]
  have oN:∀k:Int,a.k=k->okN a v.n=(if k=1 then decide (v.n=0)else if k=2 then decide (v.n<=1)else if k=3 then decide (v.n<2147483648\/18446744071562067968<=v.n)else if k=5 then decide (v.n<4294967296)else if k=10 then decide (v.n<a.sys.length)else true):=λk hk=>by subst hk;rfl
  have oT:∀k:Int,a.k=k->okT a v.s=(if k=8 then vld v.s else if k=11 then decide ((v.s.size:Int)=a.sz)else true):=λk hk=>by subst hk;rfl
  clear hfit
  refine⟨⟨λh1=> ?_,λh1=>⟨λh2=> ?_,λh2=>⟨λh3=>⟨λh5=>⟨λ_=> ?_,λh=>absurd h5 h⟩,λh5=>⟨λh=>absurd h h5,λ_=> ?_⟩⟩,λh3=>⟨⟨trivial,λh4=> ?_,λh4=> ?_⟩,λh46=> ?_,λh46=>⟨λh5=> ?_,λh5=>⟨λh10=> ?_,λh10=>⟨λh7=> ?_,λh7=>⟨λh8=>⟨hs,?_⟩,λh8=>⟨λh11=> ?_,λh11=> ?_⟩⟩⟩⟩⟩⟩⟩⟩⟩,⟨λh13=>⟨λhk=> ?_,λhk=>⟨λh14=> ?_,λh14=> ?_⟩⟩,λh13=>⟨λh14=> ?_,λh14=> ?_⟩⟩,λhB=> ?_,λhB=>⟨λho=>⟨λhn'=>⟨λht=>⟨λhq=> ?_,λhq=> ?_⟩,λht=>⟨λhs'=>⟨λhq=> ?_,λhq=> ?_⟩,λhs'=> ?_⟩⟩,λhn'=>⟨λhn0=>⟨λht=>⟨λhq=> ?_,λhq=> ?_⟩,λht=>⟨λhs'=>⟨λhq=> ?_,λhq=> ?_⟩,λhs'=> ?_⟩⟩,λhn0=> ?_⟩⟩,λho=> ?_⟩⟩
  · have:=tri 1 h1 (.inl rfl);exact this
  · have:=tri 2 h2 (.inl rfl);rw[oN 2 h2]at this;exact this
  · have:=tri 3 h3 (.inl rfl);rw[oN 3 h3]at this
    refine⟨this.1.trans ?_,this.2⟩
    show decide (v.n<2147483648\/18446744071562067968<=v.n)=_
    rw[w64]at h5⊢
    split at h5<;>exact q11 (by omega)
  · have:=tri 3 h3 (.inl rfl);rw[oN 3 h3]at this
    refine⟨this.1.trans ?_,this.2⟩
    show decide (v.n<2147483648\/18446744071562067968<=v.n)=_
    rw[w64]at h5
    split at h5<;>exact decide_eq_false (by omega)
  · unfold b46;rw[h4];rfl
  · unfold b46;rw[decide_eq_false h4];rfl
  · unfold b46 at h46
    rw[Bool.or_eq_true,decide_eq_true_eq,decide_eq_true_eq]at h46
    rcases h46 with h|h
    · have:=tri 4 h (.inl rfl);rw[oN 4 h]at this;exact this
    · have:=tri 6 h (.inl rfl);rw[oN 6 h]at this;exact this
  · have:=tri 5 h5 (.inl rfl);rw[oN 5 h5]at this;exact this
  · have:=tri 10 h10 (.inl rfl);rw[oN 10 h10]at this;exact this
  · have:=tri 7 h7 (.inr rfl);rw[oT 7 h7]at this;exact this
  · have:=tri 8 h8 (.inr rfl);rw[oT 8 h8]at this;exact this
  · have:=tri 11 h11 (.inr rfl);rw[oT 11 h11]at this;exact this
  · have hb6:¬a.k=4/\¬a.k=6:=by
      unfold b46 at h46
      rw[Bool.or_eq_false_iff,decide_eq_false_iff_not,decide_eq_false_iff_not]at h46;exact h46
    have hQ:isQ a.k=true:=decide_eq_true (by omega)
    refine⟨⟨S,x,a,v⟩,rfl,sl,rfl,rfl,rfl,rfl,rfl,rfl,rfl,rfl,syl,rfl,rfl,rfl,rfl,rfl,rfl,rfl,rfl,rfl,rfl,rfl,rfl,rfl,xl,rfl,rfl,yl,rfl,rfl,⟨hmu,hS,hkS,hsm.1,hv,hQ⟩,λq hq=>⟨hq.1,hao2 q hq,hq.2⟩,hin hQ,decide_eq_false (by unfold isQ at hQ;have:=of_decide_eq_true hQ;omega),decide_eq_false (by unfold isQ at hQ;have:=of_decide_eq_true hQ;omega),hQ⟩
  · exact hbadB.2 (.inl ⟨h13,by omega⟩)
  · by_cases hb:v.b=0
    · rw[decide_eq_true hb];exact hbadF.2 (by omega)
    · rw[decide_eq_false hb];exact hbadB.2 (.inr ⟨h14,hb⟩)
  · exact hbadF.2 (by omega)
  · by_cases hb:v.b=0
    · rw[decide_eq_true hb];exact hbadF.2 (by omega)
    · rw[decide_eq_false hb];exact hbadB.2 (.inr ⟨h14,hb⟩)
  · exact hbadF.2 (by omega)
  · rw[key,hB];rfl
  all_goals first
    | (rw[key,hB,ho,hn',ht,hq];simp[hn0,hs'];done)
    | (rw[key,hB,ho,hn',ht];simp[hn0,hs'];done)
    | (rw[key,hB,ho,hn',ht,hq];simp[hn0];done)
    | (rw[key,hB,ho,hn',ht,hq];simp[hs'];done)
    | (rw[key,hB,ho,hn',ht];simp[hs'];done)
    | (rw[key,hB,ho,hn',ht,hq];simp;done)
    | (rw[key,hB,ho,hn'];simp[hn0];done)
    | (rw[key,hB,ho];simp;done)
theorem qou:∀n,q15 P 12 (q98.below muFr n)
 |0=>Ct.below_zero (by decide) (by decide) (Sen.enters_of Try.func12 (by kernel_rfl)) λs=>⟨rfl,rfl⟩
 |n+1=>qyj n (inner_ok n (qou n))
theorem qu0:q15 P 12 q98:=Ct.of_below qou
def qix:CtR:=ctN (List AT×SV×Int×GJ) (λ⟨S,x,t,g⟩=>[scA x, .sv (.int .i64 t),g.av]) (λ⟨S,x,t,g⟩=>q0j S/\g.wf) (λ⟨S,x,t,g⟩=>sgM S x g) (Int×GV) (λ_ _=>True) (λ_ ⟨e,v⟩=>vM v) λ_ ⟨e,v⟩=> .tup [v.av, .sv (.int .i64 e)]
def sM(S:List AT) (x:SV):PF:=⟨true,q0l S x,λ_ _ h e=>q2e h e⟩
def qda:CtR:=ctN (List AT×SV) (λ⟨S,x⟩=>[scA x]) (λ⟨S,x⟩=>q0j S) (λ⟨S,x⟩=>sM S x) (Int×Int×Int) (λ_ _=>True) (λ_ _=>{}) λ_ ⟨e,t,i⟩=> .tup [.sv (.int .i64 e), .sv (.int .i64 t), .sv (.int .i64 i)]
def qw7:qda.σ->WayF:=λ⟨S,x⟩=>{
 ann:=λid t _=>match id with
  |0=>some {σ:=Nat,pre:=λj=>j<=S.length,t:=λj=>[(5, .sv (.int .i64 (j:Int)))],h:=λ_=>[],more:=0,μ:=λj=>S.length- j,keep:=[1]}
  |_=>some {σ:=Nat,t:=λk=>[(6, .sv (.int .i64 (k:Int)))],h:=λ_=>[],more:=0,μ:=λk=>100- k,keep:=[1,5]}}
abbrev RcS:=SV×List Int×Int
def qna:RcS->Prop:=λ⟨x,L,n⟩=>0<=n/\n<=L.length/\q0t L
def qco:CtR where
 σ:=RcS
 args:=λ⟨x,L,n⟩=>[.ptr 1 0]
 h:=λ⟨x,L,n⟩=>pkO x n
 m:=2
 pre:=qna
 mem:=λ⟨x,L,n⟩=>byM x L
 β:=λ_=>GJ×Int
 post:=λ⟨x,L,n⟩ ⟨g,n'⟩=>g.wf/\n<=n'/\n'<=L.length
 pm:=λ_ ⟨g,n'⟩=>gM g
 r:=λ_ ⟨g,n'⟩=>g.av
 h':=λ⟨x,L,n⟩ ⟨g,n'⟩=>pkO x n'
 m':=2
def cAvro:CtR where
 σ:=RcS
 args:=λ⟨x,L,n⟩=>[.ptr 1 0]
 h:=λ⟨x,L,n⟩=>pkO x n
 m:=2
 pre:=qna
 mem:=λ⟨x,L,n⟩=>byM x L
 β:=λ_=>List AT×SV×Bool×Int
 post:=λ⟨x,L,n⟩ ⟨S,y,b,n'⟩=>q0j S/\(b=true->S≠[])/\n<=n'/\n'<=L.length
 pm:=λ_ ⟨S,y,b,n'⟩=>sM S y
 r:=λ_ ⟨S,y,b,n'⟩=> .tup [scA y, .sv (.bool b)]
 h':=λ⟨x,L,n⟩ ⟨S,y,b,n'⟩=>pkO x n'
 m':=2
noncomputable section
variable (x0:VlB) (x1:List AT) (x2:SV) (x3:GJ) (x4:Int×GV) (x5:Prop) (x6:(Option Addr×Nat×Nat)×Int)
 abbrev zcf2:= !(decide (0<=x6.2)&&decide (x6.2<(↑x6.1.2.1:Int)))
 abbrev zcf1:=GV.n x4.2=0/\GV.s x4.2=mkS []/\(GV.x x4.2).1=noA/\(GV.x x4.2).2.1=0/\(GV.x x4.2).2.2=0/\(GV.y x4.2).1=noA/\(GV.y x4.2).2.1=0/\(GV.y x4.2).2.2=0/\GV.b x4.2=0/\x5
 abbrev zcf0:=((!decide (x0.2.1=0))=true->∃(i0:Int×GV),zcf1 i0 (i0.1=x0.2.1/\True/\(∀(i1:Pub),(True/\q0l x1 x2 i1/\GJ.ok x3 i1)/\GV.ok x0.2.2 i1->GV.ok i0.2 i1)/\True))/\((!decide (x0.2.1=0))=false->∃(i2:Int×GV),GV.n i2.2=GV.n x0.2.2/\GV.s i2.2=GV.s x0.2.2/\(GV.x i2.2).1=(GV.x x0.2.2).1/\(GV.x i2.2).2.1=(GV.x x0.2.2).2.1/\(GV.x i2.2).2.2=(GV.x x0.2.2).2.2/\(GV.y i2.2).1=(GV.y x0.2.2).1/\(GV.y i2.2).2.1=(GV.y x0.2.2).2.1/\(GV.y i2.2).2.2=(GV.y x0.2.2).2.2/\GV.b i2.2=GV.b x0.2.2/\i2.1=0/\True/\(∀(i3:Pub),(True/\q0l x1 x2 i3/\GJ.ok x3 i3)/\GV.ok x0.2.2 i3->GV.ok i2.2 i3)/\True)
end
theorem qm0(S:List AT) (x:SV) (t:Int) (g:GJ):q68 P (q0r [(30,cIsT)]) (q1s [(83,cVl)]) Try.f48 qix (λ_=>{}) ⟨S,x,t,g⟩=(q0j S/\GJ.wf g->(∃(p:Pub),True/\q0l S x p/\GJ.ok g p)->∃(s:(Option Addr×Nat×Nat)×Int),s.1.1=x.1/\s.1.2.1=x.2.1/\s.1.2.2=x.2.2/\s.2=t/\True/\((zcf2 s)=true->∃(b:Int×GV),zcf1 b (b.1=1/\True/\(∀(p:Pub),True/\q0l S x p/\GJ.ok g p->GV.ok b.2 p)/\True))/\((zcf2 s)=false->∃(s:VlS),s.2.2.2.1=t/\GJ.k s.2.2.2.2.1=GJ.k g/\GJ.n s.2.2.2.2.1=GJ.n g/\GJ.s s.2.2.2.2.1=GJ.s g/\(GJ.y s.2.2.2.2.1).1=(GJ.y g).1/\(GJ.y s.2.2.2.2.1).2.1=(GJ.y g).2.1/\(GJ.y s.2.2.2.2.1).2.2=(GJ.y g).2.2/\(GJ.x s.2.2.2.2.1).1=(GJ.x g).1/\(GJ.x s.2.2.2.2.1).2.1=(GJ.x g).2.1/\(GJ.x s.2.2.2.2.1).2.2=(GJ.x g).2.2/\s.2.2.2.2.2=1/\s.2.1.1=x.1/\s.2.1.2.1=x.2.1/\s.2.1.2.2=x.2.2/\s.2.2.1=0/\(q0j s.1/\(0<=s.2.2.2.1/\s.2.2.2.1<(↑(List.length s.1):Int))/\GJ.wf s.2.2.2.2.1/\(0<=s.2.2.1/\s.2.2.1<=2000)/\1<=s.2.2.2.2.2/\s.2.2.2.2.2<=21)/\(∀(p:Pub),True/\q0l S x p/\GJ.ok g p->q0l s.1 s.2.1 p/\GJ.ok s.2.2.2.2.1 p)/\∀(b:VlB),q1a s.2.2.1 b->(∃(p:Pub),(True/\q0l S x p/\GJ.ok g p)/\GV.ok b.2.2 p)->zcf0 b S x g)):=by kernel_rfl
def qqz(S:List AT) (x:SV) (t:Int) (g:GJ):=Eq.trans (qm0 S x t g) (by delta zcf2 zcf1 zcf0;exact rfl)
noncomputable section
variable (x0:SV) (x1:List AT) (x2:Nat) (x3:Nat) (x4:Int×GV) (x5:Prop) (x6:Option Addr) (x7:Nat)
 abbrev zcg11:=x0.1=x0.1/\x0.2.1=x0.2.1/\x0.2.2=x0.2.2/\x5
 abbrev zcg6:=zcg11 x0 ((∀(i0:Pub),True/\q0l x1 x0 i0->True/\q0l x1 x0 i0)/\x5)
 abbrev qps:=(↑x2:Int)<(↑x0.2.1:Int)
 abbrev zcg12:=(∀(i0:Pub),True/\q0l x1 x0 i0->q02 i0 (Addr.add (adr x0.1 (Int.toNat (↑x2:Int)*10)) 8) [Value.slice x6 x3 x7])
 abbrev zcg10:=((-9223372036854775808:Int)<=(↑x2:Int)+1/\(↑x2:Int)+1<=9223372036854775807)
 abbrev zcg9:=zcg10 x2/\∃(i0:Nat),(↑x3:Int)=(↑x3:Int)/\(↑i0:Int)=(↑x2:Int)+1/\zcg6 x0 x1 (True/\(100:Nat)- i0<100- x2/\True)
 abbrev zcg7:=zcg10 x2/\∃(i0:Nat),(↑x3:Int)=(↑x3:Int)/\(↑i0:Int)=(↑x2:Int)+1/\zcg11 x0 ((∀(i1:Pub),(True/\q0l x1 x0 i1)/\GV.ok x4.2 i1->True/\q0l x1 x0 i1)/\True/\(100:Nat)- i0<100- x2/\True)
 abbrev zcg5:=((!decide (x4.1=0))=true->∃(i0:Int×Int×Int),i0.1=x4.1/\i0.2.1=(↑x2:Int)/\i0.2.2=(↑x3:Int)/\True/\True)/\((!decide (x4.1=0))=false->zcg7 x0 x1 x3 x2 x4)
 abbrev zcg4:=(0<=(↑x2:Int)/\qps x0 x2)/\x0.1≠noA/\∃(i0:Option Addr),∃(i1:Nat),∃(i2:Nat),zcg12 x0 x1 x2 i1 i0 i2/\(0<=(↑x3:Int)/\(↑x3:Int)<(↑i1:Int))/\i0≠noA/\∃(i4:ByteArray),∃(i5:Option Addr),∃(i6:Nat),∃(i7:Nat),∃(i8:Int),∃(i9:Bool),∃(i10:Int),∃(i11:Int),∃(i12:ByteArray),∃(i13:Option Addr),∃(i14:Nat),∃(i15:Nat),∃(i16:Option Addr),∃(i17:Nat),∃(i18:Nat),(∀(i19:Pub),True/\q0l x1 x0 i19->q02 i19 (adr i0 (Int.toNat (↑x3:Int)*9)) [Value.string i4,Value.slice i5 i6 i7,Value.int IntKind.i64 i8,Value.bool i9,Value.int IntKind.i64 i10,Value.int IntKind.i64 i11,Value.string i12,Value.slice i13 i14 i15,Value.slice i16 i17 i18])/\((!i9)=true->zcg9 x0 x1 x3 x2)/\((!i9)=false->∃(i22:List AT×(Option Addr×Nat×Nat)×Int×GJ),i22.2.1.1=x0.1/\i22.2.1.2.1=x0.2.1/\i22.2.1.2.2=x0.2.2/\i22.2.2.1=i8/\GJ.k i22.2.2.2=i10/\GJ.n i22.2.2.2=i11/\GJ.s i22.2.2.2=i12/\(GJ.y i22.2.2.2).1=i13/\(GJ.y i22.2.2.2).2.1=i14/\(GJ.y i22.2.2.2).2.2=i15/\(GJ.x i22.2.2.2).1=i16/\(GJ.x i22.2.2.2).2.1=i17/\(GJ.x i22.2.2.2).2.2=i18/\(q0j i22.1/\GJ.wf i22.2.2.2)/\(∀(i23:Pub),True/\q0l x1 x0 i23->q0l i22.1 i22.2.1 i23/\GJ.ok i22.2.2.2 i23)/\∀(i24:Int×GV),True->(∃(i25:Pub),(True/\q0l x1 x0 i25)/\GV.ok i24.2 i25)->zcg5 x0 x1 x2 x3 i24)
 abbrev zcg8:=zcg10 x2/\∃(i0:Nat),(↑i0:Int)=(↑x2:Int)+1/\zcg6 x0 x1 (i0<=List.length x1/\List.length x1- i0<List.length x1- x2/\True)
 abbrev zcg3:=(0<=(↑x2:Int)/\qps x0 x2)/\x0.1≠noA/\∃(i0:Option Addr),∃(i1:Nat),∃(i2:Nat),zcg12 x0 x1 x2 i1 i0 i2/\(decide ((↑x3:Int)<(↑i1:Int))=true->zcg4 x0 x1 x2 x3)/\(decide ((↑x3:Int)<(↑i1:Int))=false->zcg8 x0 x1 x2)
 abbrev zcg2:=(∃(i0:Nat),(↑x2:Int)=(↑x2:Int)/\(↑i0:Int)=0/\zcg6 x0 x1 (True/\True))/\∀(i2:Nat),True->zcg3 x0 x1 x2 i2
 abbrev zcg1:=(decide (qps x0 x2)=true->zcg2 x0 x1 x2)/\(decide (qps x0 x2)=false->∃(i38:Int×Int×Int),i38.1=0/\i38.2.1=0/\i38.2.2=0/\True/\True)
 abbrev zcg0:=(∃(i0:Nat),(↑i0:Int)=0/\zcg6 x0 x1 (i0<=List.length x1/\True))/\∀(i2:Nat),i2<=List.length x1->zcg1 x0 x1 i2
end
theorem qn9(S:List AT) (x:SV):q68 P (q0r []) (q1s [(48,qix)]) Try.f25 qda (qw7) ⟨S,x⟩=(q0j S->(∃(p:Pub),True/\q0l S x p)->zcg0 x S):=by kernel_rfl
def qub(S:List AT) (x:SV):=Eq.trans (qn9 S x) (by delta zcg11 zcg6 qps zcg12 zcg10 zcg9 zcg7 zcg5 zcg4 zcg8 zcg3 zcg2 zcg1 zcg0;exact rfl)
theorem qnq(x:SV) (L:List Int) (n:Int):askB P (q0r []) (q1s [(47,q40)]) Try.f24 qco (λ_=>{}) ⟨x,L,n⟩=(qna (x,L,n)->(∃(p:Pub),True/\slP byV x L p)->∃(s:ByteArray×TrS),s.1=mkS [84,111,112]/\s.2.2.2.2.1=0/\s.2.1.1=x.1/\s.2.1.2.1=x.2.1/\s.2.1.2.2=x.2.2/\s.2.2.2.1=n/\q00 txV s.2.2.2.2.2=[Value.string (mkS [84,111,112])]/\List.length s.2.2.2.2.2=nat_lit 1/\(ByteArray.size s.1<100/\q75 3 s.2)/\(∀(p:Pub),True/\slP byV x L p->slP byV s.2.1 s.2.2.1 p)/\∀(b:TrB),q27 s.2.2.1 s.2.2.2.1 s.2.2.2.2.2 b->(∃(p:Pub),(True/\slP byV x L p)/\GJ.ok b.1 p)->∃(b_1:GJ×Int),GJ.k b_1.1=GJ.k b.1/\GJ.n b_1.1=GJ.n b.1/\GJ.s b_1.1=GJ.s b.1/\(GJ.y b_1.1).1=(GJ.y b.1).1/\(GJ.y b_1.1).2.1=(GJ.y b.1).2.1/\(GJ.y b_1.1).2.2=(GJ.y b.1).2.2/\(GJ.x b_1.1).1=(GJ.x b.1).1/\(GJ.x b_1.1).2.1=(GJ.x b.1).2.1/\(GJ.x b_1.1).2.2=(GJ.x b.1).2.2/\x.1=s.2.1.1/\x.2.1=s.2.1.2.1/\x.2.2=s.2.1.2.2/\b_1.2=b.2.1/\(GJ.wf b_1.1/\n<=b_1.2/\b_1.2<=(↑(List.length L):Int))/\(∀(p:Pub),(True/\slP byV x L p)/\GJ.ok b.1 p->GJ.ok b_1.1 p)/\True):=by kernel_rfl
noncomputable section
variable (x0:List AT×(Option Addr×Nat×Nat)×Int) (x1:SV) (x2:RcS) (x3:GJ×Int) (x4:Int) (x5:List Int) (x6:List AT×(Option Addr×Nat×Nat)×Bool×Int) (x7:Prop)
 abbrev zci2:=x6.2.1.1=x0.2.1.1/\x6.2.1.2.1=x0.2.1.2.1/\x6.2.1.2.2=x0.2.1.2.2/\x7
 abbrev zci1:=x1.1=x2.1.1/\x1.2.1=x2.1.2.1/\x1.2.2=x2.1.2.2/\x6.2.2.2=x3.2/\(q0j x6.1/\(x6.2.2.1=true->x6.1≠[])/\x4<=x6.2.2.2/\x6.2.2.2<=(↑(List.length x5):Int))/\(∀(i0:Pub),((True/\slP byV x1 x5 i0)/\GJ.ok x3.1 i0)/\q0l x0.1 x0.2.1 i0->q0l x6.1 x6.2.1 i0)/\True
 abbrev zci0:=((!decide (x0.2.2=0))=true->∃(i0:List AT×(Option Addr×Nat×Nat)×Bool×Int),zci2 x0 i0 (i0.2.2.1=false/\zci1 x0 x1 x2 x3 x4 x5 i0))/\((!decide (x0.2.2=0))=false->∃(i2:List AT×Option Addr×Nat×Nat),i2.2.1=x0.2.1.1/\i2.2.2.1=x0.2.1.2.1/\i2.2.2.2=x0.2.1.2.2/\q0j i2.1/\(∀(i3:Pub),((True/\slP byV x1 x5 i3)/\GJ.ok x3.1 i3)/\q0l x0.1 x0.2.1 i3->q0l i2.1 i2.2 i3)/\∀(i4:Int×Int×Int),True->∃(i5:List AT×(Option Addr×Nat×Nat)×Bool×Int),zci2 x0 i5 (i5.2.2.1=decide (i4.1=0)/\zci1 x0 x1 x2 x3 x4 x5 i5))
end
theorem avro_eqz(x:SV) (L:List Int) (n:Int):q68 P (q0r []) (q1s [(24,qco),(23,qp7),(25,qda)]) Try.f9 cAvro (λ_=>{}) ⟨x,L,n⟩=(qna (x,L,n)->(∃(p:Pub),True/\slP byV x L p)->∃(s:RcS),s.1.1=x.1/\s.1.2.1=x.2.1/\s.1.2.2=x.2.2/\s.2.2=n/\qna s/\(∀(p:Pub),True/\slP byV x L p->slP byV s.1 s.2.1 p)/\∀(b:GJ×Int),GJ.wf b.1/\s.2.2<=b.2/\b.2<=(↑(List.length s.2.1):Int)->(∃(p:Pub),(True/\slP byV x L p)/\GJ.ok b.1 p)->∃(s_1:GJ),GJ.k s_1=GJ.k b.1/\GJ.n s_1=GJ.n b.1/\GJ.s s_1=GJ.s b.1/\(GJ.y s_1).1=(GJ.y b.1).1/\(GJ.y s_1).2.1=(GJ.y b.1).2.1/\(GJ.y s_1).2.2=(GJ.y b.1).2.2/\(GJ.x s_1).1=(GJ.x b.1).1/\(GJ.x s_1).2.1=(GJ.x b.1).2.1/\(GJ.x s_1).2.2=(GJ.x b.1).2.2/\GJ.wf s_1/\(∀(p:Pub),(True/\slP byV x L p)/\GJ.ok b.1 p->GJ.ok s_1 p)/\∀(b_1:List AT×(Option Addr×Nat×Nat)×Int),q0j b_1.1/\(b_1.2.2=0->b_1.1≠[])->(∃(p:Pub),((True/\slP byV x L p)/\GJ.ok b.1 p)/\q0l b_1.1 b_1.2.1 p)->zci0 b_1 x s b n L):=by kernel_rfl
def avro_eq(x:SV) (L:List Int) (n:Int):=Eq.trans (avro_eqz x L n) (by delta zci2 zci1 zci0;exact rfl)
theorem qr6:q0d P 48 qix:=by
 refine q0v mixed (q05 (q01 qgk q06)) (q0g (q04 vl_fin q0q)) (W:=λ_=>{}) Try.func48 (by kernel_rfl) (show 1<=1 by decide) (show 1<=1 by decide) (λs=>by kernel_rfl) λ⟨S,(x:SV),(t:Int),g⟩=>(qqz S x t g).mpr ?_
 rintro⟨hS,hg⟩ ⟨p,_,hx,hgo⟩
 have sl:x.2.1=S.length:=hx.1.1
 simp only[decide_eq_true_eq,decide_eq_false_iff_not,Bool.not_eq_true',Bool.not_eq_false',true_and,and_true,eq_self,imp_self,implies_true,exists_const,forall_const,Int.toNat_natCast]
 refine⟨⟨x,t⟩,rfl,rfl,rfl,rfl,λh=>⟨⟨1,zV⟩,rfl,rfl,rfl,rfl,rfl,rfl,rfl,rfl,rfl,rfl,λq hq=>q6d q⟩,λh=> ?_⟩
 simp only[sl,Bool.and_eq_true,decide_eq_true_eq]at h
 refine⟨⟨S,x,0,t,g,1⟩,rfl,rfl,rfl,rfl,rfl,rfl,rfl,rfl,rfl,rfl,rfl,rfl,rfl,rfl,rfl,⟨hS,h,hg,⟨(by show(0:Int)<=0;decide),(by show(0:Int)<=2000;decide)⟩,(by show(1:Int)<=1;decide),(by show(1:Int)<=21;decide)⟩,λq hq=>hq,?_⟩
 rintro⟨a,e,v⟩ _ _
 exact⟨λ_=>⟨⟨e,zV⟩,rfl,rfl,rfl,rfl,rfl,rfl,rfl,rfl,rfl,rfl,λq hq=>q6d q⟩,λ_=>⟨⟨0,v⟩,rfl,rfl,rfl,rfl,rfl,rfl,rfl,rfl,rfl,rfl,λq hq=>hq.2⟩⟩
theorem qp2:q0d P 25 qda:=by
  refine q0v mixed (q05 q06) (q0g (q04 qr6 q0q)) (W:=qw7) Try.func25 (by kernel_rfl) (show 1<=1 by decide) (show 1<=1 by decide) (λs=>by kernel_rfl) λ⟨S,(x:SV)⟩=>(qub S x).mpr ?_
  rintro hS ⟨p,_,hx⟩
  have sl:x.2.1=S.length:=hx.1.1
  have h60:=hS.1
  simp only[decide_eq_true_eq,decide_eq_false_iff_not,Bool.not_eq_true',Bool.not_eq_false',true_and,and_true,eq_self,imp_self,implies_true,exists_const,forall_const,Int.toNat_natCast,sl]
  refine⟨⟨0,rfl,Nat.zero_le _⟩,?_⟩
  rintro j hj
  refine⟨λhlt=>⟨⟨0,rfl⟩,λk=> ?_⟩,λhge=>⟨⟨0,0,0⟩,rfl,rfl,rfl⟩⟩
  have hjl:j<S.length:=by omega
  have hat:=λq (hq:q0l S x q)=>q5r hq hjl
  have hao:=λq (hq:q0l S x q)=>hq.2 S[j] (List.getElem_mem hjl)
  have hgd:=hS.2 S[j] (List.getElem_mem hjl)
  generalize S[j]=a at*
  obtain⟨_,_,fl,_⟩:=q2r (hao p hx)
  have hf30:=hgd.2.2.2.2.2.2.2.1
  have c8:∀q,q0l S x q->q02 q ((adr x.1 (j*10)).add 8) [.slice a.f.1 a.fs.length a.f.2.2]:=λq hq i v hi=>by
    cases i with
    | zero=>
      rw[←fl]at hi
      have:=(hat q hq).2 8 v hi
      rw[Addr.add_add];exact this
    |succ i=>simp at hi
  refine⟨⟨by omega,by omega⟩,(hat p hx).1,a.f.1,a.fs.length,a.f.2.2,c8,λhk=>⟨⟨by omega,by omega⟩,(hat p hx).1,a.f.1,a.fs.length,a.f.2.2,c8,⟨by omega,by omega⟩,?_⟩,λhk=>⟨⟨by omega,by omega⟩,j+1,by omega,by omega,by omega⟩⟩
  have hkl:k<a.fs.length:=by omega
  have hff:=hgd.2.2.2.2.1 _ (List.getElem_mem hkl)
  have fok:=λq (hq:q0l S x q)=>(hao q hq).2.2.2.2 a.fs[k] (List.getElem_mem hkl)
  have fat:=λq (hq:q0l S x q)=>q5n (hao q hq) hkl
  have hk100:k<100:=by omega
  generalize a.fs[k]=f at*
  refine⟨(fat p hx).1,f.nm,f.al.1,f.al.2.1,f.al.2.2,f.ty,f.hd,f.df.k,f.df.n,f.df.s,f.df.y.1,f.df.y.2.1,f.df.y.2.2,f.df.x.1,f.df.x.2.1,f.df.x.2.2,λq hq=>(fat q hq).2,λ_=>⟨⟨by omega,by omega⟩,k+1,by omega,by omega⟩,λ_=>⟨⟨S,x,f.ty,f.df⟩,rfl,sl,rfl,rfl,rfl,rfl,rfl,rfl,rfl,rfl,rfl,rfl,rfl,⟨hS,hff.2⟩,λq hq=>⟨hq,(fok q hq).2⟩,?_⟩⟩
  rintro⟨e,v⟩ _
  exact⟨λ_=>⟨⟨e,j,k⟩,rfl,rfl,rfl⟩,λ_=>⟨⟨by omega,by omega⟩,k+1,by omega,λq hq=>hq.1,by omega⟩⟩
theorem qmw:q0d P 24 qco:=by
 refine ask_okB mixed (q05 q06) (q0g (q04 qx4 q0q)) (W:=λ_=>{}) Try.func24 (by kernel_rfl) (show 1<=2 by decide) (show 2<=2 by decide) (λs=>by kernel_rfl) λ⟨(x:SV),L,(n:Int)⟩=>(qnq x L n).mpr ?_
 rintro⟨hn0,hn1,hL⟩ ⟨p,_,hx⟩
 simp only[decide_eq_true_eq,decide_eq_false_iff_not,Bool.not_eq_true',Bool.not_eq_false',true_and,and_true,eq_self,imp_self,implies_true,exists_const,forall_const,Int.toNat_natCast]
 refine⟨⟨mkS [84,111,112],x,L,n,0,[mkS [84,111,112]]⟩,rfl,rfl,rfl,rfl,rfl,rfl,rfl,rfl,⟨(by show(3:Nat)<100;decide),⟨hn0,hn1,hL,(by show(0:Int)<=0;decide),(by show(0:Int)<=3;decide),(by show((1:Nat):Int)<=n+1;omega),λt ht=>(by simp at ht;subst ht;show 3<100;decide)⟩⟩,λq hq=>hq,?_⟩
 rintro⟨g,n',N'⟩ ⟨hw,h1,h2,_⟩ _
 exact⟨⟨g,n'⟩,rfl,rfl,rfl,rfl,rfl,rfl,rfl,rfl,rfl,rfl,rfl,rfl,rfl,⟨hw,h1,h2⟩,λq hq=>hq.2⟩
theorem avro_ok:q0d P 9 cAvro:=by
 refine q0v mixed (q05 q06) (q0g (q04 qmw (q04 qxg (q04 qp2 q0q)))) (W:=λ_=>{}) Try.func9 (by kernel_rfl) (show 1<=2 by decide) (show 2<=2 by decide) (λs=>by kernel_rfl) λ⟨(x:SV),L,(n:Int)⟩=>(avro_eq x L n).mpr ?_
 rintro⟨hn0,hn1,hL⟩ ⟨p,_,hx⟩
 simp only[decide_eq_true_eq,decide_eq_false_iff_not,Bool.not_eq_true',Bool.not_eq_false',true_and,and_true,eq_self,imp_self,implies_true,exists_const,forall_const,Int.toNat_natCast]
 refine⟨⟨x,L,n⟩,rfl,rfl,rfl,rfl,⟨hn0,hn1,hL⟩,λq hq=>hq,?_⟩
 rintro⟨g,n'⟩ ⟨hw,h1,h2⟩ _
 refine⟨g,rfl,rfl,rfl,rfl,rfl,rfl,rfl,rfl,rfl,hw,λq hq=>hq.2,?_⟩
 rintro⟨S,y,e⟩ ⟨hS,hne⟩ _
 simp only at hS hne⊢
 refine⟨λhe=>⟨⟨S,y,false,n'⟩,rfl,rfl,rfl,rfl,trivial,trivial,trivial,rfl,⟨hS,λh=>(by cases h),h1,h2⟩,λq hq=>hq.2⟩,λhe=>⟨⟨S,y⟩,rfl,rfl,rfl,hS,λq hq=>hq.2,?_⟩⟩
 rintro⟨e2,t,i⟩
 exact⟨⟨S,y,decide (e2=0),n'⟩,rfl,rfl,rfl,rfl,trivial,trivial,trivial,rfl,⟨hS,λ_=>hne he,h1,h2⟩,λq hq=>hq.2⟩
def rAt(R:List Int) (t:Int):Int:=R.getD t.toNat (-1)
def ini(a:AT):Int:=if a.k=9\/a.k=14 then -1 else 0
def qfv(R:List Int):List Int->Int->Int
 | [],m=>m
 |b::l,m=>qfv R l (if 0<=rAt R b/\(m<0\/rAt R b<m)then rAt R b else m)
def qeh(R:List Int):List AF->Int->Int
 | [],m=>m+1
 |f::l,m=>if rAt R f.ty<0 then -1 else qeh R l (if m<rAt R f.ty then rAt R f.ty else m)
def rkd(R:List Int) (a:AT):Int:=if a.k=14 then(if qfv R a.brs (-1)<0 then -1 else qfv R a.brs (-1)+1)else qeh R a.fs 0
def rkS(S:List AT) (R:List Int):List Int:=List.zipWith (λa r=>if 0<=r then r else rkd R a) S R
def rkN(S:List AT):Nat->List Int
 |0=>S.map ini
 |k+1=>rkS S (rkN S k)
def q0a(S:List AT):List Int:=rkN S (S.length+1)
def chG(R B:List Int):Nat->Nat->Nat->Nat
 |0,i,m=>m
 |c+1,i,m=>chG R B c (i+1) (if 0<=rAt R (B.getD i 0)/\(rAt R (B.getD m 0)<0\/rAt R (B.getD i 0)<rAt R (B.getD m 0))then i else m)
def chF(R B:List Int):Nat:=chG R B B.length 0 0
def wMn(a b:Int):Int:=if 1000000<a+b then 1000000 else a+b
def wfs(W:List Int) (i:Nat):List AF->List Int
 | []=>W
 |f::l=>wfs (W.set i (wMn (rAt W i) (rAt W f.ty))) i l
def wU(R W:List Int) (i:Nat) (a:AT):List Int:=if a.k=14 then(W.set i 1).set i (wMn (rAt (W.set i 1) i) (rAt (W.set i 1) (a.brs.getD (chF R a.brs) 0)))else W.set i 1
def w1(R W:List Int) (i:Nat) (a:AT):List Int:=wfs (wU R W i a) i a.fs
def qzo(S:List AT) (R:List Int) (k:Int):Nat->Nat->List Int->List Int
 |0,i,W=>W
 |c+1,i,W=>qzo S R k c (i+1) (if rAt R i=k then w1 R W i (S.getD i zA)else W)
def wall(S:List AT) (R:List Int):Nat->Int->List Int->List Int
 |0,k,W=>W
 |c+1,k,W=>wall S R c (k+1) (qzo S R k S.length 0 W)
def wts(S:List AT) (R:List Int):List Int:=wall S R (S.length+1) 0 (List.replicate S.length 0)
def lsB(S:List AT) (t:Int):Bool:=(decide (0<=t)&&decide (t<(S.length:Int)))&&decide (0<=rAt (q0a S) t)&&decide (rAt (wts S (q0a S)) t<=2000)
theorem qgi(R:List Int) (i:Nat):rAt R i=R.getD i (-1):=by unfold rAt;rw[Int.toNat_natCast]
theorem q2i{R:List Int} {i:Nat} (h:i<R.length):rAt R i=R[i]:=by rw[qgi,List.getD_eq_getElem?_getD,List.getElem?_eq_getElem h];rfl
theorem rAt_mem{R:List Int} {i:Nat} (h:i<R.length):rAt R i∈R:=by rw[q2i h];exact List.getElem_mem h
theorem qcy(S:List AT) (R:List Int) (h:R.length=S.length):(rkS S R).length=S.length:=by unfold rkS;simp[h]
theorem q4s(S:List AT):∀k,(rkN S k).length=S.length
 |0=>by rw[rkN];simp
 |k+1=>by rw[rkN];exact qcy S _ (q4s S k)
theorem qoz{S:List AT} {R:List Int} (h:R.length=S.length) {i:Nat} (hi:i<S.length):rAt (rkS S R) i=if 0<=rAt R i then rAt R i else rkd R S[i]:=by
 rw[q2i (by rw[qcy S R h];exact hi),q2i (by omega)]
 unfold rkS
 simp
theorem qi5(R:List Int):∀(l:List Int) (m:Int), -1<=m-> -1<=qfv R l m/\(0<=qfv R l m->qfv R l m=m\/∃b∈l,rAt R b=qfv R l m)
  | [],m,h=>by rw[qfv];exact⟨h,λ_=> .inl rfl⟩
  | b ::l,m,h=>by
    rw[qfv]
    split
    next hc=>
      obtain⟨h1,h2⟩:=qi5 R l (rAt R b) (by omega)
      refine⟨h1,λh0=> .inr ?_⟩
      rcases h2 h0 with e|⟨c,hcm,e⟩
      · exact⟨b,List.mem_cons_self,e.symm⟩
      · exact⟨c,List.mem_cons_of_mem _ hcm,e⟩
    next hc=>
      obtain⟨h1,h2⟩:=qi5 R l m h
      refine⟨h1,λh0=> ?_⟩
      rcases h2 h0 with e|⟨c,hcm,e⟩
      · exact .inl e
      · exact .inr ⟨c,List.mem_cons_of_mem _ hcm,e⟩
theorem qgq(R:List Int):∀(l:List AF) (m:Int),0<=m->qeh R l m= -1\/(m<qeh R l m/\(∀f∈l,0<=rAt R f.ty/\rAt R f.ty<qeh R l m)/\(qeh R l m=m+1\/∃f∈l,rAt R f.ty+1=qeh R l m))
  | [],m,h=>by rw[qeh];exact .inr ⟨by omega,λf hf=>(by cases hf), .inl rfl⟩
  | g :: l, m,h=>by
    rw[qeh]
    split
    · exact .inl rfl
    next hg =>
      split
      next hm=>
        rcases qgq R l (rAt R g.ty) (by omega)with e|⟨h1,h2,h3⟩
        · exact .inl e
        · refine .inr ⟨by omega,λf hf=> ?_, .inr ?_⟩
          · rcases List.mem_cons.1 hf with rfl|hf
            · exact⟨by omega,h1⟩
            · exact h2 f hf
          · rcases h3 with e|⟨f,hf,e⟩
            · exact⟨g,List.mem_cons_self,e.symm⟩
            · exact⟨f,List.mem_cons_of_mem _ hf,e⟩
      next hm=>
        rcases qgq R l m h with e|⟨h1,h2,h3⟩
        · exact .inl e
        · refine .inr ⟨h1,λf hf=> ?_,?_⟩
          · rcases List.mem_cons.1 hf with rfl|hf
            · exact⟨by omega,by omega⟩
            · exact h2 f hf
          · rcases h3 with e|⟨f,hf,e⟩
            · exact .inl e
            · exact .inr ⟨f,List.mem_cons_of_mem _ hf,e⟩
def RKI(S:List AT) (R:List Int) (K:Int):Prop:=R.length=S.length/\∀(i:Nat) (h:i<S.length),(-1<=rAt R i/\rAt R i<=K)/\(S[i].k≠9->S[i].k≠14->rAt R i=0)/\(S[i].k=9->0<=rAt R i->∀f∈S[i].fs,0<=rAt R f.ty/\rAt R f.ty<rAt R i)/\(S[i].k=14->0<=rAt R i->∃b∈S[i].brs,0<=rAt R b/\rAt R b<rAt R i)/\(2<=rAt R i->∃j,j<S.length/\rAt R j+1=rAt R i)
theorem q22{n:Nat} {t:Int} (h:0<=t/\t<n):∃j:Nat,j<n/\t=(j:Int):=by
 obtain⟨j,rfl⟩:=Int.eq_ofNat_of_zero_le h.1
 exact⟨j,by omega,rfl⟩
theorem RKI_step{S:List AT} {R:List Int} {K:Int} (hS:q0j S) (h:RKI S R K) (hK:0<=K):RKI S (rkS S R) (K+1):=by
 obtain⟨hl,h⟩:=h
 refine⟨qcy S R hl,λi hi=> ?_⟩
 have hg:=hS.2 S[i] (List.getElem_mem hi)
 have keep:∀t:Int,(0<=t/\t<(S.length:Int))->0<=rAt R t->rAt (rkS S R) t=rAt R t:=λt ht h0=>by
  obtain⟨j,hj,rfl⟩:=q22 ht
  rw[qoz hl hj,if_pos h0]
 have hb:∀t:Int,(0<=t/\t<(S.length:Int))->rAt R t<=K:=λt ht=>by
  obtain⟨j,hj,rfl⟩:=q22 ht
  exact(h j hj).1.2
 obtain⟨⟨b1,b2⟩,p1,p2,p3,p4⟩:=h i hi
 have fty:=λf (hf:f∈S[i].fs)=>(hg.2.2.2.2.1 f hf).1
 have bty:=hg.2.2.1
 rw[qoz hl hi]
 split
 next h0=>
  refine⟨⟨b1,by omega⟩,p1,λhk _ f hf=> ?_,λhk _=> ?_,λh2=> ?_⟩
  ·have:=p2 hk h0 f hf
   rw[keep _ (fty f hf) this.1];exact this
  ·obtain⟨b,hbm,q1,q2⟩:=p3 hk h0
   exact⟨b,hbm,by rw[keep _ (bty b hbm) q1];exact⟨q1,q2⟩⟩
  ·obtain⟨j,hj,e⟩:=p4 h2
   exact⟨j,hj,by rw[keep j ⟨by omega,by omega⟩ (by omega)];exact e⟩
 next h0 =>
  unfold rkd
  by_cases hk14:S[i].k=14
  ·rw [if_pos hk14]
   obtain⟨c1,c2⟩:=qi5 R S[i].brs (-1) (by omega)
   split
   next hn=>exact⟨⟨by omega,by omega⟩,λ_ h=>absurd hk14 h,λh=>absurd h (by omega),λ_ h=>absurd h (by omega),λh=>absurd h (by omega)⟩
   next hn=>
    rcases c2 (by omega)with e|⟨b,hbm,e⟩
    ·omega
    ·have:=hb b (bty b hbm)
     refine⟨⟨by omega,by omega⟩,λ_ h=>absurd hk14 h,λh=>absurd h (by omega),λ_ _=>⟨b,hbm,?_⟩,λh2=> ?_⟩
     ·rw[keep _ (bty b hbm) (by omega)];omega
     ·obtain⟨j,hj,rfl⟩:=q22 (bty b hbm)
      exact⟨j,hj,by rw[keep j ⟨by omega,by omega⟩ (by omega)];omega⟩
  ·rw [if_neg hk14]
   by_cases hk9:S[i].k=9
   ·rcases qgq R S[i].fs 0 (by omega)with e|⟨h1,h2,h3⟩
    ·rw[e];exact⟨⟨by omega,by omega⟩,λh=>absurd hk9 h,λ_ h=>absurd h (by omega),λh=>absurd h hk14,λh=>absurd h (by omega)⟩
    ·refine⟨⟨by omega,?_⟩,λh=>absurd hk9 h,λ_ _ f hf=> ?_,λh=>absurd h hk14,λh2'=> ?_⟩
     ·rcases h3 with e|⟨f,hf,e⟩
      ·omega
      ·have:=hb f.ty (fty f hf);omega
     ·have:=h2 f hf
      rw[keep _ (fty f hf) this.1];exact this
     ·rcases h3 with e|⟨f,hf,e⟩
      ·omega
      ·have:=h2 f hf
       obtain⟨j,hj,ej⟩:=q22 (fty f hf)
       rw[ej]at this e
       exact⟨j,hj,by rw[keep j ⟨by omega,by omega⟩ this.1];omega⟩
   ·exact absurd (p1 hk9 hk14) (by omega)
theorem qyw(S:List AT):RKI S (S.map ini) 0:=by
 refine⟨by simp,λi hi=> ?_⟩
 have e:rAt (S.map ini) i=ini S[i]:=by rw[q2i (by simpa using hi)];simp
 rw[e]
 unfold ini
 split
 next h=>exact⟨⟨by omega,by omega⟩,λh1 h2=>by omega,λ_ h=>absurd h (by omega),λ_ h=>absurd h (by omega),λh=>absurd h (by omega)⟩
 next h=>exact⟨⟨by omega,by omega⟩,λ_ _=>rfl,λh1=>absurd (Or.inl h1) h,λh1=>absurd (Or.inr h1) h,λh=>absurd h (by omega)⟩
theorem RKI_N{S:List AT} (hS:q0j S):∀k:Nat,RKI S (rkN S k) k
  |0=>qyw S
  | k+1=>by
    have:=RKI_step hS (RKI_N hS k) (by omega)
    rw[rkN];exact this
theorem qlj{S:List AT} (hS:q0j S):RKI S (q0a S) (S.length+1):=by
 have:=RKI_N hS (S.length+1)
 unfold q0a;exact this
theorem qjv:∀{l R:List Int},l.Nodup->(∀x∈l,x∈R)->l.length<=R.length
  | [],R,_,_=>Nat.zero_le _
  | x::l,R,hn,h=>by
    rw[List.nodup_cons]at hn
    have hx:=h x List.mem_cons_self
    have:=qjv (l:=l) (R:=R.erase x) hn.2 λy hy=>(List.mem_erase_of_ne (λe=>by subst e;exact hn.1 hy)).2 (h y (List.mem_cons_of_mem _ hy))
    rw[List.length_erase_of_mem hx]at this
    have h0:0<R.length:=List.length_pos_of_mem hx
    rw[List.length_cons];omega
theorem rk_le{S:List AT} {R:List Int} {K:Int} (h:RKI S R K) {i:Nat} (hi:i<S.length):rAt R i<=S.length:=by
  obtain⟨hl,h⟩:=h
  have down:∀d:Nat,∀j,j<S.length->rAt R j=d->∀m:Nat,1<=m->m<=d->(m:Int)∈R:=by
    intro d
    induction d with
    |zero=>intro j hj e m h1 h2;omega
    | succ d ih=>
      intro j hj e m h1 h2
      by_cases hm:m=d+1
      · have:=rAt_mem (R:=R) (i:=j) (by omega)
        rw[e]at this;rw[hm];exact this
      · obtain⟨j2,hj2,e2⟩:=(h j hj).2.2.2.2 (by omega)
        exact ih j2 hj2 (by omega) m h1 (by omega)
  by_cases h0:rAt R i<=0
  · omega
  obtain⟨d,hd⟩:=Int.eq_ofNat_of_zero_le (show 0<=rAt R i by omega)
  have hs:=down d i hi hd
  have:=qjv (l:=(List.range d).map λ(m:Nat)=>((m+1:Nat):Int)) (R:=R) (by
    unfold List.Nodup
    rw[List.pairwise_map]
    exact(List.nodup_range (n:=d)).imp λ{a b} h e=>h (by simp at e;omega)) λx hx=>by
      obtain⟨m,hm,rfl⟩:=List.mem_map.1 hx
      rw[List.mem_range]at hm
      exact hs (m+1) (by omega) (by omega)
  simp at this
  omega
theorem qki(R B:List Int):∀(c i m:Nat),c+i=B.length->m<B.length->chG R B c i m<B.length/\(0<=rAt R (B.getD m 0)->0<=rAt R (B.getD (chG R B c i m) 0)/\rAt R (B.getD (chG R B c i m) 0)<=rAt R (B.getD m 0))/\∀j,i<=j->j<B.length->0<=rAt R (B.getD j 0)->0<=rAt R (B.getD (chG R B c i m) 0)/\rAt R (B.getD (chG R B c i m) 0)<=rAt R (B.getD j 0)
  |0,i,m,h,hm=>by rw[chG];exact⟨hm,λh=>⟨h,by omega⟩,λj h1 h2=>by omega⟩
  | c + 1,i,m,h,hm=>by
    rw[chG]
    split
    next hc=>
      obtain⟨h1,h2,h3⟩:=qki R B c (i+1) i (by omega) (by omega)
      have h2:=h2 hc.1
      refine⟨h1,λh0=>⟨h2.1,by omega⟩,λj hj1 hj2 hj3=> ?_⟩
      by_cases e:j=i
      · subst e;exact h2
      · exact h3 j (by omega) hj2 hj3
    next hc=>
      obtain⟨h1,h2,h3⟩:=qki R B c (i+1) m (by omega) hm
      refine⟨h1,h2,λj hj1 hj2 hj3=> ?_⟩
      by_cases e:j=i
      · subst e
        have:=h2 (by omega)
        exact⟨this.1,by omega⟩
      · exact h3 j (by omega) hj2 hj3
theorem qk8{R B:List Int} (h:B≠[]):chF R B<B.length:=by
 have:0<B.length:=List.length_pos_iff.2 h
 exact(qki R B B.length 0 0 (by omega) this).1
theorem q6t{B:List Int} {i:Nat} (h:i<B.length):B.getD i 0∈B:=by rw[List.getD_eq_getElem?_getD,List.getElem?_eq_getElem h];exact List.getElem_mem h
theorem qd8{S:List AT} {R:List Int} {K:Int} (h:RKI S R K) {i:Nat} (hi:i<S.length) (hk:S[i].k=14) (h0:0<=rAt R i):chF R S[i].brs<S[i].brs.length/\0<=rAt R (S[i].brs.getD (chF R S[i].brs) 0)/\rAt R (S[i].brs.getD (chF R S[i].brs) 0)<rAt R i:=by
 obtain⟨b,hb,h1,h2⟩:=(h.2 i hi).2.2.2.1 hk h0
 obtain⟨j,hj,rfl⟩:=List.getElem_of_mem hb
 have:=(qki R S[i].brs S[i].brs.length 0 0 (by omega) (by omega)).2.2 j (by omega) hj
 have ej:S[i].brs.getD j 0=S[i].brs[j]:=by rw[List.getD_eq_getElem?_getD,List.getElem?_eq_getElem hj];rfl
 rw[ej]at this
 have:=this h1
 exact⟨qk8 (λe=>by rw[e]at hj;simp at hj),this.1,Int.lt_of_le_of_lt this.2 h2⟩
theorem q46{W:List Int} {i j:Nat} (hi:i<W.length) (v:Int):rAt (W.set i v) j=if j=i then v else rAt W j:=by
 rw[qgi,qgi,List.getD_eq_getElem?_getD,List.getD_eq_getElem?_getD]
 by_cases h:j=i
 ·subst h;rw[List.getElem?_set_self hi,if_pos rfl];rfl
 ·rw[List.getElem?_set_ne (λe=>h e.symm),if_neg h]
theorem q56{W:List Int} {i:Nat} {t:Int} (hi:i<W.length) (v:Int) (ht:0<=t):rAt (W.set i v) t=if t=i then v else rAt W t:=by
 obtain⟨j,rfl⟩:=Int.eq_ofNat_of_zero_le ht
 rw[q46 hi]
 by_cases h:j=i
 ·subst h;rw[if_pos rfl,if_pos rfl]
 ·rw[if_neg h,if_neg (by omega)]
def WB(n:Nat) (W:List Int):Prop:=W.length=n/\∀i,i<n->0<=rAt W i/\rAt W i<=1000000
theorem WB_in{n:Nat} {W:List Int} (h:WB n W) {t:Int} (ht:0<=t/\t<n):0<=rAt W t/\rAt W t<=1000000:=by
 obtain⟨j,hj,rfl⟩:=q22 ht
 exact h.2 j hj
theorem qbw{n:Nat} {W:List Int} (h:WB n W) {i:Nat} (hi:i<n) {v:Int} (hv:0<=v/\v<=1000000):WB n (W.set i v):=by
 refine⟨by rw[List.length_set];exact h.1,λj hj=> ?_⟩
 rw[q46 (by have:=h.1;omega)]
 split
 ·exact hv
 ·exact h.2 j hj
theorem qlg{a b:Int} (ha:0<=a) (hb:0<=b):0<=wMn a b/\wMn a b<=1000000:=by unfold wMn;split<;>omega
def q7v(W:List Int):List AF->Int
 | []=>0
 |f::l=>rAt W f.ty+q7v W l
def qmq(n:Nat) (l:List AF):Prop:=∀f∈l,0<=f.ty/\f.ty<n
theorem qdy{n:Nat} {W:List Int} (h:WB n W):∀{l:List AF},qmq n l->0<=q7v W l
  | [],_=>Int.le_refl _
  | f::l,hl=>by
    have h1:=WB_in h (hl f List.mem_cons_self)
    have h2:=qdy h (l:=l) λg hg=>hl g (List.mem_cons_of_mem _ hg)
    rw[q7v];omega
theorem q5b{W V:List Int}:∀{l:List AF},(∀f∈l,rAt V f.ty=rAt W f.ty)->q7v V l=q7v W l
 | [],_=>rfl
 |f::l,h=>by rw[q7v,q7v,h f List.mem_cons_self,q5b λg hg=>h g (List.mem_cons_of_mem _ hg)]
theorem qpp{n:Nat} {W:List Int} (h:WB n W):∀{l:List AF},qmq n l->∀f∈l,rAt W f.ty<=q7v W l
  | g::l,hl,f,hf=>by
    have h2:=qdy h (l:=l) λg hg=>hl g (List.mem_cons_of_mem _ hg)
    have h1:=WB_in h (hl g List.mem_cons_self)
    rw[q7v]
    rcases List.mem_cons.1 hf with rfl|hf
    · omega
    · have:=qpp h (λg hg=>hl g (List.mem_cons_of_mem _ hg)) f hf;omega
theorem wfs_in{n:Nat} {i:Nat} (hi:i<n):∀{l:List AF} {W:List Int},WB n W->qmq n l->WB n (wfs W i l)/\(∀t:Int,0<=t->t≠i->rAt (wfs W i l) t=rAt W t)/\rAt W i<=rAt (wfs W i l) i/\((∀f∈l,f.ty≠i)->wMn (rAt W i) (q7v W l)<=rAt (wfs W i l) i)
  | [],W,h,hl=>by
    rw[wfs,q7v]
    refine⟨h,λ_ _ _=>rfl,Int.le_refl _,λ_=> ?_⟩
    have:=h.2 i hi
    unfold wMn;split<;>omega
  | f ::l,W,h,hl=>by
    have hil:i<W.length:=by have:=h.1;omega
    have h1:=WB_in h (hl f List.mem_cons_self)
    have h0:=h.2 i hi
    have hw:=qbw h hi (qlg h0.1 h1.1)
    have hl2:qmq n l:=λg hg=>hl g (List.mem_cons_of_mem _ hg)
    obtain⟨a1,a2,a3,a4⟩:=wfs_in hi hw hl2
    rw[q46 hil,if_pos rfl]at a3 a4
    rw[wfs]
    refine⟨a1,λt ht hne=> ?_,?_,λhne=> ?_⟩
    · rw[a2 t ht hne,q56 hil _ ht,if_neg hne]
    · refine Int.le_trans ?_ a3
      unfold wMn;split<;>omega
    · have a4:=a4 λg hg=>hne g (List.mem_cons_of_mem _ hg)
      have e:q7v (W.set i (wMn (rAt W i) (rAt W f.ty))) l=q7v W l:=q5b λg hg=>by
        rw[q56 hil _ (hl2 g hg).1,if_neg (hne g (List.mem_cons_of_mem _ hg))]
      rw[e]at a4
      have hp:=qdy h hl2
      refine Int.le_trans ?_ a4
      rw[q7v]
      unfold wMn
      (repeat' split)<;>omega
def WI(R W:List Int) (i:Nat) (a:AT):Prop:=1<=rAt W i/\(a.k=9->wMn 1 (q7v W a.fs)<=rAt W i)/\(a.k=14->wMn 1 (rAt W (a.brs.getD (chF R a.brs) 0))<=rAt W i)
theorem w1_in{S:List AT} {R W:List Int} {K:Int} (hS:q0j S) (h:RKI S R K) (hW:WB S.length W) {i:Nat} (hi:i<S.length) (h0:0<=rAt R i):WB S.length (w1 R W i S[i])/\(∀t:Int,0<=t->t≠i->rAt (w1 R W i S[i]) t=rAt W t)/\WI R (w1 R W i S[i]) i S[i]:=by
 have hg:=hS.2 S[i] (List.getElem_mem hi)
 have hf:qmq S.length S[i].fs:=λf hf=>(hg.2.2.2.2.1 f hf).1
 have hil:i<W.length:=by have:=hW.1;omega
 have hr:=h.2 i hi
 have A:WB S.length (wU R W i S[i])/\(∀t:Int,0<=t->t≠i->rAt (wU R W i S[i]) t=rAt W t)/\1<=rAt (wU R W i S[i]) i/\(S[i].k≠14->rAt (wU R W i S[i]) i=1)/\(S[i].k=14->rAt (wU R W i S[i]) i=wMn 1 (rAt W (S[i].brs.getD (chF R S[i].brs) 0))):=by
  have hw1:=qbw hW hi (v:=1) (by omega)
  have hil1:i<(W.set i 1).length:=by rw[List.length_set];exact hil
  unfold wU
  split
  next hk=>
   obtain⟨c1,c2,c3⟩:=qd8 h hi hk h0
   have hb:=hg.2.2.1 _ (q6t c1)
   have hne:S[i].brs.getD (chF R S[i].brs) 0≠(i:Int):=λe=>by rw[e]at c3;omega
   have e1:rAt (W.set i 1) i=1:=by rw[q46 hil,if_pos rfl]
   have e2:rAt (W.set i 1) (S[i].brs.getD (chF R S[i].brs) 0)=rAt W (S[i].brs.getD (chF R S[i].brs) 0):=by rw[q56 hil _ hb.1,if_neg hne]
   rw[e1,e2]
   have hv:=WB_in hW hb
   refine⟨qbw hw1 hi (qlg (by omega) hv.1),λt ht hne=> ?_,?_,λh=>absurd hk h,λ_=> ?_⟩
   ·rw[q56 hil1 _ ht,if_neg hne,q56 hil _ ht,if_neg hne]
   ·rw[q46 hil1,if_pos rfl];unfold wMn;split<;>omega
   ·rw[q46 hil1,if_pos rfl]
  next hk=>
   refine⟨hw1,λt ht hne=>by rw[q56 hil _ ht,if_neg hne],by rw[q46 hil,if_pos rfl];exact Int.le_refl _,λ_=>by rw[q46 hil,if_pos rfl],λh=>absurd h hk⟩
 obtain⟨A1,A2,A3,A4,A5⟩:=A
 obtain⟨b1,b2,b3,b4⟩:=wfs_in hi A1 hf
 unfold w1
 refine⟨b1,λt ht hne=>by rw[b2 t ht hne,A2 t ht hne],by omega,λhk=> ?_,λhk=> ?_⟩
 ·have hlt:=hr.2.2.1 hk h0
  have hne:∀f∈S[i].fs,f.ty≠(i:Int):=λf hf e=>by have:=hlt f hf;rw[e]at this;omega
  have b4:=b4 hne
  rw[A4 (by omega)]at b4
  rw[q5b (W:=wU R W i S[i]) λf hfm=>b2 f.ty (hf f hfm).1 (hne f hfm)]
  exact b4
 ·obtain⟨c1,c2,c3⟩:=qd8 h hi hk h0
  have hb:=hg.2.2.1 _ (q6t c1)
  have hne:S[i].brs.getD (chF R S[i].brs) 0≠(i:Int):=λe=>by rw[e]at c3;omega
  rw[b2 _ hb.1 hne,A2 _ hb.1 hne,←A5 hk];exact b3
def WK(S:List AT) (R:List Int) (k:Int) (i:Nat) (W:List Int):Prop:=WB S.length W/\∀(j:Nat) (h:j<S.length),0<=rAt R j->(rAt R j<k\/rAt R j=k/\j<i)->WI R W j S[j]
theorem WK_step{S:List AT} {R W:List Int} {K k:Int} (hS:q0j S) (h:RKI S R K) (hk:0<=k) {i:Nat} (hi:i<S.length) (hW:WK S R k i W):WK S R k (i+1) (if rAt R i=k then w1 R W i (S.getD i zA)else W):=by
 have e:S.getD i zA=S[i]:=by rw[List.getD_eq_getElem?_getD,List.getElem?_eq_getElem hi];rfl
 rw[e]
 split
 next hr=>
  obtain⟨a1,a2,a3⟩:=w1_in hS h hW.1 hi (by omega)
  refine⟨a1,λj hj h0 hc=> ?_⟩
  by_cases hji:j=i
  ·subst hji;exact a3
  have hw:=hW.2 j hj h0 (by omega)
  have hr9:=λh9=>(h.2 j hj).2.2.1 h9 h0
  have hgf:=λf (hf:f∈S[j].fs)=>((hS.2 S[j] (List.getElem_mem hj)).2.2.2.2.1 f hf).1.1
  have hgb:=λb (hb:b∈S[j].brs)=>((hS.2 S[j] (List.getElem_mem hj)).2.2.1 b hb).1
  have hij:(j:Int)≠(i:Int):=by omega
  have hj0:0<=(j:Int):=by omega
  have hrk:rAt R j<=k:=by omega
  rw[←hr]at hrk
  have ne:∀t:Int,rAt R t<rAt R j->t≠(i:Int):=λt h1 e=>by rw[e]at h1;exact absurd hrk (Int.not_le.2 h1)
  refine⟨by rw[a2 j hj0 hij];exact hw.1,λh9=> ?_,λh14=> ?_⟩
  ·rw[q5b (W:=W) λf hf=>a2 f.ty (hgf f hf) (ne _ (hr9 h9 f hf).2),a2 j hj0 hij]
   exact hw.2.1 h9
  ·obtain⟨c1,c2,c3⟩:=qd8 h hj h14 h0
   rw[a2 _ (hgb _ (q6t c1)) (ne _ c3),a2 j hj0 hij]
   exact hw.2.2 h14
 next hr=>exact⟨hW.1,λj hj h0 hc=>hW.2 j hj h0 (by
  by_cases hji:j=i
  ·subst hji;omega
  ·omega)⟩
theorem qsk{S:List AT} {R:List Int} {K k:Int} (hS:q0j S) (h:RKI S R K) (hk:0<=k):∀(c i:Nat) (W:List Int),c+i=S.length->WK S R k i W->WK S R (k+1) 0 (qzo S R k c i W)
  | 0,i,W,hc,hW=>by
    rw[qzo]
    exact⟨hW.1,λj hj h0 hc=>hW.2 j hj h0 (by omega)⟩
  | c+1,i,W,hc,hW=>by
    rw[qzo]
    exact qsk hS h hk c (i+1) _ (by omega) (WK_step hS h hk (by omega) hW)
theorem qp5{S:List AT} {R:List Int} {K:Int} (hS:q0j S) (h:RKI S R K):∀(c:Nat) (k:Int) (W:List Int),0<=k->WK S R k 0 W->WK S R (k+c) 0 (wall S R c k W)
  |0,k,W,hk,hW=>by rw[wall];simpa using hW
  | c+1,k,W,hk,hW=>by
    rw[wall]
    have:=qp5 hS h c (k+1) _ (by omega) (qsk hS h hk S.length 0 W (by omega) hW)
    rw[show k+((c+1:Nat):Int)=k+1+c by omega];exact this
theorem qjs{S:List AT} {R:List Int} {K:Int} (hS:q0j S) (h:RKI S R K):WB S.length (wts S R)/\∀(j:Nat) (hj:j<S.length),0<=rAt R j->WI R (wts S R) j S[j]:=by
 have h0:WK S R 0 0 (List.replicate S.length 0):=⟨⟨by simp,λi hi=>by rw[q2i (by simpa using hi)];simp⟩,λj hj h1 h2=>by omega⟩
 have:=qp5 hS h (S.length+1) 0 _ (by omega) h0
 refine⟨this.1,λj hj h1=>this.2 j hj h1 (.inl ?_)⟩
 have:=rk_le h hj
 omega
theorem q30{S:List AT} {t:Int}:lsB S t=true↔(0<=t/\t<(S.length:Int))/\0<=rAt (q0a S) t/\rAt (wts S (q0a S)) t<=2000:=by
 unfold lsB
 simp[and_assoc]
theorem qhm{S:List AT} (hS:q0j S) {i:Nat} (hi:i<S.length) (hk:S[i].k=9) (h:lsB S i=true):1+q7v (wts S (q0a S)) S[i].fs<=rAt (wts S (q0a S)) i/\∀f∈S[i].fs,lsB S f.ty=true:=by
 obtain⟨_,h1,h2⟩:=q30.1 h
 have hR:=qlj hS
 obtain⟨w1,w2⟩:=qjs hS hR
 have hw:=(w2 i hi h1).2.1 hk
 have hg:=hS.2 S[i] (List.getElem_mem hi)
 have hf:qmq S.length S[i].fs:=λf hf=>(hg.2.2.2.2.1 f hf).1
 have e:1+q7v (wts S (q0a S)) S[i].fs<=rAt (wts S (q0a S)) i:=by
  unfold wMn at hw
  split at hw<;>omega
 refine⟨e,λf hfm=>q30.2 ⟨hf f hfm,((hR.2 i hi).2.2.1 hk h1 f hfm).1,?_⟩⟩
 have:=qpp w1 hf f hfm
 omega
theorem qvj{S:List AT} (hS:q0j S) {i:Nat} (hi:i<S.length) (hk:S[i].k=14) (h:lsB S i=true):1+rAt (wts S (q0a S)) (S[i].brs.getD (chF (q0a S) S[i].brs) 0)<=rAt (wts S (q0a S)) i:=by
 obtain⟨_,h1,h2⟩:=q30.1 h
 have hR:=qlj hS
 obtain⟨w1,w2⟩:=qjs hS hR
 have hw:=(w2 i hi h1).2.2 hk
 unfold wMn at hw
 split at hw<;>omega
def kzs:List ByteArray->Nat
 | []=>0
 |k::l=>k.size+10+kzs l
mutual
def PV.wt:PV->Nat
 | .mk n s l ks b=>30+s.size+kzs ks+PV.wts l
def PV.wts:List PV->Nat
 | []=>0
 |v::l=>PV.wt v+PV.wts l
end
theorem q4q:∀(l m:List PV),PV.wts (l++m)=PV.wts l+PV.wts m
 | [],m=>by rw[PV.wts];simp
 |v::l,m=>by rw[List.cons_append,PV.wts,PV.wts,q4q l m];omega
theorem q7o(v:PV):PV.wts [v]=PV.wt v:=by rw[PV.wts,PV.wts];rfl
theorem quh:∀{l:List PV} {v:PV},v∈l->PV.wt v<=PV.wts l
  | a::l,v,h=>by
    rw[PV.wts]
    rcases List.mem_cons.1 h with rfl|h
    · omega
    · have:=quh h;omega
theorem q7c:∀(l m:List ByteArray),kzs (l++m)=kzs l+kzs m
 | [],m=>by rw[kzs];simp
 |v::l,m=>by rw[List.cons_append,kzs,kzs,q7c l m];omega
theorem q45(l:List PV) (k:Nat):PV.wts (l.take k)+PV.wts (l.drop k)=PV.wts l:=by rw[←q4q,List.take_append_drop]
theorem qpq{l:List PV} {k:Nat} (h:k<l.length) (w:PV):PV.wts (l.set k w)+PV.wt l[k]=PV.wts l+PV.wt w:=by
 have e:=q45 l k
 rw[List.drop_eq_getElem_cons h,PV.wts]at e
 rw[List.set_eq_take_append_cons_drop,if_pos h,q4q,PV.wts];omega
theorem qe8:∀{l:List PV},PV.sms l↔∀v∈l,v.sm
 | []=>by unfold PV.sms;simp
 |v::l=>by unfold PV.sms;rw[qe8 (l:=l)];simp
mutual
def PV.nar:PV->Prop
 | .mk n s l ks b=>l.length<=1000/\ks.length<=1000/\PV.nars l
def PV.nars:List PV->Prop
 | []=>True
 |v::l=>PV.nar v/\PV.nars l
end
theorem qd4:∀{l:List PV},PV.nars l↔∀v∈l,v.nar
 | []=>by unfold PV.nars;simp
 |v::l=>by unfold PV.nars;rw[qd4 (l:=l)];simp
def PV.sn(v:PV):Prop:=v.sm/\v.nar
theorem q7k{n:Int} {s:ByteArray} {l:List PV} {ks:List ByteArray} {b:Int} (hn:0<=n/\n<18446744073709551616) (hs:s.size<9223372036854775808) (hl:l.length<=1000) (hk:ks.length<=1000) (hks:∀k∈ks,k.size<9223372036854775808) (h:∀v∈l,v.sn):(PV.mk n s l ks b).sn:=⟨by rw[PV.sm];exact⟨hn,hs,by omega,by omega,hks,qe8.2 λv hv=>(h v hv).1⟩,by rw[PV.nar];exact⟨hl,hk,qd4.2 λv hv=>(h v hv).2⟩⟩
theorem sn_of{n:Int} {s:ByteArray} {l:List PV} {ks:List ByteArray} {b:Int} (h:(PV.mk n s l ks b).sn):(0<=n/\n<18446744073709551616)/\s.size<9223372036854775808/\l.length<=1000/\ks.length<=1000/\(∀k∈ks,k.size<9223372036854775808)/\∀v∈l,v.sn:=by
 obtain⟨h1,h2⟩:=h
 rw[PV.sm]at h1
 rw[PV.nar]at h2
 exact⟨h1.1,h1.2.1,h2.1,h2.2.1,h1.2.2.2.2.1,λv hv=>⟨qe8.1 h1.2.2.2.2.2 v hv,qd4.1 h2.2.2 v hv⟩⟩
theorem q92{S:List AT} {f:Nat->Int}:∀{l:List PV} {i:Nat},(∀(j:Nat) (h:j<l.length),PV.fits S (f (i+j)) l[j]=true)->PV.fitL S f i l=true
  | [],i,h=>by rw[PV.fitL]
  | v ::l,i,h=>by
    rw[PV.fitL]
    have h0:=h 0 (by simp)
    have:=q92 (S:=S) (f:=f) (l:=l) (i:=i+1) λj hj=>by
      have:=h (j+1) (by simp;omega)
      rw[show i+1+j=i+(j+1)by omega];simpa using this
    rw[this]
    simpa using h0
theorem qkx{S:List AT} {f:Nat->Int} {t:Int} (hf:∀i,f i=t) {l:List PV} (h:∀v∈l,PV.fits S t v=true):PV.fitL S f 0 l=true:=
 q92 λj hj=>by rw[hf];exact h _ (List.getElem_mem hj)
theorem fits_N{S:List AT} {i:Nat} (hi:i<S.length) {n:Int} (hk:isN S[i].k=true) (h:okN S[i] n=true):PV.fits S i (.mk n (mkS []) [] [] 0)=true:=by
 rw[PV.fits,if_neg (by omega)]
 simp only[Int.toNat_natCast,List.getElem?_eq_getElem hi]
 rw[if_pos hk,h];rfl
theorem quj{S:List AT} {i:Nat} (hi:i<S.length) {s:ByteArray} (hk:isT S[i].k=true) (h:okT S[i] s=true):PV.fits S i (.mk 0 s [] [] 0)=true:=by
 have hn:isN S[i].k=false:=by
  unfold isT at hk;have:=of_decide_eq_true hk
  unfold isN;exact decide_eq_false (by omega)
 rw[PV.fits,if_neg (by omega)]
 simp only[Int.toNat_natCast,List.getElem?_eq_getElem hi]
 rw[if_neg (by rw[hn];decide),if_pos hk,h];rfl
theorem qkh{S:List AT} {i:Nat} (hi:i<S.length) {l:List PV} {ks:List ByteArray} {b:Int} (hk:isQ S[i].k=true) (h:okP S[i] l.length ks b=true) (hl:PV.fitL S (q2p S[i] b) 0 l=true):PV.fits S i (.mk 0 (mkS []) l ks b)=true:=by
 have hq:=hk
 unfold isQ at hq;have hq:=of_decide_eq_true hq
 have hn:isN S[i].k=false:=by unfold isN;exact decide_eq_false (by omega)
 have ht:isT S[i].k=false:=by unfold isT;exact decide_eq_false (by omega)
 rw[PV.fits,if_neg (by omega)]
 simp only[Int.toNat_natCast,List.getElem?_eq_getElem hi]
 rw[if_neg (by rw[hn];decide),if_neg (by rw[ht];decide),if_pos hk,h,hl];rfl
theorem qlc{S:List AT} {i:Nat} (hi:i<S.length) (hk:S[i].k=9) {l:List PV} (hl:l.length=S[i].fs.length) (h:∀(j:Nat) (h1:j<l.length) (h2:j<S[i].fs.length),PV.fits S (S[i].fs[j]).ty l[j]=true):PV.fits S i (.mk 0 (mkS []) l [] 0)=true:=by
 refine qkh hi (by unfold isQ;exact decide_eq_true (.inl hk)) ?_ (q92 λj hj=> ?_)
 ·unfold okP
  rw[if_neg (by simp),if_pos hk];exact decide_eq_true hl
 ·have e:q2p S[i] 0 (0+j)=(S[i].fs[j]'(by omega)).ty:=by
   unfold q2p
   rw[if_pos hk,Nat.zero_add,List.getElem?_eq_getElem (by omega)]
  rw[e];exact h j hj (by omega)
theorem qjc{S:List AT} {i:Nat} (hi:i<S.length) (hk:S[i].k=14) {b:Nat} (hb:b<S[i].brs.length) {v:PV} (h:PV.fits S (S[i].brs.getD b 0) v=true):PV.fits S i (.mk 0 (mkS []) [v] [] b)=true:=by
 refine qkh hi (by unfold isQ;exact decide_eq_true (by omega)) ?_ (q92 λj hj=> ?_)
 ·unfold okP
  rw[if_neg (by simp[hk]),if_neg (by omega),if_pos hk];exact decide_eq_true ⟨by omega,by omega,rfl⟩
 ·obtain rfl:j=0:=by simp at hj;exact hj
  have e:q2p S[i] (b:Int) (0+0)=S[i].brs.getD b 0:=by
   unfold q2p
   rw[if_neg (by omega),if_pos hk,Int.toNat_natCast]
  rw[e];exact h
theorem qk1{S:List AT} {i:Nat} (hi:i<S.length) (hk:S[i].k=12) {l:List PV} (h:∀v∈l,PV.fits S S[i].it v=true):PV.fits S i (.mk 0 (mkS []) l [] 0)=true:=by
 refine qkh hi (by unfold isQ;exact decide_eq_true (by omega)) ?_ (qkx (λj=> ?_) h)
 ·unfold okP
  rw[if_neg (by simp),if_neg (by omega),if_neg (by omega),if_neg (by omega)]
 ·unfold q2p
  rw[if_neg (by omega),if_neg (by omega)]
theorem qkq{S:List AT} {i:Nat} (hi:i<S.length) (hk:S[i].k=13) {l:List PV} {ks:List ByteArray} (hl:ks.length=l.length) (hks:q31 ks=true) (h:∀v∈l,PV.fits S S[i].it v=true):PV.fits S i (.mk 0 (mkS []) l ks 0)=true:=by
 refine qkh hi (by unfold isQ;exact decide_eq_true (by omega)) ?_ (qkx (λj=> ?_) h)
 ·unfold okP
  rw[if_neg (by omega),if_neg (by omega),if_neg (by omega),if_pos hk,hks,decide_eq_true hl.symm];rfl
 ·unfold q2p
  rw[if_neg (by omega),if_neg (by omega)]
def hdL(a:ByteArray):List ByteArray->Bool
 | []=>true
 |j::_=>q2y a j
theorem qap(a:ByteArray) (l:List ByteArray):q31 (a::l)=(vld a&&hdL a l&&q31 l):=by
 cases l with
 |nil=>rw[q31,hdL,q31];simp
 |cons j l=>rw[q31,hdL]
theorem qf1(k a:ByteArray) (l:List ByteArray):q4r k (a::l)=if q2y a k=true then a::q4r k l else if a=k then a::l else k::a::l:=by
 unfold q4r q3q
 rw[kIx]
 by_cases h:q2y a k=true
 ·rw[if_pos h,if_pos h]
  simp only[List.getElem?_cons_succ,List.take_succ_cons,List.drop_succ_cons]
  split<;>rfl
 ·rw[if_neg h,if_neg h]
  simp only[List.getElem?_cons_zero,List.take_zero,List.drop_zero,List.nil_append,decide_eq_true_eq,Option.some.injEq]
theorem putS_hd{a k:ByteArray} {l:List ByteArray} (h:q2y a k=true) (hl:hdL a l=true):hdL a (q4r k l)=true:=by
  cases l with
  |nil=>unfold q4r q3q;simp[kIx,hdL,h]
  | cons j l=>
    rw[qf1]
    split
    · exact hl
    · split
      · exact hl
      · exact h
theorem qjg{k:ByteArray} (hk:vld k=true):∀{l:List ByteArray},q31 l=true->q31 (q4r k l)=true
  | [],_=>by unfold q4r q3q;simp[kIx,q31,hk]
  | a ::l,h=>by
    have h0:=h
    rw[qap,Bool.and_eq_true,Bool.and_eq_true]at h
    obtain⟨⟨h1,h2⟩,h3⟩:=h
    rw[qf1]
    split
    next hl=>rw[qap,h1,putS_hd hl h2,qjg hk h3];rfl
    next hl=>
      split
      · exact h0
      next hne=>
        rw[qap,hk,h0]
        rw[hdL]
        rcases(qhg k a).2 (by simpa using hl)with g|g
        · rw[g];rfl
        · exact absurd g.symm hne
theorem putV_mem{k:ByteArray} {ks:List ByteArray} {l:List PV} {w v:PV} (h:v∈qgb k ks l w):v=w\/v∈l:=by
 unfold qgb at h
 split at h
 ·rcases List.mem_or_eq_of_mem_set h with h|h
  ·exact .inr h
  ·exact .inl h
 ·rcases List.mem_append.1 h with h|h
  ·exact .inr (List.mem_of_mem_take h)
  ·rcases List.mem_cons.1 h with h|h
   ·exact .inl h
   ·exact .inr (List.mem_of_mem_drop h)
theorem qy1{k:ByteArray} {ks:List ByteArray} {x:ByteArray} (h:x∈q4r k ks):x=k\/x∈ks:=by
 unfold q4r at h
 split at h
 ·exact .inr h
 ·rcases List.mem_append.1 h with h|h
  ·exact .inr (List.mem_of_mem_take h)
  ·rcases List.mem_cons.1 h with h|h
   ·exact .inl h
   ·exact .inr (List.mem_of_mem_drop h)
theorem putV_wt{k:ByteArray} {ks:List ByteArray} {l:List PV} {w:PV}:PV.wts (qgb k ks l w)<=PV.wts l+PV.wt w:=by
 unfold qgb
 split
 ·by_cases h:kIx k ks<l.length
  ·have:=qpq h w;omega
  ·rw[List.set_eq_of_length_le (by omega)];omega
 ·have:=q45 l (kIx k ks)
  rw[q4q,PV.wts];omega
theorem putS_kz{k:ByteArray} {ks:List ByteArray}:kzs (q4r k ks)<=kzs ks+k.size+10:=by
 unfold q4r
 split
 ·omega
 ·have:kzs (ks.take (kIx k ks))+kzs (ks.drop (kIx k ks))=kzs ks:=by rw[←q7c,List.take_append_drop]
  rw[q7c,kzs];omega
end
end Go.Proofs.Ytpanaicglidfjaa.Wd
