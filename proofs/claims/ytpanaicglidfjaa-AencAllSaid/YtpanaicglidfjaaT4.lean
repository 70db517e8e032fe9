/-
  What the functions do: contracts, and their questions answered. No condition but what its theorems ask.
-/
import Derived.Test.YtpanaicglidfjaaT3
import Derived.WalkKit
import Derived.ProofKit
import Derived.OpenShut
import Derived.ShutString
import Derived.ChangeOld
import Derived.Lib.SmallJoins
namespace Go.Proofs.Ytpanaicglidfjaa.Wd
open Go.Proofs.Ytpanaicglidfjaa.Eng Go.Proofs.Ytpanaicglidfjaa.Sen Go.RowKit
set_option linter.defProp false
set_option linter.unusedVariables false
set_option linter.unusedSimpArgs false
set_option maxRecDepth 1000000
open Go.Value (int string slice bool)
open Go.IntKind (i64 u64 u8 u32 i32)
open _root_.List (length take drop)
open _root_.ByteArray (size)
open _root_.Int (toNat)
noncomputable section
section
variable (x0:Nat->Option Obj) (x1 x2:Nat) (x3:FtS) (x4:Nat) (x5:Option Addr) (x6 x7:Nat) (x8:FtS) (x9:Option Addr) (x10:Nat) (x11 x12:Int) (x13:Prop)
 abbrev jc1:=x3.2.1.1=some (Addr.mk x1 (x2+nat_lit 0) none)/\x3.2.1.2.1=nat_lit 1/\x3.2.1.2.2=nat_lit 1/\x3.2.2.1=x11/\GV.n x3.2.2.2=x12/\GV.s x3.2.2.2=mkS []/\(GV.x x3.2.2.2).1=noA/\(GV.x x3.2.2.2).2.1=0/\(GV.x x3.2.2.2).2.2=0/\(GV.y x3.2.2.2).1=noA/\(GV.y x3.2.2.2).2.1=0/\(GV.y x3.2.2.2).2.2=0/\GV.b x3.2.2.2=0/\(small x3.1/\PV.sz (GV.pv x3.2.2.2)/\PV.wt (GV.pv x3.2.2.2)<90000000000000)/\x13
 def j0x:=True/\∀(i0:Nat) (i1:Value),[int i64 4,string (mkS []),slice noA 0 0,int i64 0,slice noA 0 0,bool false,string (mkS []),int i64 0,slice noA 0 0,slice noA 0 0][i0]? =some i1->q67 x0 (Addr.add (Addr.mk x1 x2 none) i0)=some i1
 abbrev j8n:=z2v x3.1 x3.2.2.1 (GV.pv x3.2.2.2)
 def j0c:=x1=size (j8n x3).2/\qhd x0 x5 x1 x2 (q19 (j8n x3).2)
 def jmw:=Ji ((j8n x3).1=0) (∃i0,size i0=x1/\(∀i1,((j0x i1 x2 x4)/\j0c i1 x1 x6 x3 x5)/\j0c i1 x7 x10 x8 x9->qhc i1 x5 (q19 i0))/\Ji (i0=mkS [1]) (true=decide ((j8n x8).1=1)/\True) (False)) (False)
end
def z9a(u:Unit):qki P (qfv [(21,z6j)]) Try.f20 z4t (zcs) u=(True->∀(b s u:Nat),(∃(p:Pub),True/\q3f p (Addr.mk b s none) [int i64 4,string (mkS []),slice noA 0 0,int i64 0,slice noA 0 0,bool false,string (mkS []),int i64 0,slice noA 0 0,slice noA 0 0])->∃(s_1:FtS),jc1 b s s_1 0 18446744073709551615 ((∀(p:Pub),(j0x p b s)->z05 s_1.1 s_1.2.1 p/\GV.ok s_1.2.2.2 p)/\∀(b_1:Unit),True->∀(a:Option Addr) (n c:Nat),(∃(p:Pub),(j0x p b s)/\j0c p n c s_1 a)->∃(s_2:FtS),jc1 b s s_2 1 0 ((∀(p:Pub),(j0x p b s)/\j0c p n c s_1 a->z05 s_2.1 s_2.2.1 p/\GV.ok s_2.2.2.2 p)/\∀(b_2:Unit),True->∀(a_3:Option Addr) (n_1 c_1:Nat),(∃(p:Pub),((j0x p b s)/\j0c p n c s_1 a)/\j0c p n_1 c_1 s_2 a_3)->jmw n b s_1 s a c n_1 s_2 a_3 c_1))):=by kernel_rfl
def zd5:=λu=>Eq.trans (z9a u) (by delta Ji Jt Jf jc1 j0x j8n j0c jmw;exact rfl)
section
variable (x0:AvB) (x1 x2:Int) (x3:SV) (x4:List Int) (x5:SV) (x6:List Int) (x7:List AT×(Option Addr×Nat×Nat)×Bool×Int) (x8:Int) (x9:Nat) (x10:FtS) (x11:Nat->Option Obj) (x12:Option Addr) (x13:Nat) (x14:FtS) (x15:GV) (x16:Nat) (x17:Option Addr) (x18 x19:Nat) (x20:FtS) (x21:Option Addr) (x22 x23:Nat) (x24:FtS) (x25:Option Addr) (x26 x27:Nat) (x28:FtS) (x29:Option Addr) (x30 x31:Nat) (x32:FtS) (x33:Option Addr) (x34:Nat) (x35:Prop) (x36:Option Addr×Nat×Nat)
 abbrev j0f:=x1<(↑x3.2.1:Int)
 def j0e:=x36.1=x3.1/\x36.2.1=x3.2.1/\x36.2.2=x3.2.2/\True/\x35
 def z94:=(True/\slP byV x3 x4 x11/\slP byV x5 x6 x11)/\z05 x7.1 x7.2.1 x11
 abbrev j0g:=slice x7.2.1.1 x7.2.1.2.1 x7.2.1.2.2
 def zb8:=x10.2.1.1=x7.2.1.1/\x10.2.1.2.1=x7.2.1.2.1/\x10.2.1.2.2=x7.2.1.2.2/\x35
 def j8p:=GV.n x10.2.2.2=GV.n x0.1/\GV.s x10.2.2.2=GV.s x0.1/\(GV.x x10.2.2.2).1=(GV.x x0.1).1/\(GV.x x10.2.2.2).2.1=(GV.x x0.1).2.1/\(GV.x x10.2.2.2).2.2=(GV.x x0.1).2.2/\(GV.y x10.2.2.2).1=(GV.y x0.1).1/\(GV.y x10.2.2.2).2.1=(GV.y x0.1).2.1/\(GV.y x10.2.2.2).2.2=(GV.y x0.1).2.2/\GV.b x10.2.2.2=GV.b x0.1/\x35
 def zl6:=PV.sz (GV.pv x10.2.2.2)/\PV.wt (GV.pv x10.2.2.2)<90000000000000
 def zb9:=z05 x10.1 x10.2.1 x11/\GV.ok x10.2.2.2 x11
 abbrev zl7:=z2v x10.1 x10.2.2.1 (GV.pv x10.2.2.2)
 def z4q:=x9=size (zl7 x10).2/\qhd x11 x12 x9 x13 (q19 (zl7 x10).2)
 def zlb:=(((z94 x3 x4 x5 x6 x7 x11)/\GV.ok x0.1 x11)/\GV.ok x15 x11)/\z4q x9 x10 x11 x12 x13
 def zr6:=(small x10.1/\z1k x10.1/\zl6 x10)
 def j0d:=x10.2.2.1=0/\GV.n x10.2.2.2=GV.n x15/\GV.s x10.2.2.2=GV.s x15/\(GV.x x10.2.2.2).1=(GV.x x15).1/\(GV.x x10.2.2.2).2.1=(GV.x x15).2.1/\(GV.x x10.2.2.2).2.2=(GV.x x15).2.2/\(GV.y x10.2.2.2).1=(GV.y x15).1/\(GV.y x10.2.2.2).2.1=(GV.y x15).2.1/\(GV.y x10.2.2.2).2.2=(GV.y x15).2.2/\GV.b x10.2.2.2=GV.b x15/\x35
 def z65:=((((zlb x0 x3 x4 x5 x6 x7 x9 x10 x11 x12 x13 x15)/\z4q x16 x14 x11 x17 x18)/\z4q x19 x20 x11 x21 x22)/\z4q x23 x24 x11 x25 x26)/\z4q x27 x28 x11 x29 x30
 abbrev zl5:=(zl7 x10).1=(zl7 x14).1
 def zr7:=(Jf (zl5 x10 x14)->true=false/\True)
 def j8o:=(Jt (zl5 x10 x14)->∃i0,size i0=x9/\(∀i1,(z65 x0 x3 x4 x5 x6 x7 x13 x20 i1 x12 x16 x24 x15 x18 x17 x19 x22 x28 x21 x23 x26 x32 x25 x27 x9 x10 x29 x30)/\z4q x31 x14 i1 x33 x34->qhc i1 x29 (q19 i0))/\∃i2,size i2=x31/\(∀i3,(z65 x0 x3 x4 x5 x6 x7 x13 x20 i3 x12 x16 x24 x15 x18 x17 x19 x22 x28 x21 x23 x26 x32 x25 x27 x9 x10 x29 x30)/\z4q x31 x14 i3 x33 x34->qhc i3 x33 (q19 i2))/\true=decide (i0=i2)/\True)/\zr7 x10 x14
 def jn2:=(Jt (zl5 x10 x14)->∃i0,size i0=x9/\(∀i1,(z65 x0 x3 x4 x5 x6 x7 x13 x20 i1 x12 x16 x24 x15 x18 x17 x19 x9 x10 x21 x22 x23 x14 x25 x26 x27 x28 x29 x30)/\z4q x31 x32 i1 x33 x34->qhc i1 x21 (q19 i0))/\∃i2,size i2=x23/\(∀i3,(z65 x0 x3 x4 x5 x6 x7 x13 x20 i3 x12 x16 x24 x15 x18 x17 x19 x9 x10 x21 x22 x23 x14 x25 x26 x27 x28 x29 x30)/\z4q x31 x32 i3 x33 x34->qhc i3 x25 (q19 i2))/\Ji (i0=i2) (j8o x0 x3 x4 x5 x6 x7 x27 x28 x12 x13 x32 x15 x16 x17 x18 x19 x20 x21 x9 x22 x24 x25 x23 x26 x10 x29 x30 x31 x14 x33 x34) (true=false/\True))/\zr7 x10 x14
 def jn1:=(Jt (zl5 x10 x14)->∃i0,size i0=x9/\(∀i1,(z65 x0 x3 x4 x5 x6 x7 x9 x10 i1 x12 x13 x14 x15 x16 x17 x18 x19 x20 x21 x22 x23 x24 x25 x26 x27 x28 x29 x30)/\z4q x31 x32 i1 x33 x34->qhc i1 x12 (q19 i0))/\∃i2,size i2=x16/\(∀i3,(z65 x0 x3 x4 x5 x6 x7 x9 x10 i3 x12 x13 x14 x15 x16 x17 x18 x19 x20 x21 x22 x23 x24 x25 x26 x27 x28 x29 x30)/\z4q x31 x32 i3 x33 x34->qhc i3 x17 (q19 i2))/\Ji (i0=i2) (jn2 x0 x3 x4 x5 x6 x7 x19 x20 x12 x9 x24 x15 x13 x17 x16 x18 x10 x21 x22 x23 x14 x25 x26 x27 x28 x29 x30 x31 x32 x33 x34) (true=false/\True))/\zr7 x10 x14
 def jmx:=((!x0.2.1)=true->true=true/\True)/\((!x0.2.1)=false->∃(i0:TuS),GV.n i0.1=GV.n x0.1/\GV.s i0.1=GV.s x0.1/\(GV.x i0.1).1=(GV.x x0.1).1/\(GV.x i0.1).2.1=(GV.x x0.1).2.1/\(GV.x i0.1).2.2=(GV.x x0.1).2.2/\(GV.y i0.1).1=(GV.y x0.1).1/\(GV.y i0.1).2.1=(GV.y x0.1).2.1/\(GV.y i0.1).2.2=(GV.y x0.1).2.2/\GV.b i0.1=GV.b x0.1/\i0.2.1=x1/\i0.2.2=x2/\((PV.sn (GV.pv i0.1)/\PV.wt (GV.pv i0.1)<100000000000000000)/\(0<=i0.2.1/\i0.2.1<256)/\0<=i0.2.2/\i0.2.2<18446744073709551616)/\(∀i1,(z94 x3 x4 x5 x6 x7 i1)/\GV.ok x0.1 i1->GV.ok i0.1 i1)/\∀(i2:GV),z2l i0.1 i2->(∃i3,((z94 x3 x4 x5 x6 x7 i3)/\GV.ok x0.1 i3)/\GV.ok i2 i3)->∃(i4:FtS),zb8 x7 i4 (i4.2.2.1=0/\j8p x0 i4 ((small i4.1/\zl6 i4)/\(∀i5,((z94 x3 x4 x5 x6 x7 i5)/\GV.ok x0.1 i5)/\GV.ok i2 i5->zb9 i4 i5)/\∀(i6:Unit),True->∀(i7:Option Addr) (i8 i9:Nat),(∃i10,zlb x0 x3 x4 x5 x6 x7 i8 i4 i10 i7 i9 i2)->∃(i11:FtS),zb8 x7 i11 (i11.2.2.1=0/\j8p x0 i11 (zr6 i11/\(∀i12,zlb x0 x3 x4 x5 x6 x7 i8 i4 i12 i7 i9 i2->zb9 i11 i12)/\∀(i13:Unit),True->∀(i14:Option Addr) (i15 i16:Nat),(∃i17,(zlb x0 x3 x4 x5 x6 x7 i8 i4 i17 i7 i9 i2)/\z4q i15 i11 i17 i14 i16)->∃(i18:FtS),zb8 x7 i18 (j0d i18 i2 ((small i18.1/\zl6 i18)/\(∀i19,(zlb x0 x3 x4 x5 x6 x7 i8 i4 i19 i7 i9 i2)/\z4q i15 i11 i19 i14 i16->zb9 i18 i19)/\∀(i20:Unit),True->∀(i21:Option Addr) (i22 i23:Nat),(∃i24,((zlb x0 x3 x4 x5 x6 x7 i8 i4 i24 i7 i9 i2)/\z4q i15 i11 i24 i14 i16)/\z4q i22 i18 i24 i21 i23)->∃(i25:FtS),zb8 x7 i25 (j0d i25 i2 (zr6 i25/\(∀i26,((zlb x0 x3 x4 x5 x6 x7 i8 i4 i26 i7 i9 i2)/\z4q i15 i11 i26 i14 i16)/\z4q i22 i18 i26 i21 i23->zb9 i25 i26)/\∀(i27:Unit),True->∀(i28:Option Addr) (i29 i30:Nat),(∃i31,(((zlb x0 x3 x4 x5 x6 x7 i8 i4 i31 i7 i9 i2)/\z4q i15 i11 i31 i14 i16)/\z4q i22 i18 i31 i21 i23)/\z4q i29 i25 i31 i28 i30)->∃(i32:FtS),zb8 x7 i32 (i32.2.2.1=x8/\j8p x0 i32 ((small i32.1/\zl6 i32)/\(∀i33,(((zlb x0 x3 x4 x5 x6 x7 i8 i4 i33 i7 i9 i2)/\z4q i15 i11 i33 i14 i16)/\z4q i22 i18 i33 i21 i23)/\z4q i29 i25 i33 i28 i30->zb9 i32 i33)/\∀(i34:Unit),True->∀(i35:Option Addr) (i36 i37:Nat),(∃i38,z65 x0 x3 x4 x5 x6 x7 i8 i4 i38 i7 i9 i11 i2 i15 i14 i16 i22 i18 i21 i23 i29 i25 i28 i30 i36 i32 i35 i37)->∃(i39:FtS),zb8 x7 i39 (i39.2.2.1=x8/\j8p x0 i39 (zr6 i39/\(∀i40,z65 x0 x3 x4 x5 x6 x7 i8 i4 i40 i7 i9 i11 i2 i15 i14 i16 i22 i18 i21 i23 i29 i25 i28 i30 i36 i32 i35 i37->zb9 i39 i40)/\∀(i41:Unit),True->∀(i42:Option Addr) (i43 i44:Nat),(∃i45,(z65 x0 x3 x4 x5 x6 x7 i8 i4 i45 i7 i9 i11 i2 i15 i14 i16 i22 i18 i21 i23 i29 i25 i28 i30 i36 i32 i35 i37)/\z4q i43 i39 i45 i42 i44)->jn1 x0 x3 x4 x5 x6 x7 i8 i4 i7 i9 i11 i2 i15 i14 i16 i22 i18 i21 i23 i29 i25 i28 i30 i36 i32 i35 i37 i43 i39 i42 i44)))))))))))))
 def jc2:=∃(i0:Option Addr×Nat×Nat),j0e x3 (AV.agg [AV.sv (j0g x7)]=AV.agg [AV.sv (j0g x7)]/\∃(i1:AvS),i1.2.1.1=x7.2.1.1/\i1.2.1.2.1=x7.2.1.2.1/\i1.2.1.2.2=x7.2.1.2.2/\i1.2.2.1=0/\i1.2.2.2.1=0/\i1.2.2.2.2.1.1=i0.1/\i1.2.2.2.2.1.2.1=i0.2.1/\i1.2.2.2.2.1.2.2=i0.2.2/\i1.2.2.2.2.2.2=0/\(z0a i1.1/\(0<=i1.2.2.1/\i1.2.2.1<(↑(length i1.1):Int))/\zff (atS i1.1 i1.2.2.1)/\(0<=i1.2.2.2.1/\i1.2.2.2.1<=6)/\0<=i1.2.2.2.2.2.2/\i1.2.2.2.2.2.2<=(↑(length i1.2.2.2.2.2.1):Int)/\z0g i1.2.2.2.2.2.1)/\(∀i2,z94 x5 x4 x3 x6 x7 i2->z05 i1.1 i1.2.1 i2/\slP byV i1.2.2.2.2.1 i1.2.2.2.2.2.1 i2)/\∀(i3:AvB),z0i i1.1 i1.2.2.1 i1.2.2.2.1 i1.2.2.2.2.2.1 i1.2.2.2.2.2.2 i3.1 i3.2.1 i3.2.2->(∃i4,(z94 x5 x4 x3 x6 x7 i4)/\GV.ok i3.1 i4)->jmx i3 x1 x2 x5 x4 x3 x6 x7 x8) i0
 def jn0:=(jc2 x1 x2 x3 x4 x5 x6 x7 x8)/\jc2 x1 x2 x3 x4 x5 x6 x7 x8
 def jmz:=((!x7.2.2.1)=true->true=true/\True)/\((!x7.2.2.1)=false->jn0 x1 x2 x3 x4 x5 x6 x7 x8)
 def jmy:=Ji (j0f 60 x3) (true=true/\True) (∃(i0:Option Addr×Nat×Nat),j0e x5 (∃(i1:RcS),i1.1.1=i0.1/\i1.1.2.1=i0.2.1/\i1.1.2.2=i0.2.2/\i1.2.2=0/\zdz i1/\(∀i2,True/\slP byV x5 x4 i2/\slP byV x3 x6 i2->slP byV i1.1 i1.2.1 i2)/\∀(i3:List AT×(Option Addr×Nat×Nat)×Bool×Int),z0a i3.1/\(i3.2.2.1=true->i3.1≠[])/\i1.2.2<=i3.2.2.2/\i3.2.2.2<=(↑(length i1.2.1):Int)->(∃i4,z94 x5 x4 x3 x6 i3 i4)->jmz x1 x2 x3 x4 x5 x6 i3 x8) i0)
end
def zh0(x:SV) (L:List Int) (y:SV) (M:List Int) (how n t:Int):qkk P (qfv [(20,z4t),(8,zsp),(21,z6j),(22,z6k)]) (qgy [(9,zsm),(14,z3r zff),(15,z34)]) Try.f6 zrb (zry) ⟨x,L,y,M,how,n,t⟩=(j8s L/\j8s M/\(0<=how/\how<256)/\0<=n/\n<18446744073709551616->(∃(p:Pub),True/\slP byV x L p/\slP byV y M p)->∃(s:Unit),True/\Ji (j0f 120 x) (true=true/\True) (jmy how n y L x M t)):=by kernel_rfl
def zmo:=λx L y M how n t=>Eq.trans (zh0 x L y M how n t) (by delta Ji Jt Jf j0f j0e z94 j0g zb8 j8p zl6 zb9 zl7 z4q zlb zr6 j0d z65 zl5 zr7 j8o jn2 jn1 jmx jc2 jn0 jmz jmy;exact rfl)
def S21:List AT:=[tK 4 0]
def nV:GV:= .mk 18446744073709551615 (mkS []) (none,0,0) [] (none,0,0) [] 0
def nP:PV:= .mk 18446744073709551615 (mkS []) [] [] 0
def ztu:nV.pv=nP:=by unfold nV;rw[GV.pv,GV.pvs];rfl
def ja5(p:Pub):nV.ok p:=by unfold nV GV.ok GV.oks;exact⟨z06,z06,trivial⟩
def zfh{p:Pub} {b s:Nat} (h:q3f p ⟨b,s,none⟩ (z00 AT.cells S21)):z05 S21 (some ⟨b,s+0,none⟩,1,1) p:=
 ⟨⟨rfl,Nat.le_refl _, .inr ⟨_,rfl,rfl,h⟩⟩,λe he=>by simp[S21]at he;rcases he with rfl;exact jaa _ _ _⟩
def z86:small S21:=⟨by decide,λe he=>by simp[S21]at he;rcases he with rfl;decide⟩
def ja4:nP.sn:=z38 (by decide) (by decide) (by decide) (by decide) (λk hk=>by cases hk) λv hv=>by cases hv
def jaj:zV.pv.sn:=by rw[z5d];exact z38 (by decide) (by decide) (by decide) (by decide) (λk hk=>by cases hk) λv hv=>by cases hv
def ja3:PV.fb S21 0 nP=mkS [1]:=by
 have:PV.fb S21 0 nP=vz (-1):=by rw[nP,PV.fb];rfl
 rw[this]
 unfold vz
 rw[show zg (-1)=1 from rfl,Go.Proofs.Ytpanaicglidfjaa.Rv.venc_lt (by decide)]
 rfl
def zd6:q58 P 20 z4t:=by
 refine qkl mixed (qdh (qh9 z8c qk5)) (W:=zcs) Try.func20 (by kernel_rfl) (by decide) (by decide) (λs=>by kernel_rfl) λ(u:Unit)=>(zd5 u).mpr ?_
 intro _ b s u _
 have E1:z2v S21 0 nV.pv=(0,mkS [1]):=by rw[ztu,zgc (by decide) (by decide+kernel),ja3];rfl
 have E2:z2v S21 1 zV.pv=(1,mkS []):=by unfold z2v;rw[if_pos (by decide)]
 have w1:nV.pv.wt<90000000000000:=by rw[ztu,nP,PV.wt,kzs,PV.wts];decide
 have w2:zV.pv.wt<90000000000000:=by rw[z5d,PV.wt,kzs,PV.wts];decide
 simp only[sbS,exists_const]
 refine⟨⟨S21,(some ⟨b,s+0,none⟩,1,1),0,nV⟩,rfl,rfl,rfl,rfl,rfl,rfl,rfl,rfl,rfl,rfl,rfl,rfl,rfl,⟨z86,by show nV.pv.sz;rw[ztu];exact ja4.sz,w1⟩,λp h=>⟨zfh h,ja5 p⟩,?_⟩
 intro _ _ a n c _
 refine⟨⟨S21,(some ⟨b,s+0,none⟩,1,1),1,zV⟩,rfl,rfl,rfl,rfl,rfl,rfl,rfl,rfl,rfl,rfl,rfl,rfl,rfl,⟨z86,jaj.sz,w2⟩,λp h=>⟨zfh h.1,z3m p⟩,?_⟩
 rintro _ _ a3 n1 c1 ⟨p,hp⟩
 rw[E1,E2]at hp
 simp only[E1,E2]
 refine⟨λ_=>⟨mkS [1],hp.1.2.1.symm,λq hq=> ?_,λ_=>rfl,λh=>h rfl⟩,λh=>h trivial⟩
 exact hq.1.2.2.2
def zmp:q58 P 6 zrb:=by
 refine qjs mixed (qdh (qh9 zd6 (qh9 ztm (qh9 z8c (qh9 zdf qk5))))) (qe7 (qh8 zsk (qh8 zlm (qh8 ze6 qk4)))) (W:=zry) Try.func6 (by kernel_rfl) (show 1<=1 by decide) (show 1<=1 by decide) (λs=>by kernel_rfl) λ⟨(x:SV),L,(y:SV),M,(how:Int),(n:Int),(t:Int)⟩=>(zmo x L y M how n t).mpr ?_
 rintro⟨⟨hL,hLb⟩,⟨hM,hMb⟩,⟨hh0,hh1⟩,hn0,hn1⟩ ⟨p,_,hx,hy⟩
 have hxl:x.2.1=L.length:=hx.1
 have hyl:y.2.1=M.length:=hy.1
 simp only[sbS,exists_const,forall_const,Int.toNat_natCast,hxl,hyl]
 refineλh120 h60=>⟨x,rfl,hxl,rfl,⟨x,L,0⟩,rfl,rfl,rfl,rfl,⟨by show(0:Int)<=0;decide,by show(0:Int)<=_;omega,by omega,hLb⟩,λq hq=>hq.1,?_⟩
 rintro⟨S,z,b,n'⟩ ⟨hS,hne, -, -⟩ ⟨p2,hp2,hz⟩
 refineλhb=>⟨?xa,?xb⟩
 case xa|xb=>
  have hS0:0<S.length:=List.length_pos_iff.2 (hne hb)
  refine⟨y,rfl,hyl,rfl,⟨S,z,0,0,y,M,0⟩,rfl,rfl,rfl,rfl,rfl,rfl,rfl,rfl,rfl,⟨hS,⟨by show(0:Int)<=0;decide,by show(0:Int)<(S.length:Int);omega⟩,trivial,⟨by show(0:Int)<=0;decide,by show(0:Int)<=6;decide⟩,by show(0:Int)<=0;decide,by show(0:Int)<=(M.length:Int);omega,by show M.length<1000000;omega,hMb⟩,λq hq=>⟨hq.2,hq.1.2⟩,?_⟩
  rintro⟨v,b2,n2⟩ hv _
  have hv:z0i S 0 0 M 0 v b2 n2:=hv
  obtain⟨v1,v2,v3,v4,v5⟩:=hv
  simp only
  intro hb2
  have hw0:avW 0+40<90000000000000:=by decide
  refine⟨⟨v,how,n⟩,rfl,rfl,rfl,rfl,rfl,rfl,rfl,rfl,rfl,rfl,rfl,⟨⟨v3,by show v.pv.wt<_;omega⟩,⟨hh0,hh1⟩,hn0,hn1⟩,λq hq=>hq.2,?_⟩
  rintro w ⟨w1,w2⟩ _
  have w2:w.pv.wt<=v.pv.wt+40:=w2
  have wv:v.pv.wt<90000000000000:=by omega
  have ww:w.pv.wt<90000000000000:=by omega
  have gs:=zdn hS
  have gk:=zdm hS
  refine⟨⟨S,z,0,v⟩,rfl,rfl,rfl,rfl,rfl,rfl,rfl,rfl,rfl,rfl,rfl,rfl,rfl,⟨gs,v3.sz,wv⟩,λq hq=>⟨hq.1.1.2,hq.1.2⟩,?_⟩
  intro a1 m1 c1 _
  refine⟨⟨S,z,0,v⟩,rfl,rfl,rfl,rfl,rfl,rfl,rfl,rfl,rfl,rfl,rfl,rfl,rfl,⟨gs,gk,v3.sz,wv⟩,λq hq=>⟨hq.1.1.1.2,hq.1.1.2⟩,?_⟩
  intro a2 m2 c2 _
  refine⟨⟨S,z,0,w⟩,rfl,rfl,rfl,rfl,rfl,rfl,rfl,rfl,rfl,rfl,rfl,rfl,rfl,⟨gs,w1,ww⟩,λq hq=>⟨hq.1.1.1.1.2,hq.1.1.2⟩,?_⟩
  intro a3 m3 c3 _
  refine⟨⟨S,z,0,w⟩,rfl,rfl,rfl,rfl,rfl,rfl,rfl,rfl,rfl,rfl,rfl,rfl,rfl,⟨gs,gk,w1,ww⟩,λq hq=>⟨hq.1.1.1.1.1.2,hq.1.1.1.2⟩,?_⟩
  intro a4 m4 c4 _
  refine⟨⟨S,z,t,v⟩,rfl,rfl,rfl,rfl,rfl,rfl,rfl,rfl,rfl,rfl,rfl,rfl,rfl,⟨gs,v3.sz,wv⟩,λq hq=>⟨hq.1.1.1.1.1.1.2,hq.1.1.1.1.1.2⟩,?_⟩
  intro a5 m5 c5 _
  refine⟨⟨S,z,t,v⟩,rfl,rfl,rfl,rfl,rfl,rfl,rfl,rfl,rfl,rfl,rfl,rfl,rfl,⟨gs,gk,v3.sz,wv⟩,λq hq=>⟨hq.1.1.1.1.1.1.1.2,hq.1.1.1.1.1.1.2⟩,?_⟩
  rintro a6 m6 c6 ⟨p6,hp⟩
  refine⟨λ_=>⟨_,hp.1.1.1.1.1.2.1.symm,λq hq=>hq.1.1.1.1.1.2.2.2,_,hp.1.1.1.1.2.1.symm,λq hq=>hq.1.1.1.1.2.2.2,⟨λ_=>⟨λ_=>⟨_,hp.1.1.1.2.1.symm,λq hq=>hq.1.1.1.2.2.2,_,hp.1.1.2.1.symm,λq hq=>hq.1.1.2.2.2,⟨λ_=>⟨λ_=>⟨_,hp.1.2.1.symm,λq hq=>hq.1.2.2.2,_,hp.2.1.symm,λq hq=>hq.2.2.2,(decide_eq_true rfl).symm⟩,λh=>absurd rfl h⟩,λh=>absurd rfl h⟩⟩,λh=>absurd rfl h⟩,λh=>absurd rfl h⟩⟩,λh=>absurd rfl h⟩
section
 open Go.ChangeShapes Go.WideShapes Go.ChangeAt Go.Joins Go.Deep
abbrev j8y(w:World):Pub:=q11 (λ_ b=>b<w.heap.size) w
variable {w:World} {a:Addr}
def zbm{v:Value} (h:w.cell? a=some v):q67 (j8y w) a=some v/\a.spot=none:=by
  unfold World.cell? at h
  cases ho:w.heap[a.block]? with
  |none=>rw[ho]at h;cases h
  | some o=>
    have hlt:a.block<w.heap.size:=(Array.getElem?_eq_some_iff.1 ho).1
    have hp:j8y w a.block=some o:=q04.2 ⟨hlt,ho⟩
    rw[ho]at h
    unfold q67
    rw[hp]
    cases o<;>simp only at h<;>first|cases h|skip
    cases hs:a.spot with
    |none=>rw[hs]at h;simp[qba,hs]at h⊢;exact h
    |some k=>rw[hs]at h;simp at h
def zda{p:Pub} {x y:List Value} (h1:q3f p a x) (h2:q3f p (a.add x.length) y):q3f p a (x++y):=λj v hj=>by
 by_cases hx:j<x.length
 ·rw[List.getElem?_append_left hx]at hj;exact h1 j v hj
 ·rw[List.getElem?_append_right (by omega)]at hj
  have:=h2 _ v hj
  rw[Addr.add_add,show x.length+(j- x.length)=j by omega]at this;exact this
def z8k{α:Type} {f:α->List Value} {p:Pub} {k:Nat}:∀(l:List α) (a:Addr),(∀g∈l,(f g).length=k)->(∀(i:Nat) (h:i<l.length),q3f p (a.add (i*k)) (f l[i]))->q3f p a (z00 f l)
  | [],a,_,_=>λj v hj=>by simp[z00]at hj
  | g::l,a,hf,h=>by
    have h0:=h 0 (by simp)
    have e:a.add (0*k)=a:=by unfold Addr.add;rw[if_pos (by omega)]
    rw[e]at h0
    show q3f p a (f g++z00 f l)
    refine zda h0 ?_
    rw[hf g List.mem_cons_self]
    refine z8k l (a.add k) (λg hg=>hf g (List.mem_cons_of_mem _ hg)) λi hi=> ?_
    have:=h (i+1) (by simp;omega)
    rw[Addr.add_add,show k+i*k=(i+1)*k by rw[Nat.succ_mul];omega]
    simpa using this
def ztc{f:Nat} {C:Ct} (h:q58 P f C) (s:C.σ) (vs:List Value) (ha:∀I,VRs I (C.args s) vs) (hh:C.h s=[]) (r:Value) (hr:C.r s= .sv r) (w:World) (hp:C.pre s) (hm:(C.mem s).ok (j8y w)):
  Calls P f ⟨vs⟩ w λe w'=>e= .returned r/\Below w.heap.size w w':=by
 obtain⟨h1,h2,_,h4⟩:=h
 obtain⟨h0,h1',e1,e2,h5⟩:=h4 s
 rw[hh]at e1
 cases e1
 refine(h5 (λ_ b=>b<w.heap.size) (λi=>if i=0 then some (0,0,0)else none) w vs (ha _) ⟨λid o b t h=> ?_,λid id' o o' b t t' h=> ?_,λid o b t h=> ?_⟩ (λ_ h=>h) (λ_ h=>h) hp hm (λi hi=>if_neg (by omega)) (if_pos rfl)).mono λe w' he=> ?_
 ·rw[T.get_e]at h;cases h
 ·rw[T.get_e]at h;cases h
 ·rw[T.get_e]at h;cases h
 obtain⟨z,I',rfl,hz,hg,_⟩:=he
 rw[hr]at hz
 cases hz
 exact⟨rfl,⟨hg.same.1,hg.same.2,hg.same.3,hg.size,λk hk=>hg.fr k hk⟩⟩
def zsf(w:World) (a:Option Addr) (len cap:Nat) (z:List Int):Prop:=(a=none/\len=0/\cap=0/\z=[])\/∃x,a=some x/\len<=cap/\cap<=maxLen/\z.length=cap/\(∀i,i<z.length->w.cell? (x.add i)=some (.int .u8 (z.getD i 0)))/\∀n∈z,(Lit.int .u8 n).wf=true
def zrp{a:Option Addr} {len cap:Nat} {z:List Int} (h:zsf w a len cap z):∃L:List Int,slP byV (a,len,cap) L (j8y w)/\L.length<9223372036854775808/\∀b∈L,0<=b/\b<256:=by
  rcases h with⟨rfl,rfl,rfl,rfl⟩|⟨x,rfl,hl,hm,hz,hc,hw⟩
  · exact⟨[],⟨rfl,Nat.le_refl _, .inl ⟨rfl,trivial⟩⟩,by simp,λb hb=>by cases hb⟩
  have hlen:(z.take len).length=len:=by rw[List.length_take];omega
  have hat:∀(i:Nat) (hi:i<(z.take len).length),w.cell? (x.add i)=some (.int .u8 (z.take len)[i]):=λi hi=>by
    have hiz:i<z.length:=by omega
    have:=hc i hiz
    rw[List.getD_eq_getElem?_getD,List.getElem?_eq_getElem hiz]at this
    simpa using this
  refine⟨z.take len,⟨hlen.symm,hl,?_⟩,by unfold maxLen at hm;omega,λb hb=> ?_⟩
  · by_cases h0:z.take len=[]
    · rw[h0];exact .inl ⟨rfl,trivial⟩
    · have hpos:0<(z.take len).length:=List.length_pos_iff.2 h0
      have e0:x.add 0=x:=by unfold Addr.add;rw[if_pos rfl]
      have hp0:=zbm (hat 0 hpos)
      rw[e0]at hp0
      refine .inr ⟨x,rfl,hp0.2,z8k (k:=1) _ x (λg _=>rfl) λi hi j v hj=> ?_⟩
      cases j with
      |succ j=>simp[byV]at hj
      | zero=>
        have:=(zbm (hat i hi)).1
        rw[Addr.add_add,show i*1+0=i by omega,this,←hj];rfl
  · have hw:=hw b (List.mem_of_mem_take hb)
    simp only[Lit.wf,Bool.and_eq_true,decide_eq_true_eq]at hw
    have h1:IntKind.min .u8=0:=by decide
    have h2:IntKind.max .u8=255:=by decide
    omega
def wf_u8{n:Int} (h:(Lit.int .u8 n).wf=true):0<=n/\n<256:=by
 simp only[Lit.wf,Bool.and_eq_true,decide_eq_true_eq]at h
 have h1:IntKind.min .u8=0:=by decide
 have h2:IntKind.max .u8=255:=by decide
 omega
def wf_u64{n:Int} (h:(Lit.int .u64 n).wf=true):0<=n/\n<18446744073709551616:=by
 simp only[Lit.wf,Bool.and_eq_true,decide_eq_true_eq]at h
 have h1:IntKind.min .u64=0:=by decide
 have h2:IntKind.max .u64=18446744073709551615:=by decide
 omega
end
def encAll_law_wf(a0:Option Addr) (len0 cap0:Nat) (z0:List Int) (a1:Option Addr) (len1 cap1:Nat) (z1:List Int) (a2 a3 a4:Int) (w:World) (w0:zsf w a0 len0 cap0 z0) (w1:zsf w a1 len1 cap1 z1) (w2:(Lit.int .u8 a2).wf=true) (w3:(Lit.int .u64 a3).wf=true) (w4:(Lit.int .i64 a4).wf=true):Calls P 6 #[.slice a0 len0 cap0, .slice a1 len1 cap1, .int .u8 a2, .int .u64 a3, .int .i64 a4] w λe w'=>e= .returned (.bool true)/\Below w.heap.size w w':=by
 obtain⟨L,hx,hL⟩:=zrp w0
 obtain⟨M,hy,hM⟩:=zrp w1
 exact ztc zmp ⟨(a0,len0,cap0),L,(a1,len1,cap1),M,a2,a3,a4⟩ [.slice a0 len0 cap0, .slice a1 len1 cap1, .int .u8 a2, .int .u64 a3, .int .i64 a4] (λI=> .cons (.sv _) (.cons (.sv _) (.cons (.sv _) (.cons (.sv _) (.cons (.sv _) .nil))))) rfl (.bool true) rfl w ⟨hL,hM,wf_u8 w2,(wf_u64 w3).1,(wf_u64 w3).2⟩ ⟨hx,hy⟩
end
end Go.Proofs.Ytpanaicglidfjaa.Wd
