/-
  What the functions do: contracts, and their questions answered. No condition but what its theorems ask.
-/
import Derived.Test.YtniogjgfomaicaaGreatT2
import Derived.Test.YtniogjgfomaicaaGreatSh
import Derived.WalkKit
import Derived.ProofKit
import Derived.OpenShut
import Derived.ShutString
import Derived.ChangeOld
import Derived.Lib.SmallJoins
namespace Go.Proofs.YtniogjgfomaicaaGreat.Wd
open Go.Proofs.YtniogjgfomaicaaGreat.Eng Go.Proofs.YtniogjgfomaicaaGreat.Sen Go.RowKit
set_option linter.defProp false
set_option linter.unusedVariables false
set_option linter.unusedSimpArgs false
set_option maxRecDepth 1000000
open Go.Value (int string slice bool)
open Go.IntKind (i64 u64 u8 u32 i32)
open _root_.List (length take drop)
open _root_.ByteArray (size)
open _root_.Int (toNat)
noncomputable section
section
variable (x0:Int) (x1:SV) (x2:List Int) (x3:Int) (x4:List ByteArray) (x5:Int) (x6:Nat) (x7:ByteArray) (x8:List Int) (x9:Nat) (x10:List Int) (x11:Nat->Option Obj) (x12:TrB) (x13:TrS) (x14:Nat) (x15:Option Addr) (x16:Prop) (x17:Nat) (x18:TrB)
 abbrev z2f:=x1.1=x1.1/\x1.2.1=x1.2.1/\x1.2.2=x1.2.2/\x16
 def zg2:=0<x0/\x0<1000000/\z0q x2
 def zbl:=(∀i0,True/\slP byV x1 x2 i0->slP byV (x1.1,x1.2.1,x1.2.2) x8 i0)
 def zg1:=z00 txV x4=z00 txV x4/\length x4=length x4/\(∀i0,True/\slP byV x1 x2 i0->True/\slP byV x1 x2 i0)/\x16
 def zky:=0<=x0/\x0<20/\(8<=x0->x3<=3/\x5<(↑(length x2):Int))
 def ztt:=(8:Int)≠0/\∃(i0:Int),x0=x0/\i0=Int.tmod (z0u x2 x3 20) 8/\z2f x1 (z06 x8 x3=z06 x2 x3/\zg1 x1 x8 x4 ((zky i0 x8 x0 x3)/\True))
 def zty:=GJ.k x12.1=4/\GJ.n x12.1=0/\GJ.s x12.1=x7/\(GJ.y x12.1).1=noA/\(GJ.y x12.1).2.1=0/\(GJ.y x12.1).2.2=0/\(GJ.x x12.1).1=noA/\(GJ.x x12.1).2.1=0/\(GJ.x x12.1).2.2=0/\x16
 def zu3:=z00 txV x12.2.2=z00 txV x4/\length x12.2.2=length x4/\z10 x2 x0 x4 x12/\(∀i0,True/\slP byV x1 x2 i0->GJ.ok x12.1 i0)/\True
 def j2e:=(0<=x0/\x0<(↑(nat_lit 8):Int))/\∃i0,qi8 [string (mkS [105,110,116]),string (mkS [108,111,110,103]),string (mkS [115,116,114,105,110,103]),string (mkS [98,121,116,101,115]),string (mkS [98,111,111,108,101,97,110]),string (mkS [110,117,108,108]),string (mkS [102,108,111,97,116]),string (mkS [100,111,117,98,108,101])] (nat_lit 0+toNat x0*1) [string i0]/\i0=i0/\True/\∃(i1:TrB),zty i0 i1 (z2f x1 (i1.2.1=z06 x2 x3/\zu3 x3 x1 x2 x4 i1))
 def zu7:=True/\Jb (x0+1)/\x16
 def zkw:=x13.1.1=x1.1/\x13.1.2.1=x1.2.1/\x13.1.2.2=x1.2.2/\x13.2.2.1=z06 x2 x0/\z00 txV x13.2.2.2.2=z00 txV x4/\length x13.2.2.2.2=length x4/\x16
 def zl0:=(∀i0,True/\slP byV x1 x2 i0->slP byV x13.1 x13.2.1 i0)
 def zg3:=∃i0,(True/\slP byV x1 x2 i0)/\GJ.ok x12.1 i0
 def zku:=((True/\slP byV x1 x2 x11)/\GJ.ok x12.1 x11)/\q3p x11 (Addr.mk x6 x9 none) [int i64 4,int i64 0,string (mkS [97,114,114,97,121]),slice noA 0 0,slice noA 0 0,int i64 (GJ.k x12.1),int i64 (GJ.n x12.1),string (GJ.s x12.1),slice (GJ.y x12.1).1 (GJ.y x12.1).2.1 (GJ.y x12.1).2.2,slice (GJ.x x12.1).1 (GJ.x x12.1).2.1 (GJ.x x12.1).2.2]
 abbrev zbm:=mkS [116,121,112,101]
 abbrev zu5:=q3p x11 (Addr.mk x6 x9 none) [string (zbm),string (mkS [105,116,101,109,115])]
 def zkz:=GJ.k x12.1=6/\GJ.n x12.1=0/\GJ.s x12.1=mkS []/\x16
 abbrev z8g:=Addr.mk x6 (x9+nat_lit 0) none
 def zu8:=x12.2.1=x18.2.1/\z00 txV x12.2.2=z00 txV x18.2.2/\length x12.2.2=length x18.2.2/\x16
 def zu0:=x1.1=x13.1.1/\x1.2.1=x13.1.2.1/\x1.2.2=x13.1.2.2/\zu8 x12 x16 x18
 def ztu:=zkz x12 ((GJ.y x12.1).1=some (z8g x6 x9)/\(GJ.y x12.1).2.1=nat_lit 2/\(GJ.y x12.1).2.2=nat_lit 2/\(GJ.x x12.1).1=some (z8g x14 x17)/\(GJ.x x12.1).2.1=nat_lit 2/\(GJ.x x12.1).2.2=nat_lit 2/\zu0 x1 x12 x13 x16 x18)
 def j2a:=True/\∀(i0 i1 i2:Nat),(∃i3,zku x1 x2 i0 i1 i3 x12)->∀(i4 i5 i6:Nat),(∃i7,(zku x1 x2 i0 i1 i7 x12)/\zu5 i4 i5 i7)->∃(i8:TrB),ztu x1 i0 i1 i8 x13 i4 (z10 x2 x0 x4 i8/\(∀i9,(zku x1 x2 i0 i1 i9 x12)/\zu5 i4 i5 i9->GJ.ok i8.1 i9)/\True) i5 x12
 def j28:=mkS [97,114,114,97,121]=mkS [97,114,114,97,121]/\zu7 x0 (∃(i0:TrS),i0.2.2.2.1=x0+1/\zkw x3 x1 x2 x4 i0 ((z4n i0<x6/\z2z 4 i0)/\zl0 x1 x2 i0/\∀(i2:TrB),z10 i0.2.1 i0.2.2.1 i0.2.2.2.2 i2->(zg3 x1 x2 i2)->j2a x3 x1 x2 x4 i2 i0))
 def zkv:=((True/\slP byV x1 x2 x11)/\GJ.ok x12.1 x11)/\q3p x11 (Addr.mk x6 x9 none) [int i64 4,int i64 0,string (mkS [109,97,112]),slice noA 0 0,slice noA 0 0,int i64 (GJ.k x12.1),int i64 (GJ.n x12.1),string (GJ.s x12.1),slice (GJ.y x12.1).1 (GJ.y x12.1).2.1 (GJ.y x12.1).2.2,slice (GJ.x x12.1).1 (GJ.x x12.1).2.1 (GJ.x x12.1).2.2]
 abbrev zu4:=q3p x11 (Addr.mk x6 x9 none) [string (zbm),string (mkS [118,97,108,117,101,115])]
 def j2b:=True/\∀(i0 i1 i2:Nat),(∃i3,zkv x1 x2 i0 i1 i3 x12)->∀(i4 i5 i6:Nat),(∃i7,(zkv x1 x2 i0 i1 i7 x12)/\zu4 i4 i5 i7)->∃(i8:TrB),ztu x1 i0 i1 i8 x13 i4 (z10 x2 x0 x4 i8/\(∀i9,(zkv x1 x2 i0 i1 i9 x12)/\zu4 i4 i5 i9->GJ.ok i8.1 i9)/\True) i5 x12
 def j29:=mkS [109,97,112]=mkS [109,97,112]/\zu7 x0 (∃(i0:TrS),i0.2.2.2.1=x0+1/\zkw x3 x1 x2 x4 i0 ((z4n i0<x6/\z2z 4 i0)/\zl0 x1 x2 i0/\∀(i2:TrB),z10 i0.2.1 i0.2.2.1 i0.2.2.2.2 i2->(zg3 x1 x2 i2)->j2b x3 x1 x2 x4 i2 i0))
 def ztv:=GJ.k x12.1=GJ.k x18.1/\GJ.n x12.1=GJ.n x18.1/\GJ.s x12.1=GJ.s x18.1/\(GJ.y x12.1).1=(GJ.y x18.1).1/\(GJ.y x12.1).2.1=(GJ.y x18.1).2.1/\(GJ.y x12.1).2.2=(GJ.y x18.1).2.2/\(GJ.x x12.1).1=(GJ.x x18.1).1/\(GJ.x x12.1).2.1=(GJ.x x18.1).2.1/\(GJ.x x12.1).2.2=(GJ.x x18.1).2.2/\x16
 def zl2:=0<=z06 x2 x0/\z06 x2 x0<=(↑(length x8):Int)/\x16
 def j2d:=Ji (0<(↑(length x4):Int)) (∃(i0:List Int),(↑(length x4):Int)=(↑(length x4):Int)/\z2f x1 (z06 x2 x0=z06 x2 x0/\(zl2 x0 x2 i0 (0<(↑(length x4):Int)/\(↑(length x4):Int)<1000000/\z0q i0))/\zbl x1 x2 i0/\(0<=z0u i0 (z06 x2 x0) (↑(length x4):Int)/\z0u i0 (z06 x2 x0) (↑(length x4):Int)<(↑(length x4):Int))/\∃i2,qi8 (z00 txV x4) (nat_lit 0+toNat (z0u i0 (z06 x2 x0) (↑(length x4):Int))*nat_lit 1) [string i2]/\i2=i2/\True/\AV.ssl (nat_lit 3) (nat_lit 0) (length x4) (nat_lit 1) (nat_lit 4)=AV.ssl (nat_lit 3) (nat_lit 0) (length x4) (nat_lit 1) (nat_lit 4)/\∃(i3:TrB),zty i2 i3 (z2f x1 (i3.2.1=z06 i0 (z06 x2 x0)/\zu3 x0 x1 x2 x4 i3)))) (∃(i5:Unit),x3=x3/\x5=x5/\z2f x1 (z06 x2 x0=z06 x2 x0/\zg1 x1 x2 x4 (14<=x5/\True)))
 def j2c:=Ji (x0=14) (j2d x3 x1 x2 x5 x4 x0) (∃(i7:Unit),x5=x5/\x0=x0/\z2f x1 (z06 x2 x3=z06 x2 x3/\zg1 x1 x2 x4 (14<=x0/\True)))
 def jg7:=Ji (x0<14) (∃(i0:TrS),i0.2.2.2.1=x3/\zkw x5 x1 x2 x4 i0 ((z4n i0<x6+1/\z2z 3 i0)/\zl0 x1 x2 i0/\∀(i2:TrB),z10 i0.2.1 i0.2.2.1 i0.2.2.2.2 i2->(zg3 x1 x2 i2)->∃(i4:TrB),ztv i4 (zu0 x1 i4 i0 (z10 x2 x5 x4 i4/\(∀i5,(True/\slP byV x1 x2 i5)/\GJ.ok i2.1 i5->GJ.ok i4.1 i5)/\True) i2) i2)) (j2c x0 x1 x2 x5 x4 x3)
 def jg4:=Ji (x0=10) (j29 x3 x1 x2 x5 x4 x6) (jg7 x0 x1 x2 x3 x4 x5 x6)
 def jg3:=Ji (x0<10) (j28 x3 x1 x2 x5 x4 x6) (jg4 x0 x1 x2 x3 x4 x5 x6)
 def zkt:=(True/\slP byV x1 x2 x11)/\q3p x11 (Addr.mk x6 x9 none) [int i64 4,int i64 0,string (mkS [102,105,120,101,100]),slice noA 0 0,slice noA 0 0,int i64 4,int i64 0,string (mkS [78]++x7),slice noA 0 0,slice noA 0 0,int i64 3,int i64 (z0u x8 (z06 x2 x0) 4),string (mkS []),slice noA 0 0,slice noA 0 0]
 abbrev zl1:=mkS [110,97,109,101]
 abbrev zu2:=q3p x11 (Addr.mk x6 x9 none) [string (zbm),string (zl1),string (mkS [115,105,122,101])]
 def ztx:=zkz x12 ((GJ.y x12.1).1=some (z8g x6 x9)/\(GJ.y x12.1).2.1=nat_lit 3/\(GJ.y x12.1).2.2=nat_lit 3/\(GJ.x x12.1).1=some (z8g x14 x17)/\(GJ.x x12.1).2.1=nat_lit 3/\(GJ.x x12.1).2.2=nat_lit 3/\x16)
 def zkx:=z00 txV x12.2.2=z00 txV x4++[string (mkS [78]++x7)]/\length x12.2.2=length x4+nat_lit 1/\z10 x2 x0 x4 x12/\x16
 def jg6:=mkS [102,105,120,101,100]=mkS [102,105,120,101,100]/\True/\mkS [78]++x7=mkS [78]++x7/\True/\∃(i0:List Int),(4:Int)=4/\z2f x1 (z06 x2 x0=z06 x2 x0/\(zl2 x0 x2 i0 (zg2 4 i0))/\zbl x1 x2 i0/\True/\∀(i2 i3 i4:Nat),(∃i5,zkt x0 x1 x2 i2 x7 i0 i3 i5)->∀(i6 i7 i8:Nat),(∃i9,(zkt x0 x1 x2 i2 x7 i0 i3 i9)/\zu2 i6 i7 i9)->∃(i10:TrB),ztx i2 i3 i10 i6 (z2f x1 (i10.2.1=z06 i0 (z06 x2 x0)/\zkx x0 x2 x4 x7 i10 ((∀i11,(zkt x0 x1 x2 i2 x7 i0 i3 i11)/\zu2 i6 i7 i11->GJ.ok i10.1 i11)/\True))) i7)
 def zg0:=(True/\slP byV x1 x2 x11)/\q3p x11 (Addr.mk x6 x9 none) [int i64 4,int i64 0,string (mkS [88]),slice noA 0 0,slice noA 0 0,int i64 4,int i64 0,string (mkS [89]),slice noA 0 0,slice noA 0 0,int i64 4,int i64 0,string (mkS [90]),slice noA 0 0,slice noA 0 0]
 abbrev zu1:=Int.rec (λ(i0:Nat)=>(λ(i1:Nat)=>(λ(i2:Nat)=>i2) i1) i0) (λ(i3:Nat)=>(λ(i4:Nat)=>(λ(i5:Nat)=>(0:Nat)) i4) i3) ((1:Int)+z0u x2 (z06 x8 x0) 3)- nat_lit 0
 def zkr:=(zg0 x1 x2 x6 x9 x11)/\nat_lit 4<=x14/\qik x11 x15 (take (nat_lit 4*nat_lit 5) ([int i64 4,int i64 0,string (mkS [101,110,117,109]),slice noA 0 0,slice noA 0 0,int i64 4,int i64 0,string (mkS [78]++x7),slice noA 0 0,slice noA 0 0,int i64 5,int i64 0,string (mkS []),slice (slA (some (z8g x6 x9)) (nat_lit 3) (nat_lit 0) 5) (zu1 x0 x8 x2) (nat_lit 3- nat_lit 0),slice noA 0 0]++[int i64 4,int i64 0,string (mkS [88]),slice noA 0 0,slice noA 0 0]))
 abbrev zu6:=mkS [115,121,109,98,111,108,115]
 abbrev ztw:=take (nat_lit 4*nat_lit 1) ([string (zbm),string (zl1),string (zu6)]++[string (mkS [100,101,102,97,117,108,116])])
 def jg5:=(nat_lit 3+1)*16<=140737488355328/\mkS [88]=mkS [88]/\True/\(nat_lit 3+1)*80<=140737488355328/\∀(i0 i1 i2:Nat) (i3:Option Addr) (i4 i5:Nat),(∃i6,zkr x0 x1 x2 x6 x7 x8 x9 i6 i5 i3)->∀(i13 i14 i15:Nat) (i16:Option Addr) (i17 i18:Nat),(∃i19,(zkr x0 x1 x2 x6 x7 x8 x9 i19 i5 i3)/\nat_lit 4<=i18/\qik i19 i16 (ztw))->∃(i26:TrB),zkz i26 ((GJ.y i26.1).1=i3/\(GJ.y i26.1).2.1=nat_lit 4/\(GJ.y i26.1).2.2=i5/\(GJ.x i26.1).1=i16/\(GJ.x i26.1).2.1=nat_lit 4/\(GJ.x i26.1).2.2=i18/\z2f x1 (i26.2.1=z06 x10 (z06 x8 (z06 x2 x0))/\zkx x0 x2 x4 x7 i26 ((∀i27,(zkr x0 x1 x2 x6 x7 x8 x9 i27 i5 i3)/\nat_lit 4<=i18/\qik i27 i16 (ztw)->GJ.ok i26.1 i27)/\True)))
 def zks:=(zg0 x1 x2 x6 x9 x11)/\q3p x11 (Addr.mk x14 x17 none) [int i64 4,int i64 0,string (mkS [101,110,117,109]),slice noA 0 0,slice noA 0 0,int i64 4,int i64 0,string (mkS [78]++x7),slice noA 0 0,slice noA 0 0,int i64 5,int i64 0,string (mkS []),slice (slA (some (z8g x6 x9)) (nat_lit 3) (nat_lit 0) 5) (zu1 x0 x8 x2) (nat_lit 3- nat_lit 0),slice noA 0 0]
 abbrev ztz:=q3p x11 (Addr.mk x6 x9 none) [string (zbm),string (zl1),string (zu6)]
 def jg2:=nat_lit 3<=nat_lit 3/\((0:Int)<=1+z0u x2 (z06 x8 x0) 3/\(1:Int)+z0u x2 (z06 x8 x0) (3:Int)<=(↑(nat_lit 3):Int))/\mkS [101,110,117,109]=mkS [101,110,117,109]/\True/\mkS [78]++x7=mkS [78]++x7/\True/\True/\∃(i0:List Int),(2:Int)=2/\z2f x1 (z06 x2 (z06 x8 x0)=z06 x2 (z06 x8 x0)/\(0<=z06 x2 (z06 x8 x0)/\z06 x2 (z06 x8 x0)<=(↑(length i0):Int)/\zg2 2 i0)/\(∀i1,zg0 x1 x8 x6 x9 i1->slP byV (x1.1,x1.2.1,x1.2.2) i0 i1)/\Ji (z0u i0 (z06 x2 (z06 x8 x0)) (2:Int)=0) (jg5 x0 x1 x8 x4 x6 x7 x2 x9 i0) (∀(i36 i37 i38:Nat),(∃i39,zks x0 x1 x8 x6 x7 x2 x9 i39 i36 i37)->∀(i46 i47 i48:Nat),(∃i49,(zks x0 x1 x8 x6 x7 x2 x9 i49 i36 i37)/\ztz i46 i47 i49)->∃(i56:TrB),ztx i36 i37 i56 i46 (z2f x1 (i56.2.1=z06 i0 (z06 x2 (z06 x8 x0))/\zkx x0 x8 x4 x7 i56 ((∀i57,(zks x0 x1 x8 x6 x7 x2 x9 i57 i36 i37)/\ztz i46 i47 i57->GJ.ok i56.1 i57)/\True))) i47))
 def jg1:=mkS [88]=mkS [88]/\True/\mkS [89]=mkS [89]/\True/\mkS [90]=mkS [90]/\True/\∃(i0:List Int),(3:Int)=3/\z2f x1 (z06 x2 x0=z06 x2 x0/\(zl2 x0 x2 i0 (zg2 3 i0))/\zbl x1 x2 i0/\((-9223372036854775808:Int)<=1+z0u i0 (z06 x2 x0) 3/\(1:Int)+z0u i0 (z06 x2 x0) (3:Int)<=9223372036854775807)/\∀(i2 i3 i4:Nat),(∃i5,zg0 x1 x2 i2 i3 i5)->jg2 x0 x1 i0 x4 i2 x7 x2 i3)
 def jg0:=Ji (x0=16) (jg1 x3 x1 x2 x4 x7) (∃(i70:ByteArray×TrS),i70.1=mkS [78]++x7/\i70.2.2.2.2.1=x5/\i70.2.1.1=x1.1/\i70.2.1.2.1=x1.2.1/\i70.2.1.2.2=x1.2.2/\i70.2.2.2.1=z06 x2 x3/\z00 txV i70.2.2.2.2.2=z00 txV x4++[string (mkS [78]++x7)]/\length i70.2.2.2.2.2=length x4+nat_lit 1/\(zou i70<x6+1/\size i70.1<100/\z2z 3 i70.2)/\(∀i71,True/\slP byV x1 x2 i71->slP byV i70.2.1 i70.2.2.1 i71)/\∀(i72:TrB),z10 i70.2.2.1 i70.2.2.2.1 i70.2.2.2.2.2 i72->(zg3 x1 x2 i72)->∃(i74:TrB),ztv i74 (x1.1=i70.2.1.1/\x1.2.1=i70.2.1.2.1/\x1.2.2=i70.2.1.2.2/\zu8 i74 (z10 x2 x3 x4 i74/\(∀i75,(True/\slP byV x1 x2 i75)/\GJ.ok i72.1 i75->GJ.ok i74.1 i75)/\True) i72) i72)
 def jfz:=(26:Int)≠0/\((-9223372036854775808:Int)<=97+Int.tmod (↑(length x4):Int) 26/\(97:Int)+Int.tmod (↑(length x4):Int) (26:Int)<=9223372036854775807)/\∃i0,size i0=1/\qi8 [int u8 (IntKind.wrap u8 ((97:Int)+Int.tmod (↑(length x4):Int) 26))] 0 (q1h i0)/\size (mkS [78])+size i0<=9223372036854775807/\length (z00 txV x4)=length x4*1/\(length x4+nat_lit 1)*16<=140737488355328/\Ji (x0=15) (jg6 x3 x1 x2 x4 i0) (jg0 x0 x1 x2 x3 x4 x5 x6 i0)
 def jfy:=(Ji (x0<8) (j2e x0 x1 x2 x3 x4) (jg3 x0 x1 x2 x5 x4 x3 x6))/\∀(i46:Unit),14<=x0->jfz x0 x1 x2 x3 x4 x5 x6
end
def ziz(c:Nat) (x:SV) (L:List Int) (n d:Int) (N:List ByteArray):qm3 P (qh2 [(23,zw0),(22,znv),(72,zad),(71,z4y)]) (qi5 [(70,z4m.below z4n c),(106,z91.below z4n (c+1)),(33,z1q.below zou (c+1))]) Go.Proofs.Tryz.f70 (z4m.below z4n (c+1)) (zyc) ⟨x,L,n,d,N⟩=(z4n (x,L,n,d,N)<c+1/\z2z 4 (x,L,n,d,N)->(∃(p:Pub),True/\slP byV x L p)->∃(b:List Int),(20:Int)=20/\z2f x (n=n/\(0<=n/\n<=(↑(length b):Int)/\zg2 20 b)/\zbl x L b/\(Ji (3<d) (ztt d x b n N L) (∃(b_1:List Int),z2f x (z06 b n=z06 b n/\True/\zbl x L b_1/\Ji ((↑(length b_1):Int)<=z06 b n) (ztt d x b n N L) (∃(s:Int),d=d/\s=z0u b n 20/\z2f x (z06 L n=z06 b n/\zg1 x L N ((zky s L d n)/\True))))))/\∀(s:Int),zky s L d n->jfy s x L n N d c)):=by kernel_rfl
def zpw:=λc x L n d N=>Eq.trans (ziz c x L n d N) (by delta Ji Jb Jt Jf z2f zg2 zbl zg1 zky ztt zty zu3 j2e zu7 zkw zl0 zg3 zku zbm zu5 zkz z8g zu8 zu0 ztu j2a j28 zkv zu4 j2b j29 ztv zl2 j2d j2c jg7 jg4 jg3 zkt zl1 zu2 ztx zkx jg6 zg0 zu1 zkr zu6 ztw jg5 zks ztz jg2 jg1 jg0 jfz jfy;exact rfl)
section
variable (x0:SV) (x1:Int) (x2:List Int) (x3:Int) (x4:List ByteArray) (x5:Nat) (x6:TrB) (x7:ByteArray) (x8:TrS) (x9:List Int) (x10:TrB) (x11:Prop) (x12:Nat->Option Obj) (x13:Option Addr) (x14:Nat)
 abbrev zub:=(2:Int)=2/\x0.1=x0.1/\x0.2.1=x0.2.1/\x0.2.2=x0.2.2/\x11
 def zud:=(∀i0,True/\slP byV x0 x2 i0->slP byV (x0.1,x0.2.1,x0.2.2) x9 i0)
 abbrev zuf:=Jb (x1+1)
 def zuc:=x8.2.2.2.1=x1+1/\x8.1.1=x0.1/\x8.1.2.1=x0.2.1/\x8.1.2.2=x0.2.2/\x11
 def zua:=z00 txV x8.2.2.2.2=z00 txV x4/\length x8.2.2.2.2=length x4/\(z4n x8<x5/\z2z 4 x8)/\(∀i0,True/\slP byV x0 x2 i0->slP byV x8.1 x8.2.1 i0)/\x11
 def z75:=(True/\slP byV x0 x2 x12)/\GJ.ok x6.1 x12
 abbrev zg5:=mkS [110,117,108,108]
 abbrev j4l:=[int i64 4,int i64 0,string (zg5),slice noA 0 0,slice noA 0 0]++[int i64 4,int i64 0,string x7,slice noA 0 0,slice noA 0 0]
 def j6z:=(z75 x0 x2 x6 x12)/\nat_lit 3<=x5/\qik x12 x13 (take (nat_lit 3*nat_lit 5) ([int i64 4,int i64 0,string (zg5),slice noA 0 0,slice noA 0 0]++[int i64 4,int i64 0,string x7,slice noA 0 0,slice noA 0 0]++[int i64 (GJ.k x6.1),int i64 (GJ.n x6.1),string (GJ.s x6.1),slice (GJ.y x6.1).1 (GJ.y x6.1).2.1 (GJ.y x6.1).2.2,slice (GJ.x x6.1).1 (GJ.x x6.1).2.1 (GJ.x x6.1).2.2]))
 def zg4:=GJ.k x6.1=5/\GJ.n x6.1=0/\GJ.s x6.1=mkS []/\x11
 def j2f:=(GJ.x x6.1).1=noA/\(GJ.x x6.1).2.1=0/\(GJ.x x6.1).2.2=0/\x0.1=x8.1.1/\x0.2.1=x8.1.2.1/\x0.2.2=x8.1.2.2/\x6.2.1=x10.2.1/\z00 txV x6.2.2=z00 txV x10.2.2/\length x6.2.2=length x10.2.2/\z10 x2 x1 x4 x6/\x11
 def jgc:=length (j4l x7)=nat_lit 2*5/\(nat_lit 2+nat_lit 1)*80<=140737488355328/\∀(i0 i1 i2:Nat) (i3:Option Addr) (i4 i5:Nat),(∃i6,j6z x0 x2 i5 x6 x7 i6 i3)->∃(i7:TrB),zg4 i7 ((GJ.y i7.1).1=i3/\(GJ.y i7.1).2.1=nat_lit 3/\(GJ.y i7.1).2.2=i5/\j2f x0 x1 x2 x4 i7 x8 x6 ((∀i8,j6z x0 x2 i5 x6 x7 i8 i3->GJ.ok i7.1 i8)/\True))
 def zue:=(GJ.y x6.1).1=x13/\(GJ.y x6.1).2.1=nat_lit 2/\(GJ.y x6.1).2.2=x5/\x11
 def jg9:=Ji (GJ.k x6.1=6) (jgc x0 x1 x2 x4 x6 x7 x8) (∀(i9 i10 i11:Nat) (i12:Option Addr) (i13 i14:Nat),(∃i15,(z75 x0 x2 x6 i15)/\nat_lit 2<=i14/\qik i15 i12 (take (nat_lit 2*nat_lit 5) (j4l x7)))->∃(i16:TrB),zg4 i16 (zue i14 i16 (j2f x0 x1 x2 x4 i16 x8 x6 ((∀i17,(z75 x0 x2 x6 i17)/\nat_lit 2<=i14/\qik i17 i12 (take (nat_lit 2*nat_lit 5) (j4l x7))->GJ.ok i16.1 i17)/\True)) i12))
 def j70:=(z75 x0 x2 x6 x12)/\nat_lit 2<=x5/\qik x12 x13 (take (nat_lit 2*nat_lit 5) ([int i64 4,int i64 0,string (zg5),slice noA 0 0,slice noA 0 0]++[int i64 (GJ.k x6.1),int i64 (GJ.n x6.1),string (GJ.s x6.1),slice (GJ.y x6.1).1 (GJ.y x6.1).2.1 (GJ.y x6.1).2.2,slice (GJ.x x6.1).1 (GJ.x x6.1).2.1 (GJ.x x6.1).2.2]))
 def jgd:=(nat_lit 1+1)*80<=140737488355328/\∀(i0 i1 i2:Nat) (i3:Option Addr) (i4 i5:Nat),(∃i6,j70 x0 x2 i5 x6 i6 i3)->∃(i7:TrB),zg4 i7 (zue i5 i7 (j2f x0 x1 x2 x4 i7 x8 x6 ((∀i8,j70 x0 x2 i5 x6 i8 i3->GJ.ok i7.1 i8)/\True)) i3)
 def zu9:=(z75 x0 x2 x6 x12)/\q3p x12 (Addr.mk x5 x14 none) [int i64 4,int i64 0,string (zg5),slice noA 0 0,slice noA 0 0]
 def jgb:=Ji (GJ.k x6.1=6) (jgd x0 x1 x2 x4 x6 x8) (∀(i9 i10 i11:Nat),(∃i12,zu9 x0 x2 i9 x6 i12 i10)->∃(i13:TrB),zg4 i13 ((GJ.y i13.1).1=some (Addr.mk i9 (i10+nat_lit 0) none)/\(GJ.y i13.1).2.1=nat_lit 1/\(GJ.y i13.1).2.2=nat_lit 1/\j2f x0 x1 x2 x4 i13 x8 x6 ((∀i14,zu9 x0 x2 i9 x6 i14 i10->GJ.ok i13.1 i14)/\True)))
 def jga:=zuf x1/\∃(i0:TrS),zuc x0 x1 i0 (i0.2.2.1=z06 x2 x3/\zua x0 x9 x4 x5 i0 (∀(i2:TrB),z10 i0.2.1 i0.2.2.1 i0.2.2.2.2 i2->(∃i3,z75 x0 x9 i2 i3)->jgb x0 x3 x9 x4 i2 i0))
 def jg8:=mkS [110,117,108,108]=mkS [110,117,108,108]/\True/\∃(i0:List Int),zub x0 (x1=x1/\(0<=x1/\x1<=(↑(length i0):Int)/\(0:Int)<2/\(2:Int)<1000000/\z0q i0)/\zud x0 x2 i0/\Ji (z0u i0 x1 (2:Int)=0) (∃(i2:List Int),zub x0 (z06 i0 x1=z06 i0 x1/\(0<=z06 i0 x1/\z06 i0 x1<=(↑(length i2):Int)/\(0:Int)<2/\(2:Int)<1000000/\z0q i2)/\zud x0 x2 i2/\(0<=z0u i2 (z06 i0 x1) 2/\z0u i2 (z06 i0 x1) (2:Int)<(↑(2:Nat):Int))/\∃i4,qi8 [string (mkS [105,110,116]),string (mkS [115,116,114,105,110,103])] ((0:Nat)+toNat (z0u i2 (z06 i0 x1) 2)*1) [string i4]/\i4=i4/\True/\(nat_lit 1+1)*80<=140737488355328/\zuf x3/\∃(i5:TrS),zuc x0 x3 i5 (i5.2.2.1=z06 i2 (z06 i0 x1)/\zua x0 x2 x4 x5 i5 (∀(i7:TrB),z10 i5.2.1 i5.2.2.1 i5.2.2.2.2 i7->(∃i8,z75 x0 x2 i7 i8)->jg9 x0 x1 x2 x4 i7 i4 i5)))) (jga x0 x3 i0 x1 x4 x5 x2))
end
def zec(c:Nat) (x:SV) (L:List Int) (n d:Int) (N:List ByteArray):qm3 P (qh2 [(23,zw0),(72,zad)]) (qi5 [(70,z4m.below z4n c)]) Go.Proofs.Tryz.f106 (z91.below z4n (c+1)) (zn3) ⟨x,L,n,d,N⟩=(z4n (x,L,n,d,N)<c+1/\z2z 3 (x,L,n,d,N)->(∃(p:Pub),True/\slP byV x L p)->jg8 x n L d N c):=by kernel_rfl
def union_eq:=λc x L n d N=>Eq.trans (zec c x L n d N) (by delta Ji Jb Jt Jf zub zud zuf zuc zua z75 zg5 j4l j6z zg4 j2f jgc zue jg9 j70 jgd zu9 jgb jga jg8;exact rfl)
section
variable (x0:RlS) (x1:List Int) (x2 x3:Int) (x4:SV) (x5:Nat) (x6:List Int) (x7:ByteArray) (x8:List ByteArray) (x9:TrB) (x10:TrS) (x11:ByteArray) (x12:List Int) (x13:List Int×GJ) (x14 x15:Option Addr) (x16:Nat) (x17:Nat->Option Obj) (x18 x19:Nat) (x20:Prop) (x21:RlS)
 abbrev zl6:=x4.1=x4.1/\x4.2.1=x4.2.1/\x4.2.2=x4.2.2/\x20
 def z66:=(True/\slP byV x4 x1 x17)/\GJ.oks x0.2.2.2 x17
 abbrev zum:=slice (GJ.y x9.1).1 (GJ.y x9.1).2.1 (GJ.y x9.1).2.2
 abbrev zun:=slice (GJ.x x9.1).1 (GJ.x x9.1).2.1 (GJ.x x9.1).2.2
 def zug:=AV.agg [AV.sv (int i64 (GJ.k x9.1)),AV.sv (int i64 (GJ.n x9.1)),AV.sv (string (GJ.s x9.1)),AV.sv (zum x9),AV.sv (zun x9)]=AV.agg [AV.sv (int i64 (GJ.k x9.1)),AV.sv (int i64 (GJ.n x9.1)),AV.sv (string (GJ.s x9.1)),AV.sv (zum x9),AV.sv (zun x9)]
 def zuk:=x10.1.1=x10.1.1/\x10.1.2.1=x10.1.2.1/\x10.1.2.2=x10.1.2.2/\x20
 def j2g:=slP byV (x10.1.1,x10.1.2.1,x10.1.2.2) x13.1 x17/\GJ.ok x13.2 x17
 abbrev zg6:=z2j x13.2 x13.1 (z06 x1 x9.2.1)
 def j2h:=((z66 x0 x1 x4 x17)/\GJ.ok x9.1 x17)/\nat_lit 3<=x5/\qik x17 x14 (take (nat_lit 3*nat_lit 5) ([int i64 4,int i64 0,string (mkS [102]++x7),slice noA 0 0,slice noA 0 0,int i64 (GJ.k x9.1),int i64 (GJ.n x9.1),string (GJ.s x9.1),slice (GJ.y x9.1).1 (GJ.y x9.1).2.1 (GJ.y x9.1).2.2,slice (GJ.x x9.1).1 (GJ.x x9.1).2.1 (GJ.x x9.1).2.2]++[int i64 (zg6 x6 x9 x13).1,int i64 (zg6 x6 x9 x13).2.1,string (zg6 x6 x9 x13).2.2.1,slice noA 0 0,slice noA 0 0]))
 abbrev zl8:=mkS [110,97,109,101]
 abbrev zl7:=mkS [116,121,112,101]
 def zl4:=nat_lit 3<=x5/\qik x17 x14 (take (nat_lit 3*nat_lit 1) ([string (zl8),string (zl7)]++[string (mkS [100,101,102,97,117,108,116])]))
 def zui:=length (z00 GJ.cells x0.2.2.2)=length x0.2.2.2*5/\(length x0.2.2.2+nat_lit 1)*80<=140737488355328/\Jb (x0.1+1)/\x20
 def zuj:=z0u x1 x2 (5:Int)=z0u x1 x2 5/\x3=x3/\x0.1=x21.1+1/\x4.1=x10.1.1/\x4.2.1=x10.1.2.1/\x4.2.2=x10.1.2.2/\x20
 def zul:=z00 txV x0.2.2.1=z00 txV x9.2.2/\length x0.2.2.1=length x9.2.2/\length x0.2.2.2=length x21.2.2.2+nat_lit 1/\x20
 def zuo:=zii x1 x2 x8 (z0u x6 x2 5) x0/\toNat (z0u x6 x2 5- x0.1)<toNat (z0u x6 x2 5- x21.1)/\True
 def jgj:=zui x0 (∃(i0:RlS),x7=x7/\zuj i0 x1 x2 x3 x4 x10 (i0.2.1=(zg6 x6 x9 x13).2.2.2/\z00 GJ.cells i0.2.2.2=z00 GJ.cells x0.2.2.2++[int i64 6,int i64 0,string (mkS []),slice x14 (nat_lit 3) x5,slice x15 (nat_lit 3) x16]/\zul i0 x9 ((∀i1,(j2h x0 x12 x4 x5 x6 x11 x9 x13 x14 i1)/\zl4 x16 x15 i1->True/\slP byV x4 x12 i1)/\(∀i2,(j2h x0 x12 x4 x5 x6 x11 x9 x13 x14 i2)/\zl4 x16 x15 i2->GJ.oks i0.2.2.2 i2)/\zuo i0 x12 x2 x1 x8 x0) x0) x0)
 def jgh:=(nat_lit 2+1)*16<=140737488355328/\∃(i0:List Int×GJ),GJ.k i0.2=GJ.k x9.1/\GJ.n i0.2=GJ.n x9.1/\GJ.s i0.2=GJ.s x9.1/\(GJ.y i0.2).1=(GJ.y x9.1).1/\(GJ.y i0.2).2.1=(GJ.y x9.1).2.1/\(GJ.y i0.2).2.2=(GJ.y x9.1).2.2/\(GJ.x i0.2).1=(GJ.x x9.1).1/\(GJ.x i0.2).2.1=(GJ.x x9.1).2.1/\(GJ.x i0.2).2.2=(GJ.x x9.1).2.2/\zuk x10 (z06 x1 x9.2.1=z06 x1 x9.2.1/\(0<=z06 x1 x9.2.1/\z06 x1 x9.2.1<=(↑(length i0.1):Int)/\z0q i0.1/\GJ.wf i0.2)/\(∀i1,(z66 x0 x6 x4 i1)/\GJ.ok x9.1 i1->j2g x10 i0 i1)/\(nat_lit 2+1)*80<=140737488355328/\zug x9/\∀(i2 i3 i4:Nat) (i5:Option Addr) (i6 i7:Nat),(∃i8,j2h x0 x6 x4 i7 x1 x7 x9 i0 i5 i8)->∀(i9 i10 i11:Nat) (i12:Option Addr) (i13 i14:Nat),(∃i15,(j2h x0 x6 x4 i7 x1 x7 x9 i0 i5 i15)/\zl4 i14 i12 i15)->jgj x0 x12 x2 x3 x4 i7 x1 x11 x8 x9 x10 x7 x6 i0 i5 i12 i14)
 def j2i:=((z66 x0 x1 x4 x17)/\GJ.ok x9.1 x17)/\q3p x17 (Addr.mk x5 x16 none) [int i64 4,int i64 0,string (mkS [102]++x7),slice noA 0 0,slice noA 0 0,int i64 (GJ.k x9.1),int i64 (GJ.n x9.1),string (GJ.s x9.1),slice (GJ.y x9.1).1 (GJ.y x9.1).2.1 (GJ.y x9.1).2.2,slice (GJ.x x9.1).1 (GJ.x x9.1).2.1 (GJ.x x9.1).2.2]
 abbrev zl5:=q3p x17 (Addr.mk x5 x16 none) [string (zl8),string (zl7)]
 def jgk:=zui x0 (∃(i0:RlS),x7=x7/\zuj i0 x1 x2 x3 x4 x10 (i0.2.1=z06 x6 x9.2.1/\z00 GJ.cells i0.2.2.2=z00 GJ.cells x0.2.2.2++[int i64 6,int i64 0,string (mkS []),slice (some (Addr.mk x5 (x16+nat_lit 0) none)) (nat_lit 2) (nat_lit 2),slice (some (Addr.mk x18 (x19+nat_lit 0) none)) (nat_lit 2) (nat_lit 2)]/\zul i0 x9 ((∀i1,(j2i x0 x12 x4 x5 x11 x9 x16 i1)/\zl5 x18 x19 i1->True/\slP byV x4 x12 i1)/\(∀i2,(j2i x0 x12 x4 x5 x11 x9 x16 i2)/\zl5 x18 x19 i2->GJ.oks i0.2.2.2 i2)/\zuo i0 x12 x2 x1 x8 x0) x0) x0)
 def jgg:=((-9223372036854775808:Int)<=97+x0.1/\(97:Int)+x0.1<=9223372036854775807)/\∃i0,size i0=1/\qi8 [int u8 (IntKind.wrap u8 ((97:Int)+x0.1))] 0 (q1h i0)/\size (mkS [102])+size i0<=9223372036854775807/\mkS [102]++i0=mkS [102]++i0/\True/\True/\zug x9/\∃(i1:List Int),(3:Int)=3/\zuk x10 (x9.2.1=x9.2.1/\(0<=x9.2.1/\x9.2.1<=(↑(length i1):Int)/\(0:Int)<3/\(3:Int)<1000000/\z0q i1)/\(∀i2,(z66 x0 x1 x4 i2)/\GJ.ok x9.1 i2->slP byV (x10.1.1,x10.1.2.1,x10.1.2.2) i1 i2)/\Ji (z0u i1 x9.2.1 (3:Int)=0) (jgh x0 i1 x2 x3 x4 x1 i0 x8 x9 x10 x7 x6) (∀(i22 i23 i24:Nat),(∃i25,j2i x0 x1 x4 i22 i0 x9 i23 i25)->∀(i26 i27 i28:Nat),(∃i29,(j2i x0 x1 x4 i22 i0 x9 i23 i29)/\zl5 i26 i27 i29)->jgk x0 x6 x2 x3 x4 i22 i1 x7 x8 x9 x10 i0 x1 i23 i26 i27))
 def jgf:=Jb (x2+1)/\∃(i0:TrS),i0.2.2.2.1=x2+1/\i0.1.1=x4.1/\i0.1.2.1=x4.2.1/\i0.1.2.2=x4.2.2/\i0.2.2.1=x0.2.1/\z00 txV i0.2.2.2.2=z00 txV x0.2.2.1/\length i0.2.2.2.2=length x0.2.2.1/\(z4n i0<x5/\z2z 4 i0)/\(∀i1,z66 x0 x1 x4 i1->slP byV i0.1 i0.2.1 i1)/\∀(i2:TrB),z10 i0.2.1 i0.2.2.1 i0.2.2.2.2 i2->(∃i3,(z66 x0 x1 x4 i3)/\GJ.ok i2.1 i3)->jgg x0 x1 x3 x2 x4 x6 x7 x8 i2 i0
 def zl3:=AV.agg [AV.int i64 5,AV.int i64 0,AV.str [],AV.ssl (nat_lit 7) (nat_lit 0) (length x0.2.2.2) (nat_lit 5) (nat_lit 8),AV.nsl]=AV.agg [AV.int i64 5,AV.int i64 0,AV.str [],AV.ssl (nat_lit 7) (nat_lit 0) (length x0.2.2.2) (nat_lit 5) (nat_lit 8),AV.nsl]
 def zup:=(z66 x0 x1 x4 x17)/\length x0.2.2.2<=x5/\qik x17 x14 (take (length x0.2.2.2*nat_lit 5) (z00 GJ.cells x0.2.2.2))
 def j4m:=(zup x0 x1 x4 x5 x14 x17)/\q3p x17 (Addr.mk x16 x18 none) [int i64 4,int i64 0,string (mkS [114,101,99,111,114,100]),slice noA 0 0,slice noA 0 0,int i64 4,int i64 0,string x7,slice noA 0 0,slice noA 0 0,int i64 4,int i64 0,string (mkS [115]),slice noA 0 0,slice noA 0 0,int i64 5,int i64 0,string (mkS []),slice x14 (length x0.2.2.2) x5,slice noA 0 0]
 abbrev zuh:=q3p x17 (Addr.mk x5 x16 none) [string (zl7),string (zl8),string (mkS [110,97,109,101,115,112,97,99,101]),string (mkS [102,105,101,108,100,115])]
 def jgi:=mkS [114,101,99,111,114,100]=mkS [114,101,99,111,114,100]/\True/\x7=x7/\True/\mkS [115]=mkS [115]/\True/\True/\zl3 x0/\zl3 x0/\zl3 x0/\∀(i0 i1 i2:Nat) (i3:Option Addr) (i4 i5:Nat),(∃i6,zup x0 x1 x4 i5 i3 i6)->∀(i7 i8 i9:Nat),(∃i10,j4m x0 x1 x4 i5 x7 i3 i7 i10 i8)->∀(i11 i12 i13:Nat),(∃i14,(j4m x0 x1 x4 i5 x7 i3 i7 i14 i8)/\zuh i11 i12 i14)->∃(i15:TrB),GJ.k i15.1=6/\GJ.n i15.1=0/\GJ.s i15.1=mkS []/\(GJ.y i15.1).1=some (Addr.mk i7 (i8+nat_lit 0) none)/\(GJ.y i15.1).2.1=nat_lit 4/\(GJ.y i15.1).2.2=nat_lit 4/\(GJ.x i15.1).1=some (Addr.mk i11 (i12+nat_lit 0) none)/\(GJ.x i15.1).2.1=nat_lit 4/\(GJ.x i15.1).2.2=nat_lit 4/\zl6 x4 (i15.2.1=x0.2.1/\z00 txV i15.2.2=z00 txV x0.2.2.1/\length i15.2.2=length x0.2.2.1/\z10 x1 x2 x8 i15/\(∀i16,(j4m x0 x1 x4 i5 x7 i3 i7 i16 i8)/\zuh i11 i12 i16->GJ.ok i15.1 i16)/\True)
 def jge:=Ji (x0.1<z0u x1 x2 5) (jgf x0 x6 x3 x2 x4 x5 x1 x7 x8) (jgi x0 x6 x2 x4 x7 x8)
end
def zif(c:Nat) (s:ByteArray) (x:SV) (L:List Int) (n d:Int) (N:List ByteArray):qm3 P (qh2 [(23,zw0),(72,zad),(71,z4y),(73,z3u)]) (qi5 [(70,z4m.below z4n c)]) Go.Proofs.Tryz.f33 (z1q.below zou (c+1)) (za4) ⟨s,x,L,n,d,N⟩=(zou (s,x,L,n,d,N)<c+1/\size s<100/\z2z 3 (x,L,n,d,N)->(∃(p:Pub),True/\slP byV x L p)->∃(b:List Int),(5:Int)=5/\zl6 x (n=n/\(0<=n/\n<=(↑(length b):Int)/\(0:Int)<5/\(5:Int)<1000000/\z0q b)/\(∀(p:Pub),True/\slP byV x L p->slP byV (x.1,x.2.1,x.2.2) b p)/\(∃(s_1:RlS),s=s/\z0u b n (5:Int)=z0u b n 5/\d=d/\s_1.1=0/\zl6 x (s_1.2.1=z06 b n/\z00 txV s_1.2.2.1=z00 txV N/\length s_1.2.2.1=length N/\length s_1.2.2.2=0/\(∀(p:Pub),True/\slP byV x L p->True/\slP byV x L p)/\(∀(p:Pub),True/\slP byV x L p->GJ.oks s_1.2.2.2 p)/\zii L n N (z0u b n 5) s_1/\True))/\∀(s_1:RlS),zii L n N (z0u b n 5) s_1->(∃(p:Pub),z66 s_1 L x p)->jge s_1 b n d x c L s N)):=by kernel_rfl
def zpe:=λc s x L n d N=>Eq.trans (zif c s x L n d N) (by delta Ji Jb Jt Jf zl6 z66 zum zun zug zuk j2g zg6 j2h zl8 zl7 zl4 zui zuj zul zuo jgj jgh j2i zl5 jgk jgg jgf zl3 zup j4m zuh jgi jge;exact rfl)
section
def leaf(k n:Int) (s:ByteArray):GJ:= .mk k n s (none,0,0) [] (none,0,0) []
variable {s:ByteArray} {p:Pub}
def z07{k n:Int}:(leaf k n s).ok p:=by
 unfold leaf;rw[GJ.ok];exact⟨z05,z05,by rw[GJ.oks];trivial⟩
def z08{k n:Int} (h:s.size<1000) (h0: -9223372036854775808<=n) (h1:n<9223372036854775808):(leaf k n s).wf:=by
 unfold leaf;rw[GJ.wf];exact⟨h,by decide,by decide,λt ht=>(by cases ht),⟨h0,h1⟩,λ_=>rfl,by rw[GJ.wfs];trivial⟩
variable {l:List GJ}
def z02{g:GJ} (h1:g.ok p) (h2:GJ.oks l p):GJ.oks (g::l) p:=by rw[GJ.oks];exact⟨h1,h2⟩
def z0n:GJ.oks [] p:=by rw[GJ.oks];trivial
def z03{g:GJ} (h1:g.wf) (h2:GJ.wfs l):GJ.wfs (g::l):=by rw[GJ.wfs];exact⟨h1,h2⟩
def z0o:GJ.wfs []:=by rw[GJ.wfs];trivial
variable {α:Type}
def z39{f:α->List Value} {l:List α} {a:Option Addr} {n c:Nat} (hn:n=l.length) (h:qil p a n c (z00 f l)):slP f (a,n,c) l p:=⟨hn,h⟩
def z0k{f:α->List Value} {l:List α} {b s n c:Nat} (hn:n=l.length) (hc:n<=c) (h:q3p p ⟨b,s,none⟩ (z00 f l)):slP f (some ⟨b,s+0,none⟩,n,c) l p:=⟨hn,hc, .inr ⟨_,rfl,rfl,h⟩⟩
def lsJ(x:SV) (l:List GJ):GJ:= .mk 5 0 (mkS []) x l (none,0,0) []
variable {x:SV}
def z49(h1:slP GJ.cells x l p) (h2:GJ.oks l p):(lsJ x l).ok p:=by
 unfold lsJ;rw[GJ.ok];exact⟨h1,z05,h2⟩
def z4a(h1:l.length<1000) (h2:GJ.wfs l):(lsJ x l).wf:=by
 unfold lsJ;rw[GJ.wf];exact⟨by decide,h1,Nat.zero_le _,λt ht=>(by cases ht),⟨by omega,by omega⟩,λh=>absurd h (by decide),h2⟩
def tbJ(x:SV) (l:List GJ) (y:SV) (nm:List ByteArray):GJ:= .mk 6 0 (mkS []) x l y nm
variable {nm:List ByteArray}
def z3a{y:SV} (h1:slP GJ.cells x l p) (h3:slP txV y nm p) (h2:GJ.oks l p):(tbJ x l y nm).ok p:=by
 unfold tbJ;rw[GJ.ok];exact⟨h1,h3,h2⟩
def z3b{y:SV} (h1:l.length<1000) (h3:nm.length=l.length) (h4:∀t∈nm,t.size<1000) (h2:GJ.wfs l):(tbJ x l y nm).wf:=by
 unfold tbJ;rw[GJ.wf];exact⟨by decide,h1,by omega,h4,⟨by omega,by omega⟩,λ_=>h3,h2⟩
variable {L:List Int}
def zhx{n:Int} (h:n<L.length):z06 L n=n+1:=by unfold z06;rw[if_neg (by omega)]
def zhy{n m:Int} (h:z0u L n m≠0):n<L.length:=by
 unfold z0u at h
 split at h
 ·exact absurd rfl h
 ·omega
def zm2(c:Nat) (h:c<256):q1h (mkS [c])=[.int .u8 (c:Nat)]:=by
 simp[q1h,mkS]
 omega
def zey(n:Nat):IntKind.wrap .u8 (97+(n:Int).tmod 26)=((97+n % 26:Nat):Int):=by
 rw[zjc,Int.tmod_eq_emod_of_nonneg (by omega)];omega
def z45{α:Type} {f:α->List Value} {l:List α} {p:Pub} {x:Addr} (k:Nat) (h:q3p p x (z00 f l)):q3p p x (z00 f (l.take k)):=λj v hj=>by
 refine h j v ?_
 conv at hj=>lhs;rw[show z00 f (l.take k)=z00 f (l.take k)from rfl]
 have e:z00 f l=z00 f (l.take k)++z00 f (l.drop k):=by rw[←z04,List.take_append_drop]
 rw[e,List.getElem?_append_left (List.getElem?_eq_some_iff.mp hj).1];exact hj
def slH(b s:Nat) (r:Int):SV:=(slA (some ⟨b,s+0,none⟩) 3 0 5,(@Int.rec (λ_=>Nat) (λa=>a) (λ_=>0) (1+r))- 0,3- 0)
def syL(r:Int):List GJ:=[leaf 4 0 (mkS [88]),leaf 4 0 (mkS [89]),leaf 4 0 (mkS [90])].take (1+r).toNat
def zxt{b s:Nat} {r:Int} (h0:0<=r) (h1:r<3) (h:q3p p ⟨b,s,none⟩ (z00 GJ.cells [leaf 4 0 (mkS [88]),leaf 4 0 (mkS [89]),leaf 4 0 (mkS [90])])):slP GJ.cells (slH b s r) (syL r) p/\GJ.oks (syL r) p:=by
 have:r=0\/r=1\/r=2:=by omega
 rcases this with rfl|rfl|rfl
 ·exact⟨⟨rfl,show 1<=3 by decide, .inr ⟨⟨b,s,none⟩,rfl,rfl,z45 1 h⟩⟩,z02 z07 z0n⟩
 ·exact⟨⟨rfl,show 2<=3 by decide, .inr ⟨⟨b,s,none⟩,rfl,rfl,z45 2 h⟩⟩,z02 z07 (z02 z07 z0n)⟩
 ·exact⟨⟨rfl,show 3<=3 by decide, .inr ⟨⟨b,s,none⟩,rfl,rfl,h⟩⟩,z02 z07 (z02 z07 (z02 z07 z0n))⟩
def zil{r:Int} (h0:0<=r) (h1:r<3):(syL r).length<1000/\GJ.wfs (syL r):=by
 have:r=0\/r=1\/r=2:=by omega
 rcases this with rfl|rfl|rfl
 ·exact⟨by decide,z03 (z08 (by decide) (by omega) (by omega)) z0o⟩
 ·exact⟨by decide,z03 (z08 (by decide) (by omega) (by omega)) (z03 (z08 (by decide) (by omega) (by omega)) z0o)⟩
 ·exact⟨by decide,z03 (z08 (by decide) (by omega) (by omega)) (z03 (z08 (by decide) (by omega) (by omega)) (z03 (z08 (by decide) (by omega) (by omega)) z0o))⟩
def zj2(c:Nat) (ht:q22 P 70 (z4m.below z4n c)):q22 P 106 (z91.below z4n (c+1)):=by
 refine qlb mixed (qee (qih z9g (qih z5q qlq))) (qf7 (qig ht qlp)) (W:=zn3) Go.Proofs.Tryz.func106 (by kernel_rfl) (show 1<=5 by decide) (show 5<=7 by decide) (λs=>by kernel_rfl) λ⟨(x:SV),(L:List Int),(n:Int),(d:Int),N⟩=>(union_eq c x L n d N).mpr ?_
 rintro⟨hmu,hn0,hn1,hL,hd0,hd1,hN,hNs⟩ ⟨p,_,hp⟩
 have hmu:(10- d).toNat<c+1:=hmu
 simp only[sbS,Int.toNat_natCast]
 have nb:=z1r hn1
 refine⟨L,⟨hn0,hn1,by omega,by omega,hL⟩,λq hq=>hq,λh0=> ?_,λh0=> ?_⟩
 ·have nb2:=z1r nb.2.1
  have hr:=z1h (n:=z06 L n) (m:=2) hL (by omega)
  obtain⟨s,hs,hsz⟩:∃s:ByteArray,(∀(j:Nat) (v:Value),[Value.string s][j]? =some v->[Value.string (mkS [105,110,116]),Value.string (mkS [115,116,114,105,110,103])][0+(z0u L (z06 L n) 2).toNat*1+j]? =some v)/\s.size<1000:=by
   have:z0u L (z06 L n) 2=0\/z0u L (z06 L n) 2=1:=by omega
   rcases this with e|e
   ·rw[e];exact⟨mkS [105,110,116],λj v hj=>by cases j with|zero=>exact hj|succ j=>simp at hj,by decide⟩
   ·rw[e];exact⟨mkS [115,116,114,105,110,103],λj v hj=>by cases j with|zero=>exact hj|succ j=>simp at hj,by decide⟩
  refine⟨L,⟨by omega,nb.2.1,by omega,by omega,hL⟩,λq hq=>hq,hr,s,hs,by decide,by omega,⟨x,L,z06 L (z06 L n),d+1,N⟩,rfl,rfl,rfl,rfl,rfl,rfl,rfl,⟨?_,by omega,nb2.2.1,hL,by omega,by omega,by omega,hNs⟩,λq hq=>hq,?_⟩
  ·show(10- (d+1)).toNat<c;omega
  rintro⟨g,n',N'⟩ ⟨hw,p1,p2,p3,p4,p5⟩ _
  simp only at p1 p2 p3 p4
  refine⟨λhk=>⟨rfl,by decide,λ_ _ _ a m cc _=>⟨⟨lsJ (a,3,cc) [leaf 4 0 (mkS [110,117,108,108]),leaf 4 0 s,g],n',N'⟩,rfl,rfl,rfl,rfl,rfl,rfl,rfl,rfl,rfl,rfl,rfl,rfl,rfl,rfl,rfl,⟨?_,by omega,p2,p3,by omega,p5⟩,λq hq=> ?_⟩⟩,λhk _ _ _ a m cc _=>⟨⟨lsJ (a,2,cc) [leaf 4 0 (mkS [110,117,108,108]),leaf 4 0 s],n',N'⟩,rfl,rfl,rfl,rfl,rfl,rfl,rfl,rfl,rfl,rfl,rfl,rfl,rfl,rfl,rfl,⟨?_,by omega,p2,p3,by omega,p5⟩,λq hq=> ?_⟩⟩
  ·exact z4a (by simp) (z03 (z08 (by decide) (by omega) (by omega)) (z03 (z08 hsz (by omega) (by omega)) (z03 hw z0o)))
  ·exact z49 (z39 rfl hq.2) (z02 z07 (z02 z07 (z02 hq.1.2 z0n)))
  ·exact z4a (by simp) (z03 (z08 (by decide) (by omega) (by omega)) (z03 (z08 hsz (by omega) (by omega)) z0o))
  ·exact z49 (z39 rfl hq.2) (z02 z07 (z02 z07 z0n))
 ·refine⟨by omega,⟨x,L,z06 L n,d+1,N⟩,rfl,rfl,rfl,rfl,rfl,rfl,rfl,⟨?_,by omega,nb.2.1,hL,by omega,by omega,by omega,hNs⟩,λq hq=>hq,?_⟩
  ·show(10- (d+1)).toNat<c;omega
  rintro⟨g,n',N'⟩ ⟨hw,p1,p2,p3,p4,p5⟩ _
  simp only at p1 p2 p3 p4
  refine⟨λhk=>⟨by decide,λ_ _ _ a m cc _=>⟨⟨lsJ (a,2,cc) [leaf 4 0 (mkS [110,117,108,108]),g],n',N'⟩,rfl,rfl,rfl,rfl,rfl,rfl,rfl,rfl,rfl,rfl,rfl,rfl,rfl,rfl,rfl,⟨?_,by omega,p2,p3,by omega,p5⟩,λq hq=> ?_⟩⟩,λhk b2 s2 _ _=>⟨⟨lsJ (some ⟨b2,s2+0,none⟩,1,1) [leaf 4 0 (mkS [110,117,108,108])],n',N'⟩,rfl,rfl,rfl,rfl,rfl,rfl,rfl,rfl,rfl,rfl,rfl,rfl,rfl,rfl,rfl,⟨?_,by omega,p2,p3,by omega,p5⟩,λq hq=> ?_⟩⟩
  ·exact z4a (by simp) (z03 (z08 (by decide) (by omega) (by omega)) (z03 hw z0o))
  ·exact z49 (z39 rfl hq.2) (z02 z07 (z02 hq.1.2 z0n))
  ·exact z4a (by simp) (z03 (z08 (by decide) (by omega) (by omega)) z0o)
  ·exact z49 (z0k rfl (Nat.le_refl _) hq.2) (z02 z07 z0n)
def zpx(c:Nat) (ht:q22 P 70 (z4m.below z4n c)) (hu:q22 P 106 (z91.below z4n (c+1))) (hr:q22 P 33 (z1q.below zou (c+1))):q22 P 70 (z4m.below z4n (c+1)):=by
 refine qlb mixed (qee (qih z9g (qih zp5 (qih z5q (qih z9q qlq))))) (qf7 (qig ht (qig hu (qig hr qlp)))) (W:=zyc) Go.Proofs.Tryz.func70 (by kernel_rfl) (show 1<=5 by decide) (show 5<=7 by decide) (λs=>by kernel_rfl) λ⟨(x:SV),(L:List Int),(n:Int),(d:Int),N⟩=>(zpw c x L n d N).mpr ?_
 rintro⟨hmu,hn0,hn1,hL,hd0,hd1,hN,hNs⟩ ⟨p,_,hp⟩
 have hmu:(10- d).toNat<c+1:=hmu
 simp only[sbS,Int.toNat_natCast,exists_const]
 have nb:=z1r hn1
 have hLl:=hL.1
 have hr0:=z1h (n:=n) (m:=20) hL (by omega)
 have small8:3<d->(8:Int)≠0/\∃s,s=(z0u L n 20).tmod 8/\z06 L n=z06 L n/\0<=s/\s<20/\(8<=s->d<=3/\n<L.length):=λh=>by
  have e:(z0u L n 20).tmod 8=z0u L n 20 % 8:=Int.tmod_eq_emod_of_nonneg hr0.1
  exact⟨by decide,_,rfl,rfl,by omega,by omega,λh=>by omega⟩
 have small9:(8:Int)≠0/\∃s,s=(z0u L n 20).tmod 8/\z06 L n=z06 L n/\0<=s/\s<20/\(8<=s->d<=3/\n<L.length):=by
  have e:(z0u L n 20).tmod 8=z0u L n 20 % 8:=Int.tmod_eq_emod_of_nonneg hr0.1
  exact⟨by decide,_,rfl,rfl,by omega,by omega,λh=>by omega⟩
 refine⟨L,⟨hn0,hn1,by omega,by omega,hL⟩,λq hq=>hq,⟨small8,λhd3=>⟨L,λq hq=>hq,λ_=>small9,λ_=>⟨_,rfl,rfl,hr0.1,hr0.2,λh=>⟨by omega,zhy (m:=20) (by omega)⟩⟩⟩⟩,?_⟩
 rintro k ⟨hk0,hk1,hk2⟩
 refine⟨⟨λh8=> ?_,λh8=>⟨λh10=> ?_,λh10=>⟨λh1=> ?_,λh1=>⟨λh14=> ?_,λh14=>⟨λe14=>⟨λhN0=> ?_,λ_=>by omega⟩,λ_=>by omega⟩⟩⟩⟩⟩,?_⟩
 ·obtain⟨s,hs,hsz⟩:∃s:ByteArray,(∀(j:Nat) (v:Value),[Value.string s][j]? =some v->[Value.string (mkS [105,110,116]),Value.string (mkS [108,111,110,103]),Value.string (mkS [115,116,114,105,110,103]),Value.string (mkS [98,121,116,101,115]),Value.string (mkS [98,111,111,108,101,97,110]),Value.string (mkS [110,117,108,108]),Value.string (mkS [102,108,111,97,116]),Value.string (mkS [100,111,117,98,108,101])][0+k.toNat*1+j]? =some v)/\s.size<1000:=by
   have:k=0\/k=1\/k=2\/k=3\/k=4\/k=5\/k=6\/k=7:=by omega
   rcases this with rfl|rfl|rfl|rfl|rfl|rfl|rfl|rfl
   all_goals refine⟨_,λj v hj=>by cases j with|zero=>exact hj|succ j=>simp at hj,by decide⟩
  exact⟨⟨hk0,h8⟩,s,hs,⟨leaf 4 0 s,z06 L n,N⟩,rfl,rfl,rfl,rfl,rfl,rfl,rfl,rfl,rfl,rfl,rfl,rfl,⟨z08 hsz (by omega) (by omega),nb.1,nb.2.1,Nat.le_refl _,by omega,hNs⟩,λq hq=>z07⟩
 ·have hd:=hk2 (by omega)
  refine⟨by omega,⟨x,L,z06 L n,d+1,N⟩,rfl,rfl,rfl,rfl,rfl,rfl,rfl,⟨?_,by omega,nb.2.1,hL,by omega,by omega,by omega,hNs⟩,λq hq=>hq,?_⟩
  ·show(10- (d+1)).toNat<c;omega
  rintro⟨g,n',N'⟩ ⟨hw,p1,p2,p3,p4,p5⟩ _ b1 s1 u1 _ b2 s2 u2 _
  simp only at p1 p2 p3 p4
  exact⟨⟨tbJ (some ⟨b1,s1+0,none⟩,2,2) [leaf 4 0 (mkS [97,114,114,97,121]),g] (some ⟨b2,s2+0,none⟩,2,2) [mkS [116,121,112,101],mkS [105,116,101,109,115]],n',N'⟩,rfl,rfl,rfl,rfl,rfl,rfl,rfl,rfl,rfl,rfl,rfl,rfl,rfl,rfl,rfl,⟨z3b (by simp) rfl (by decide) (z03 (z08 (by decide) (by omega) (by omega)) (z03 hw z0o)),by omega,p2,p3,by omega,p5⟩,λq hq=>z3a (z0k rfl (Nat.le_refl _) hq.1.2) (z0k rfl (Nat.le_refl _) hq.2) (z02 z07 (z02 hq.1.1.2 z0n))⟩
 ·have hd:=hk2 (by omega)
  refine⟨by omega,⟨x,L,z06 L n,d+1,N⟩,rfl,rfl,rfl,rfl,rfl,rfl,rfl,⟨?_,by omega,nb.2.1,hL,by omega,by omega,by omega,hNs⟩,λq hq=>hq,?_⟩
  ·show(10- (d+1)).toNat<c;omega
  rintro⟨g,n',N'⟩ ⟨hw,p1,p2,p3,p4,p5⟩ _ b1 s1 u1 _ b2 s2 u2 _
  simp only at p1 p2 p3 p4
  exact⟨⟨tbJ (some ⟨b1,s1+0,none⟩,2,2) [leaf 4 0 (mkS [109,97,112]),g] (some ⟨b2,s2+0,none⟩,2,2) [mkS [116,121,112,101],mkS [118,97,108,117,101,115]],n',N'⟩,rfl,rfl,rfl,rfl,rfl,rfl,rfl,rfl,rfl,rfl,rfl,rfl,rfl,rfl,rfl,⟨z3b (by simp) rfl (by decide) (z03 (z08 (by decide) (by omega) (by omega)) (z03 hw z0o)),by omega,p2,p3,by omega,p5⟩,λq hq=>z3a (z0k rfl (Nat.le_refl _) hq.1.2) (z0k rfl (Nat.le_refl _) hq.2) (z02 z07 (z02 hq.1.1.2 z0n))⟩
 ·have hd:=hk2 (by omega)
  refine⟨⟨x,L,z06 L n,d,N⟩,rfl,rfl,rfl,rfl,rfl,rfl,rfl,⟨?_,by omega,nb.2.1,hL,by omega,by omega,by omega,hNs⟩,λq hq=>hq,?_⟩
  ·show(10- d).toNat<c+1;omega
  rintro⟨g,n',N'⟩ ⟨hw,p1,p2,p3,p4,p5⟩ _
  simp only at p1 p2 p3 p4
  exact⟨⟨g,n',N'⟩,rfl,rfl,rfl,rfl,rfl,rfl,rfl,rfl,rfl,rfl,rfl,rfl,rfl,rfl,rfl,⟨hw,by omega,p2,p3,by omega,p5⟩,λq hq=>hq.2⟩
 ·have hd:=hk2 (by omega)
  have hN0:0<N.length:=by omega
  have nb2:=z1r nb.2.1
  have hr:=z1h (n:=z06 L n) (m:=N.length) hL (by omega)
  obtain⟨i,hi⟩:=Int.eq_ofNat_of_zero_le hr.1
  have hil:i<N.length:=by omega
  refine⟨L,⟨by omega,nb.2.1,by omega,by omega,hL⟩,λq hq=>hq,hr,N[i],?_,⟨leaf 4 0 N[i],z06 L (z06 L n),N⟩,rfl,rfl,rfl,rfl,rfl,rfl,rfl,rfl,rfl,rfl,rfl,rfl,⟨z08 (by have:=hNs N[i] (List.getElem_mem _);omega) (by omega) (by omega),by omega,nb2.2.1,Nat.le_refl _,by omega,hNs⟩,λq hq=>z07⟩
  rw[hi,Int.toNat_natCast]
  intro j v hj
  cases j with
  |zero=>rw[Nat.zero_add,z20 z0t N i hil 0 (by decide)];exact hj
  |succ j=>simp at hj
 intro _ h14
 have hd:=hk2 (by omega)
 have e26:(N.length:Int).tmod 26=(N.length:Int) % 26:=Int.tmod_eq_emod_of_nonneg (by omega)
 have hz:(mkS [97+N.length % 26]).size=1:=rfl
 have hn2:(mkS [78]++mkS [97+N.length % 26]).size=2:=by rw[ByteArray.size_append,hz];rfl
 have hnl:n<L.length:=hd.2
 have hnn:=zhx hnl
 refine⟨by decide,by omega,mkS [97+N.length % 26],rfl,?_,by rw[hz];decide,z01 z0t N,by omega,?_⟩
 ·intro j v hj
  rw[zm2 _ (by omega)]at hj
  rw[zey,Nat.zero_add];exact hj
 have hN':∀t∈N++[(mkS [78]++mkS [97+N.length % 26])],t.size<100:=λt ht=>by
  rcases List.mem_append.1 ht with h|h
  ·exact hNs t h
  ·simp at h;rw[h];omega
 have hNl:(N++[(mkS [78]++mkS [97+N.length % 26])]).length=N.length+1:=by simp
 have hNr:z00 txV (N++[(mkS [78]++mkS [97+N.length % 26])])=z00 txV N++[Value.string (mkS [78]++mkS [97+N.length % 26])]:=by rw[z04];rfl
 generalize (mkS [78]++mkS [97+N.length % 26])=name at*
 generalize N++[name]=N1 at*
 have nb2:=z1r nb.2.1
 refine⟨λh15=> ?_,λh15=>⟨λh16=> ?_,λh16=> ?_⟩⟩
 ·have hr4:=z1h (n:=z06 L n) (m:=4) hL (by omega)
  refine⟨L,⟨by omega,nb.2.1,by omega,by omega,hL⟩,λq hq=>hq,λb1 s1 u1 _ b2 s2 u2 _=>⟨⟨tbJ (some ⟨b1,s1+0,none⟩,3,3) [leaf 4 0 (mkS [102,105,120,101,100]),leaf 4 0 name,leaf 3 (z0u L (z06 L n) 4) (mkS [])] (some ⟨b2,s2+0,none⟩,3,3) [mkS [116,121,112,101],mkS [110,97,109,101],mkS [115,105,122,101]],z06 L (z06 L n),N1⟩,rfl,rfl,rfl,rfl,rfl,rfl,rfl,rfl,rfl,rfl,hNr,hNl,⟨?_,by omega,nb2.2.1,by omega,by omega,hN'⟩,λq hq=> ?_⟩⟩
  ·exact z3b (by simp) rfl (by decide) (z03 (z08 (by decide) (by omega) (by omega)) (z03 (z08 (by omega) (by omega) (by omega)) (z03 (z08 (by decide) (by omega) (by omega)) z0o)))
  ·exact z3a (z0k rfl (Nat.le_refl _) hq.1.2) (z0k rfl (Nat.le_refl _) hq.2) (z02 z07 (z02 z07 (z02 z07 z0n)))
 ·have hr3:=z1h (n:=z06 L n) (m:=3) hL (by omega)
  have nb3:=z1r nb2.2.1
  generalize hrr:z0u L (z06 L n) 3=r at hr3
  refine⟨L,⟨by omega,nb.2.1,by omega,by omega,hL⟩,λq hq=>hq,?_⟩
  rw[hrr]
  refine⟨by omega,λb1 s1 u1 _=>⟨Nat.le_refl _,by omega,L,⟨by omega,nb2.2.1,by omega,by omega,hL⟩,λq hq=>hq.1,?_,?_⟩⟩
  ·refineλ_=>⟨by decide,by decide,λ_ _ _ a _ cc _ _ _ _ a2 _ cc2 _=>⟨⟨tbJ (a,4,cc) [leaf 4 0 (mkS [101,110,117,109]),leaf 4 0 name,lsJ (slH b1 s1 r) (syL r),leaf 4 0 (mkS [88])] (a2,4,cc2) [mkS [116,121,112,101],mkS [110,97,109,101],mkS [115,121,109,98,111,108,115],mkS [100,101,102,97,117,108,116]],z06 L (z06 L (z06 L n)),N1⟩,rfl,rfl,rfl,rfl,rfl,rfl,rfl,rfl,rfl,rfl,hNr,hNl,⟨?_,by omega,nb3.2.1,by omega,by omega,hN'⟩,λq hq=> ?_⟩⟩
   ·exact z3b (by simp) rfl (by decide) (z03 (z08 (by decide) (by omega) (by omega)) (z03 (z08 (by omega) (by omega) (by omega)) (z03 (z4a (zil hr3.1 hr3.2).1 (zil hr3.1 hr3.2).2) (z03 (z08 (by decide) (by omega) (by omega)) z0o))))
   ·have hsy:=zxt (b:=b1) (s:=s1) hr3.1 hr3.2 hq.1.1.2
    exact z3a (z39 rfl hq.1.2) (z39 rfl hq.2) (z02 z07 (z02 z07 (z02 (z49 hsy.1 hsy.2) (z02 z07 z0n))))
  ·refineλ_ b3 s3 _ _ b4 s4 _ _=>⟨⟨tbJ (some ⟨b3,s3+0,none⟩,3,3) [leaf 4 0 (mkS [101,110,117,109]),leaf 4 0 name,lsJ (slH b1 s1 r) (syL r)] (some ⟨b4,s4+0,none⟩,3,3) [mkS [116,121,112,101],mkS [110,97,109,101],mkS [115,121,109,98,111,108,115]],z06 L (z06 L (z06 L n)),N1⟩,rfl,rfl,rfl,rfl,rfl,rfl,rfl,rfl,rfl,rfl,hNr,hNl,⟨?_,by omega,nb3.2.1,by omega,by omega,hN'⟩,λq hq=> ?_⟩
   ·exact z3b (by simp) rfl (by decide) (z03 (z08 (by decide) (by omega) (by omega)) (z03 (z08 (by omega) (by omega) (by omega)) (z03 (z4a (zil hr3.1 hr3.2).1 (zil hr3.1 hr3.2).2) z0o)))
   ·have hsy:=zxt (b:=b1) (s:=s1) hr3.1 hr3.2 hq.1.1.2
    exact z3a (z0k rfl (Nat.le_refl _) hq.1.2) (z0k rfl (Nat.le_refl _) hq.2) (z02 z07 (z02 z07 (z02 (z49 hsy.1 hsy.2) z0n)))
 ·refine⟨⟨name,x,L,z06 L n,d,N1⟩,rfl,rfl,rfl,rfl,rfl,rfl,hNr,hNl,⟨?_,by show name.size<100;omega,by omega,nb.2.1,hL,hd0,hd.1,by omega,hN'⟩,λq hq=>hq,?_⟩
  ·show(10- d).toNat<c+1;omega
  rintro⟨g,n',N'⟩ ⟨hw,p1,p2,p3,p4,p5⟩ _
  simp only at p1 p2 p3 p4
  exact⟨⟨g,n',N'⟩,rfl,rfl,rfl,rfl,rfl,rfl,rfl,rfl,rfl,rfl,rfl,rfl,rfl,rfl,rfl,⟨hw,by omega,p2,by omega,by omega,p5⟩,λq hq=>hq.2⟩
end
def z7r:∀{l m:List GJ} {p:Pub},GJ.oks l p->GJ.oks m p->GJ.oks (l++m) p
  | [],m,p,h1,h2=>h2
  | g::l,m,p,h1,h2=>by
    rw[GJ.oks]at h1
    exact z02 h1.1 (z7r h1.2 h2)
def z7v:∀{l m:List GJ},GJ.wfs l->GJ.wfs m->GJ.wfs (l++m)
  | [],m,h1,h2=>h2
  | g::l,m,h1,h2=>by
    rw[GJ.wfs]at h1
    exact z03 h1.1 (z7v h1.2 h2)
def zdq(c:Nat) (ht:q22 P 70 (z4m.below z4n c)):q22 P 33 (z1q.below zou (c+1)):=by
 refine qlb mixed (qee (qih z9g (qih z5q (qih z9q (qih zo6 qlq))))) (qf7 (qig ht qlp)) (W:=za4) Go.Proofs.Tryz.func33 (by kernel_rfl) (show 1<=5 by decide) (show 5<=7 by decide) (λs=>by kernel_rfl) λ⟨s,(x:SV),(L:List Int),(n:Int),(d:Int),N⟩=>(zpe c s x L n d N).mpr ?_
 rintro⟨hmu,hss,hn0,hn1,hL,hd0,hd1,hN,hNs⟩ ⟨p,_,hp⟩
 have hmu:(10- d).toNat<c+1:=hmu
 simp only[sbS,Int.toNat_natCast,exists_const]
 have nb:=z1r hn1
 have hLl:=hL.1
 have hr5:=z1h (n:=n) (m:=5) hL (by omega)
 refine⟨L,⟨hn0,hn1,by omega,by omega,hL⟩,λq hq=>hq,⟨⟨0,z06 L n,N,[]⟩,rfl,rfl,rfl,rfl,rfl,λq hq=>z0n,by omega,by omega,by omega,rfl,z0o,nb.1,nb.2.1,Nat.le_refl _,by omega,hNs⟩,?_⟩
 rintro⟨i,n1,N1,fs⟩ ⟨i0,i1,i2,hfl,hfw,q1,q2,q3,q4,q5⟩ _
 simp only at i0 i1 i2 hfl hfw q1 q2 q3 q4 q5⊢
 refine⟨λhlt=>⟨by omega,⟨x,L,n1,d+1,N1⟩,rfl,rfl,rfl,rfl,rfl,rfl,rfl,⟨?_,by omega,q2,hL,by omega,by omega,by omega,q5⟩,λq hq=>hq.1,?_⟩,λhge=> ?_⟩
 ·show(10- (d+1)).toNat<c;omega
 ·rintro⟨g,n2,N2⟩ ⟨hw,p1,p2,p3,p4,p5⟩ _
  simp only at p1 p2 p3 p4
  have hr3:=z1h (n:=n2) (m:=3) hL (by omega)
  have nb2:=z1r p2
  have dfb:=zo4 (g:=g) (L:=L) (n:=z06 L n2) hL nb2.2.1
  obtain⟨e,rfl⟩:=Int.eq_ofNat_of_zero_le i0
  have hz:(mkS [97+e]).size=1:=rfl
  have hsz:(mkS [102]++mkS [97+e]).size=2:=by rw[ByteArray.size_append,hz];rfl
  refine⟨by omega,mkS [97+e],rfl,?_,by rw[hz];decide,L,⟨by show 0<=n2;omega,p2,by omega,by omega,hL⟩,λq hq=>hq.1.1,λh0=>⟨by decide,⟨L,g⟩,rfl,rfl,rfl,rfl,rfl,rfl,rfl,rfl,rfl,⟨by show 0<=z06 L n2;omega,nb2.2.1,hL,hw⟩,λq hq=>⟨hq.1.1,hq.2⟩,by decide,λ_ _ _ a _ cc _ _ _ _ a2 _ cc2 _=>⟨z01 z37 fs,by omega,by omega,⟨(e:Int)+1,(z2j g L (z06 L n2)).2.2.2,N2,fs++[tbJ (a,3,cc) [leaf 4 0 (mkS [102]++mkS [97+e]),g,leaf (z2j g L (z06 L n2)).1 (z2j g L (z06 L n2)).2.1 (z2j g L (z06 L n2)).2.2.1] (a2,3,cc2) [mkS [110,97,109,101],mkS [116,121,112,101],mkS [100,101,102,97,117,108,116]]]⟩,rfl,rfl,rfl,rfl,rfl,?_,rfl,rfl,by simp,λq hq=>hq.1.1.1.1,λq hq=> ?_,?_,?_⟩⟩,λh0 b3 s3 _ _ b4 s4 _ _=>⟨z01 z37 fs,by omega,by omega,⟨(e:Int)+1,z06 L n2,N2,fs++[tbJ (some ⟨b3,s3+0,none⟩,2,2) [leaf 4 0 (mkS [102]++mkS [97+e]),g] (some ⟨b4,s4+0,none⟩,2,2) [mkS [110,97,109,101],mkS [116,121,112,101]]]⟩,rfl,rfl,rfl,rfl,rfl,?_,rfl,rfl,by simp,λq hq=>hq.1.1.1.1,λq hq=> ?_,?_,?_⟩⟩
  ·intro j v hj
   rw[zm2 _ (by omega)]at hj
   rw[show IntKind.wrap .u8 (97+(e:Int))=((97+e:Nat):Int)by rw[zjc];omega,Nat.zero_add];exact hj
  ·rw[z04];rfl
  ·exact z7r hq.1.1.1.2 (z02 (z3a (z39 rfl hq.1.2) (z39 rfl hq.2) (z02 z07 (z02 hq.1.1.2 (z02 z07 z0n)))) z0n)
  ·refine⟨by omega,by omega,i2,by rw[List.length_append];show((fs.length+1:Nat):Int)=_;omega,z7v hfw (z03 (z3b (by simp) rfl (by decide) (z03 (z08 (by omega) (by omega) (by omega)) (z03 hw (z03 (z08 (by omega) (by omega) (by omega)) z0o)))) z0o),by omega,dfb.1.2,by omega,by omega,p5⟩
  ·show(z0u L n 5- ((e:Int)+1)).toNat<_;omega
  ·rw[z04];rfl
  ·exact z7r hq.1.1.1.2 (z02 (z3a (z0k rfl (Nat.le_refl _) hq.1.2) (z0k rfl (Nat.le_refl _) hq.2) (z02 z07 (z02 hq.1.1.2 z0n))) z0n)
  ·refine⟨by omega,by omega,i2,by rw[List.length_append];show((fs.length+1:Nat):Int)=_;omega,z7v hfw (z03 (z3b (by simp) rfl (by decide) (z03 (z08 (by omega) (by omega) (by omega)) (z03 hw z0o))) z0o),by omega,nb2.2.1,by omega,by omega,p5⟩
  ·show(z0u L n 5- ((e:Int)+1)).toNat<_;omega
 ·intro _ _ _ a _ cc _ b3 s3 _ _ b4 s4 _ _
  refine⟨⟨tbJ (some ⟨b3,s3+0,none⟩,4,4) [leaf 4 0 (mkS [114,101,99,111,114,100]),leaf 4 0 s,leaf 4 0 (mkS [115]),lsJ (a,fs.length,cc) fs] (some ⟨b4,s4+0,none⟩,4,4) [mkS [116,121,112,101],mkS [110,97,109,101],mkS [110,97,109,101,115,112,97,99,101],mkS [102,105,101,108,100,115]],n1,N1⟩,rfl,rfl,rfl,rfl,rfl,rfl,rfl,rfl,rfl,rfl,rfl,rfl,⟨?_,q1,q2,q3,q4,q5⟩,λq hq=> ?_⟩
  ·exact z3b (by simp) rfl (by decide) (z03 (z08 (by decide) (by omega) (by omega)) (z03 (z08 (by omega) (by omega) (by omega)) (z03 (z08 (by decide) (by omega) (by omega)) (z03 (z4a (by omega) hfw) z0o))))
  ·have e1:List.take (fs.length*5) (z00 GJ.cells fs)=z00 GJ.cells fs:=List.take_of_length_le (by rw[z01 z37];exact Nat.le_refl _)
   have e2:=hq.1.1.2
   rw[e1]at e2
   exact z3a (z0k rfl (Nat.le_refl _) hq.1.2) (z0k rfl (Nat.le_refl _) hq.2) (z02 z07 (z02 z07 (z02 z07 (z02 (z49 (z39 rfl e2) hq.1.1.1.2) z0n))))
def z2r:∀c,q22 P 70 (z4m.below z4n c)/\q22 P 33 (z1q.below zou c)
 |0=>⟨CtR.below_zero (by decide) (by decide) (Sen.enters_of Go.Proofs.Tryz.func70 (by kernel_rfl)) λs=>rfl,CtR.below_zero (by decide) (by decide) (Sen.enters_of Go.Proofs.Tryz.func33 (by kernel_rfl)) λs=>rfl⟩
 |c+1=>⟨zpx c (z2r c).1 (zj2 c (z2r c).1) (zdq c (z2r c).1),zdq c (z2r c).1⟩
def zig:q22 P 33 z1q:=CtR.of_below λc=>(z2r c).2
def z7i:CtR:=ctN (List AT×SV×Int×GJ) (λ⟨S,x,t,g⟩=>[scA x, .sv (.int .i64 t),g.av]) (λ⟨S,x,t,g⟩=>z0w S/\g.wf) (λ⟨S,x,t,g⟩=>sgM S x g) (Int×GV) (λ_ _=>True) (λ_ ⟨e,v⟩=>vM v) λ_ ⟨e,v⟩=> .tup [v.av, .sv (.int .i64 e)]
def sM(S:List AT) (x:SV):PF:=⟨true,z09 S x,λ_ _ h e=>z0y h e⟩
def z5a:CtR:=ctN (List AT×SV) (λ⟨S,x⟩=>[scA x]) (λ⟨S,x⟩=>z0w S) (λ⟨S,x⟩=>sM S x) (Int×Int×Int) (λ_ _=>True) (λ_ _=>{}) λ_ ⟨e,t,i⟩=> .tup [.sv (.int .i64 e), .sv (.int .i64 t), .sv (.int .i64 i)]
def zem:z5a.σ->WayF:=λ⟨S,x⟩=>{
 ann:=λid t _=>match id with
  |0=>some {σ:=Nat,pre:=λj=>j<=S.length,t:=λj=>[(5, .sv (.int .i64 (j:Int)))],h:=λ_=>[],more:=0,μ:=λj=>S.length- j,keep:=[1]}
  |_=>some {σ:=Nat,t:=λk=>[(6, .sv (.int .i64 (k:Int)))],h:=λ_=>[],more:=0,μ:=λk=>100- k,keep:=[1,5]}}
abbrev RcS:=SV×List Int×Int
def zav:RcS->Prop:=λ⟨x,L,n⟩=>0<=n/\n<=L.length/\z0q L
def z5f:CtR where
 σ:=RcS
 args:=λ⟨x,L,n⟩=>[.ptr 1 0]
 h:=λ⟨x,L,n⟩=>pkO x n
 m:=2
 pre:=zav
 mem:=λ⟨x,L,n⟩=>byM x L
 β:=λ_=>GJ×Int
 post:=λ⟨x,L,n⟩ ⟨g,n'⟩=>g.wf/\n<=n'/\n'<=L.length
 pm:=λ_ ⟨g,n'⟩=>gM g
 r:=λ_ ⟨g,n'⟩=>g.av
 h':=λ⟨x,L,n⟩ ⟨g,n'⟩=>pkO x n'
 m':=2
def znq:CtR where
 σ:=RcS
 args:=λ⟨x,L,n⟩=>[.ptr 1 0]
 h:=λ⟨x,L,n⟩=>pkO x n
 m:=2
 pre:=zav
 mem:=λ⟨x,L,n⟩=>byM x L
 β:=λ_=>List AT×SV×Bool×Int
 post:=λ⟨x,L,n⟩ ⟨S,y,b,n'⟩=>z0w S/\(b=true->S≠[])/\n<=n'/\n'<=L.length
 pm:=λ_ ⟨S,y,b,n'⟩=>sM S y
 r:=λ_ ⟨S,y,b,n'⟩=> .tup [scA y, .sv (.bool b)]
 h':=λ⟨x,L,n⟩ ⟨S,y,b,n'⟩=>pkO x n'
 m':=2
section
variable (x0:VlB) (x1:List AT) (x2:SV) (x3:GJ) (x4:Int×GV) (x5:Prop) (x6:(Option Addr×Nat×Nat)×Int)
 def j72:= !(decide (0<=x6.2)&&decide (x6.2<(↑x6.1.2.1:Int)))
 def j71:=GV.n x4.2=0/\GV.s x4.2=mkS []/\(GV.x x4.2).1=noA/\(GV.x x4.2).2.1=0/\(GV.x x4.2).2.2=0/\(GV.y x4.2).1=noA/\(GV.y x4.2).2.1=0/\(GV.y x4.2).2.2=0/\GV.b x4.2=0/\x5
 def jgl:=((!decide (x0.2.1=0))=true->∃(i0:Int×GV),j71 i0 (i0.1=x0.2.1/\True/\(∀i1,(True/\z09 x1 x2 i1/\GJ.ok x3 i1)/\GV.ok x0.2.2 i1->GV.ok i0.2 i1)/\True))/\((!decide (x0.2.1=0))=false->∃(i2:Int×GV),GV.n i2.2=GV.n x0.2.2/\GV.s i2.2=GV.s x0.2.2/\(GV.x i2.2).1=(GV.x x0.2.2).1/\(GV.x i2.2).2.1=(GV.x x0.2.2).2.1/\(GV.x i2.2).2.2=(GV.x x0.2.2).2.2/\(GV.y i2.2).1=(GV.y x0.2.2).1/\(GV.y i2.2).2.1=(GV.y x0.2.2).2.1/\(GV.y i2.2).2.2=(GV.y x0.2.2).2.2/\GV.b i2.2=GV.b x0.2.2/\i2.1=0/\True/\(∀i3,(True/\z09 x1 x2 i3/\GJ.ok x3 i3)/\GV.ok x0.2.2 i3->GV.ok i2.2 i3)/\True)
end
def zb3(S:List AT) (x:SV) (t:Int) (g:GJ):qm3 P (qh2 [(30,j3b)]) (qi5 [(74,cVl)]) Go.Proofs.Tryz.f34 z7i (λ_=>{}) ⟨S,x,t,g⟩=(z0w S/\GJ.wf g->(∃(p:Pub),True/\z09 S x p/\GJ.ok g p)->∃(s:(Option Addr×Nat×Nat)×Int),s.1.1=x.1/\s.1.2.1=x.2.1/\s.1.2.2=x.2.2/\s.2=t/\True/\((j72 s)=true->∃(b:Int×GV),j71 b (b.1=1/\True/\(∀(p:Pub),True/\z09 S x p/\GJ.ok g p->GV.ok b.2 p)/\True))/\((j72 s)=false->∃(s:VlS),s.2.2.2.1=t/\GJ.k s.2.2.2.2.1=GJ.k g/\GJ.n s.2.2.2.2.1=GJ.n g/\GJ.s s.2.2.2.2.1=GJ.s g/\(GJ.y s.2.2.2.2.1).1=(GJ.y g).1/\(GJ.y s.2.2.2.2.1).2.1=(GJ.y g).2.1/\(GJ.y s.2.2.2.2.1).2.2=(GJ.y g).2.2/\(GJ.x s.2.2.2.2.1).1=(GJ.x g).1/\(GJ.x s.2.2.2.2.1).2.1=(GJ.x g).2.1/\(GJ.x s.2.2.2.2.1).2.2=(GJ.x g).2.2/\s.2.2.2.2.2=1/\s.2.1.1=x.1/\s.2.1.2.1=x.2.1/\s.2.1.2.2=x.2.2/\s.2.2.1=0/\(z0w s.1/\(0<=s.2.2.2.1/\s.2.2.2.1<(↑(length s.1):Int))/\GJ.wf s.2.2.2.2.1/\(0<=s.2.2.1/\s.2.2.1<=2000)/\1<=s.2.2.2.2.2/\s.2.2.2.2.2<=21)/\(∀(p:Pub),True/\z09 S x p/\GJ.ok g p->z09 s.1 s.2.1 p/\GJ.ok s.2.2.2.2.1 p)/\∀(b:VlB),z0l s.2.2.1 b->(∃(p:Pub),(True/\z09 S x p/\GJ.ok g p)/\GV.ok b.2.2 p)->jgl b S x g)):=by kernel_rfl
def zef:=λS x t g=>Eq.trans (zb3 S x t g) (by delta j72 j71 jgl;exact rfl)
section
variable (x0:SV) (x1:List AT) (x2 x3:Nat) (x4:Int×GV) (x5:Prop) (x6:Option Addr) (x7:Nat)
 abbrev zuq:=x0.1=x0.1/\x0.2.1=x0.2.1/\x0.2.2=x0.2.2/\x5
 def j2j:=zuq x0 ((∀i0,True/\z09 x1 x0 i0->True/\z09 x1 x0 i0)/\x5)
 abbrev zla:=(↑x2:Int)<(↑x0.2.1:Int)
 def zur:=(∀i0,True/\z09 x1 x0 i0->q3p i0 (Addr.add (adr x0.1 (toNat (↑x2:Int)*10)) 8) [slice x6 x3 x7])
 abbrev zl9:=Jb ((↑x2:Int)+1)
 def jgu:=zl9 x2/\∃(i0:Nat),(↑x3:Int)=(↑x3:Int)/\(↑i0:Int)=(↑x2:Int)+1/\j2j x0 x1 (True/\(100:Nat)- i0<100- x2/\True)
 def jgs:=zl9 x2/\∃(i0:Nat),(↑x3:Int)=(↑x3:Int)/\(↑i0:Int)=(↑x2:Int)+1/\zuq x0 ((∀i1,(True/\z09 x1 x0 i1)/\GV.ok x4.2 i1->True/\z09 x1 x0 i1)/\True/\(100:Nat)- i0<100- x2/\True)
 def jgr:=((!decide (x4.1=0))=true->∃(i0:Int×Int×Int),i0.1=x4.1/\i0.2.1=(↑x2:Int)/\i0.2.2=(↑x3:Int)/\True/\True)/\((!decide (x4.1=0))=false->jgs x0 x1 x3 x2 x4)
 def jgq:=(0<=(↑x2:Int)/\zla x0 x2)/\x0.1≠noA/\∃i0,∃(i1:Nat),∃(i2:Nat),zur x0 x1 x2 i1 i0 i2/\(0<=(↑x3:Int)/\(↑x3:Int)<(↑i1:Int))/\i0≠noA/\∃i4,∃i5,∃(i6:Nat),∃(i7:Nat),∃(i8:Int),∃(i9:Bool),∃(i10:Int),∃(i11:Int),∃i12,∃i13,∃(i14:Nat),∃(i15:Nat),∃i16,∃(i17:Nat),∃(i18:Nat),(∀i19,True/\z09 x1 x0 i19->q3p i19 (adr i0 (toNat (↑x3:Int)*9)) [string i4,slice i5 i6 i7,int i64 i8,bool i9,int i64 i10,int i64 i11,string i12,slice i13 i14 i15,slice i16 i17 i18])/\((!i9)=true->jgu x0 x1 x3 x2)/\((!i9)=false->∃(i22:List AT×(Option Addr×Nat×Nat)×Int×GJ),i22.2.1.1=x0.1/\i22.2.1.2.1=x0.2.1/\i22.2.1.2.2=x0.2.2/\i22.2.2.1=i8/\GJ.k i22.2.2.2=i10/\GJ.n i22.2.2.2=i11/\GJ.s i22.2.2.2=i12/\(GJ.y i22.2.2.2).1=i13/\(GJ.y i22.2.2.2).2.1=i14/\(GJ.y i22.2.2.2).2.2=i15/\(GJ.x i22.2.2.2).1=i16/\(GJ.x i22.2.2.2).2.1=i17/\(GJ.x i22.2.2.2).2.2=i18/\(z0w i22.1/\GJ.wf i22.2.2.2)/\(∀i23,True/\z09 x1 x0 i23->z09 i22.1 i22.2.1 i23/\GJ.ok i22.2.2.2 i23)/\∀(i24:Int×GV),True->(∃i25,(True/\z09 x1 x0 i25)/\GV.ok i24.2 i25)->jgr x0 x1 x2 x3 i24)
 def jgt:=zl9 x2/\∃(i0:Nat),(↑i0:Int)=(↑x2:Int)+1/\j2j x0 x1 (i0<=length x1/\length x1- i0<length x1- x2/\True)
 def jgp:=(0<=(↑x2:Int)/\zla x0 x2)/\x0.1≠noA/\∃i0,∃(i1:Nat),∃(i2:Nat),zur x0 x1 x2 i1 i0 i2/\Ji ((↑x3:Int)<(↑i1:Int)) (jgq x0 x1 x2 x3) (jgt x0 x1 x2)
 def jgo:=(∃(i0:Nat),(↑x2:Int)=(↑x2:Int)/\(↑i0:Int)=0/\j2j x0 x1 (True/\True))/\∀(i2:Nat),True->jgp x0 x1 x2 i2
 def jgn:=Ji (zla x0 x2) (jgo x0 x1 x2) (∃(i38:Int×Int×Int),i38.1=0/\i38.2.1=0/\i38.2.2=0/\True/\True)
 def jgm:=(∃(i0:Nat),(↑i0:Int)=0/\j2j x0 x1 (i0<=length x1/\True))/\∀(i2:Nat),i2<=length x1->jgn x0 x1 i2
end
def zaf(S:List AT) (x:SV):qm3 P (qh2 []) (qi5 [(34,z7i)]) Go.Proofs.Tryz.f20 z5a (zem) ⟨S,x⟩=(z0w S->(∃(p:Pub),True/\z09 S x p)->jgm x S):=by kernel_rfl
def zc8:=λS x=>Eq.trans (zaf S x) (by delta Ji Jb Jt Jf zuq j2j zla zur zl9 jgu jgs jgr jgq jgt jgp jgo jgn jgm;exact rfl)
def zaw(x:SV) (L:List Int) (n:Int):qm1 P (qh2 []) (qi5 [(33,z1q)]) Go.Proofs.Tryz.f19 z5f (λ_=>{}) ⟨x,L,n⟩=(zav (x,L,n)->(∃(p:Pub),True/\slP byV x L p)->∃(s:ByteArray×TrS),s.1=mkS [84,111,112]/\s.2.2.2.2.1=0/\s.2.1.1=x.1/\s.2.1.2.1=x.2.1/\s.2.1.2.2=x.2.2/\s.2.2.2.1=n/\z00 txV s.2.2.2.2.2=[string (mkS [84,111,112])]/\length s.2.2.2.2.2=nat_lit 1/\(size s.1<100/\z2z 3 s.2)/\(∀(p:Pub),True/\slP byV x L p->slP byV s.2.1 s.2.2.1 p)/\∀(b:TrB),z10 s.2.2.1 s.2.2.2.1 s.2.2.2.2.2 b->(∃(p:Pub),(True/\slP byV x L p)/\GJ.ok b.1 p)->∃(b_1:GJ×Int),GJ.k b_1.1=GJ.k b.1/\GJ.n b_1.1=GJ.n b.1/\GJ.s b_1.1=GJ.s b.1/\(GJ.y b_1.1).1=(GJ.y b.1).1/\(GJ.y b_1.1).2.1=(GJ.y b.1).2.1/\(GJ.y b_1.1).2.2=(GJ.y b.1).2.2/\(GJ.x b_1.1).1=(GJ.x b.1).1/\(GJ.x b_1.1).2.1=(GJ.x b.1).2.1/\(GJ.x b_1.1).2.2=(GJ.x b.1).2.2/\x.1=s.2.1.1/\x.2.1=s.2.1.2.1/\x.2.2=s.2.1.2.2/\b_1.2=b.2.1/\(GJ.wf b_1.1/\n<=b_1.2/\b_1.2<=(↑(length L):Int))/\(∀(p:Pub),(True/\slP byV x L p)/\GJ.ok b.1 p->GJ.ok b_1.1 p)/\True):=by kernel_rfl
section
variable (x0:List AT×(Option Addr×Nat×Nat)×Int) (x1:SV) (x2:RcS) (x3:GJ×Int) (x4:Int) (x5:List Int) (x6:List AT×(Option Addr×Nat×Nat)×Bool×Int) (x7:Prop)
 def j74:=x6.2.1.1=x0.2.1.1/\x6.2.1.2.1=x0.2.1.2.1/\x6.2.1.2.2=x0.2.1.2.2/\x7
 def j73:=x1.1=x2.1.1/\x1.2.1=x2.1.2.1/\x1.2.2=x2.1.2.2/\x6.2.2.2=x3.2/\(z0w x6.1/\(x6.2.2.1=true->x6.1≠[])/\x4<=x6.2.2.2/\x6.2.2.2<=(↑(length x5):Int))/\(∀i0,((True/\slP byV x1 x5 i0)/\GJ.ok x3.1 i0)/\z09 x0.1 x0.2.1 i0->z09 x6.1 x6.2.1 i0)/\True
 def jgv:=((!decide (x0.2.2=0))=true->∃(i0:List AT×(Option Addr×Nat×Nat)×Bool×Int),j74 x0 i0 (i0.2.2.1=false/\j73 x0 x1 x2 x3 x4 x5 i0))/\((!decide (x0.2.2=0))=false->∃(i2:List AT×Option Addr×Nat×Nat),i2.2.1=x0.2.1.1/\i2.2.2.1=x0.2.1.2.1/\i2.2.2.2=x0.2.1.2.2/\z0w i2.1/\(∀i3,((True/\slP byV x1 x5 i3)/\GJ.ok x3.1 i3)/\z09 x0.1 x0.2.1 i3->z09 i2.1 i2.2 i3)/\∀(i4:Int×Int×Int),True->∃(i5:List AT×(Option Addr×Nat×Nat)×Bool×Int),j74 x0 i5 (i5.2.2.1=decide (i4.1=0)/\j73 x0 x1 x2 x3 x4 x5 i5))
end
def zgl(x:SV) (L:List Int) (n:Int):qm3 P (qh2 []) (qi5 [(19,z5f),(18,zc3),(20,z5a)]) Go.Proofs.Tryz.f9 znq (λ_=>{}) ⟨x,L,n⟩=(zav (x,L,n)->(∃(p:Pub),True/\slP byV x L p)->∃(s:RcS),s.1.1=x.1/\s.1.2.1=x.2.1/\s.1.2.2=x.2.2/\s.2.2=n/\zav s/\(∀(p:Pub),True/\slP byV x L p->slP byV s.1 s.2.1 p)/\∀(b:GJ×Int),GJ.wf b.1/\s.2.2<=b.2/\b.2<=(↑(length s.2.1):Int)->(∃(p:Pub),(True/\slP byV x L p)/\GJ.ok b.1 p)->∃(s_1:GJ),GJ.k s_1=GJ.k b.1/\GJ.n s_1=GJ.n b.1/\GJ.s s_1=GJ.s b.1/\(GJ.y s_1).1=(GJ.y b.1).1/\(GJ.y s_1).2.1=(GJ.y b.1).2.1/\(GJ.y s_1).2.2=(GJ.y b.1).2.2/\(GJ.x s_1).1=(GJ.x b.1).1/\(GJ.x s_1).2.1=(GJ.x b.1).2.1/\(GJ.x s_1).2.2=(GJ.x b.1).2.2/\GJ.wf s_1/\(∀(p:Pub),(True/\slP byV x L p)/\GJ.ok b.1 p->GJ.ok s_1 p)/\∀(b_1:List AT×(Option Addr×Nat×Nat)×Int),z0w b_1.1/\(b_1.2.2=0->b_1.1≠[])->(∃(p:Pub),((True/\slP byV x L p)/\GJ.ok b.1 p)/\z09 b_1.1 b_1.2.1 p)->jgv b_1 x s b n L):=by kernel_rfl
def znj:=λx L n=>Eq.trans (zgl x L n) (by delta j74 j73 jgv;exact rfl)
def zeg:q22 P 34 z7i:=by
 refine qlb mixed (qee (qih zct qlq)) (qf7 (qig zy1 qlp)) (W:=λ_=>{}) Go.Proofs.Tryz.func34 (by kernel_rfl) (show 1<=1 by decide) (show 1<=1 by decide) (λs=>by kernel_rfl) λ⟨S,(x:SV),(t:Int),g⟩=>(zef S x t g).mpr ?_
 rintro⟨hS,hg⟩ ⟨p,_,hx,hgo⟩
 have sl:x.2.1=S.length:=hx.1.1
 simp only[sbS,exists_const,forall_const,Int.toNat_natCast]
 refine⟨⟨x,t⟩,rfl,rfl,rfl,rfl,λh=>⟨⟨1,zV⟩,rfl,rfl,rfl,rfl,rfl,rfl,rfl,rfl,rfl,rfl,λq hq=>z17 q⟩,λh=> ?_⟩
 simp only[sl,Bool.and_eq_true,decide_eq_true_eq]at h
 refine⟨⟨S,x,0,t,g,1⟩,rfl,rfl,rfl,rfl,rfl,rfl,rfl,rfl,rfl,rfl,rfl,rfl,rfl,rfl,rfl,⟨hS,h,hg,⟨(by show(0:Int)<=0;decide),(by show(0:Int)<=2000;decide)⟩,(by show(1:Int)<=1;decide),(by show(1:Int)<=21;decide)⟩,λq hq=>hq,?_⟩
 rintro⟨a,e,v⟩ _ _
 exact⟨λ_=>⟨⟨e,zV⟩,rfl,rfl,rfl,rfl,rfl,rfl,rfl,rfl,rfl,rfl,λq hq=>z17 q⟩,λ_=>⟨⟨0,v⟩,rfl,rfl,rfl,rfl,rfl,rfl,rfl,rfl,rfl,rfl,λq hq=>hq.2⟩⟩
def zc9:q22 P 20 z5a:=by
  refine qlb mixed (qee qlq) (qf7 (qig zeg qlp)) (W:=zem) Go.Proofs.Tryz.func20 (by kernel_rfl) (show 1<=1 by decide) (show 1<=1 by decide) (λs=>by kernel_rfl) λ⟨S,(x:SV)⟩=>(zc8 S x).mpr ?_
  rintro hS ⟨p,_,hx⟩
  have sl:x.2.1=S.length:=hx.1.1
  have h60:=hS.1
  simp only[sbS,exists_const,forall_const,Int.toNat_natCast,sl]
  refine⟨⟨0,rfl,Nat.zero_le _⟩,?_⟩
  rintro j hj
  refine⟨λhlt=>⟨⟨0,rfl⟩,λk=> ?_⟩,λhge=>⟨⟨0,0,0⟩,rfl,rfl,rfl⟩⟩
  have hjl:j<S.length:=by omega
  have hat:=λq (hq:z09 S x q)=>z9w hq hjl
  have hao:=λq (hq:z09 S x q)=>hq.2 S[j] (List.getElem_mem hjl)
  have hgd:=hS.2 S[j] (List.getElem_mem hjl)
  generalize S[j]=a at*
  obtain⟨_,_,fl,_⟩:=z1p (hao p hx)
  have hf30:=hgd.2.2.2.2.2.2.2.1
  have c8:∀q,z09 S x q->q3p q ((adr x.1 (j*10)).add 8) [.slice a.f.1 a.fs.length a.f.2.2]:=λq hq i v hi=>by
    cases i with
    | zero=>
      rw[←fl]at hi
      have:=(hat q hq).2 8 v hi
      rw[Addr.add_add];exact this
    |succ i=>simp at hi
  refine⟨⟨by omega,by omega⟩,(hat p hx).1,a.f.1,a.fs.length,a.f.2.2,c8,λhk=>⟨⟨by omega,by omega⟩,(hat p hx).1,a.f.1,a.fs.length,a.f.2.2,c8,⟨by omega,by omega⟩,?_⟩,λhk=>⟨⟨by omega,by omega⟩,j+1,by omega,by omega,by omega⟩⟩
  have hkl:k<a.fs.length:=by omega
  have hff:=hgd.2.2.2.2.1 _ (List.getElem_mem hkl)
  have fok:=λq (hq:z09 S x q)=>(hao q hq).2.2.2.2 a.fs[k] (List.getElem_mem hkl)
  have fat:=λq (hq:z09 S x q)=>z6k (hao q hq) hkl
  have hk100:k<100:=by omega
  generalize a.fs[k]=f at*
  refine⟨(fat p hx).1,f.nm,f.al.1,f.al.2.1,f.al.2.2,f.ty,f.hd,f.df.k,f.df.n,f.df.s,f.df.y.1,f.df.y.2.1,f.df.y.2.2,f.df.x.1,f.df.x.2.1,f.df.x.2.2,λq hq=>(fat q hq).2,λ_=>⟨⟨by omega,by omega⟩,k+1,by omega,by omega⟩,λ_=>⟨⟨S,x,f.ty,f.df⟩,rfl,sl,rfl,rfl,rfl,rfl,rfl,rfl,rfl,rfl,rfl,rfl,rfl,⟨hS,hff.2⟩,λq hq=>⟨hq,(fok q hq).2⟩,?_⟩⟩
  rintro⟨e,v⟩ _
  exact⟨λ_=>⟨⟨e,j,k⟩,rfl,rfl,rfl⟩,λ_=>⟨⟨by omega,by omega⟩,k+1,by omega,λq hq=>hq.1,by omega⟩⟩
def zax:q22 P 19 z5f:=by
 refine qla mixed (qee qlq) (qf7 (qig zig qlp)) (W:=λ_=>{}) Go.Proofs.Tryz.func19 (by kernel_rfl) (show 1<=2 by decide) (show 2<=2 by decide) (λs=>by kernel_rfl) λ⟨(x:SV),L,(n:Int)⟩=>(zaw x L n).mpr ?_
 rintro⟨hn0,hn1,hL⟩ ⟨p,_,hx⟩
 simp only[sbS,exists_const,forall_const,Int.toNat_natCast]
 refine⟨⟨mkS [84,111,112],x,L,n,0,[mkS [84,111,112]]⟩,rfl,rfl,rfl,rfl,rfl,rfl,rfl,rfl,⟨(by show(3:Nat)<100;decide),⟨hn0,hn1,hL,(by show(0:Int)<=0;decide),(by show(0:Int)<=3;decide),(by show((1:Nat):Int)<=n+1;omega),λt ht=>(by simp at ht;subst ht;show 3<100;decide)⟩⟩,λq hq=>hq,?_⟩
 rintro⟨g,n',N'⟩ ⟨hw,h1,h2,_⟩ _
 exact⟨⟨g,n'⟩,rfl,rfl,rfl,rfl,rfl,rfl,rfl,rfl,rfl,rfl,rfl,rfl,rfl,⟨hw,h1,h2⟩,λq hq=>hq.2⟩
def znk:q22 P 9 znq:=by
 refine qlb mixed (qee qlq) (qf7 (qig zax (qig zh7 (qig zc9 qlp)))) (W:=λ_=>{}) Go.Proofs.Tryz.func9 (by kernel_rfl) (show 1<=2 by decide) (show 2<=2 by decide) (λs=>by kernel_rfl) λ⟨(x:SV),L,(n:Int)⟩=>(znj x L n).mpr ?_
 rintro⟨hn0,hn1,hL⟩ ⟨p,_,hx⟩
 simp only[sbS,exists_const,forall_const,Int.toNat_natCast]
 refine⟨⟨x,L,n⟩,rfl,rfl,rfl,rfl,⟨hn0,hn1,hL⟩,λq hq=>hq,?_⟩
 rintro⟨g,n'⟩ ⟨hw,h1,h2⟩ _
 refine⟨g,rfl,rfl,rfl,rfl,rfl,rfl,rfl,rfl,rfl,hw,λq hq=>hq.2,?_⟩
 rintro⟨S,y,e⟩ ⟨hS,hne⟩ _
 simp only at hS hne⊢
 refine⟨λhe=>⟨⟨S,y,false,n'⟩,rfl,rfl,rfl,rfl,trivial,trivial,trivial,rfl,⟨hS,λh=>(by cases h),h1,h2⟩,λq hq=>hq.2⟩,λhe=>⟨⟨S,y⟩,rfl,rfl,rfl,hS,λq hq=>hq.2,?_⟩⟩
 rintro⟨e2,t,i⟩
 exact⟨⟨S,y,decide (e2=0),n'⟩,rfl,rfl,rfl,rfl,trivial,trivial,trivial,rfl,⟨hS,λ_=>hne he,h1,h2⟩,λq hq=>hq.2⟩
section
def z5n:∀{l:List PV},PV.sms l↔∀v∈l,v.sm
 | []=>by unfold PV.sms;simp
 |v::l=>by unfold PV.sms;rw[z5n (l:=l)];simp
def z6n(k a:ByteArray) (l:List ByteArray):qb3 k (a::l)=if qfa a k=true then a::qb3 k l else if a=k then a::l else k::a::l:=by
 unfold qb3 z1f
 rw[kIx]
 by_cases h:qfa a k=true
 ·rw[if_pos h,if_pos h]
  simp only[List.getElem?_cons_succ,List.take_succ_cons,List.drop_succ_cons]
  split<;>rfl
 ·rw[if_neg h,if_neg h]
  simp only[List.getElem?_cons_zero,List.take_zero,List.drop_zero,List.nil_append,decide_eq_true_eq,Option.some.injEq]
variable {k:ByteArray} {ks:List ByteArray}
def zia{l:List PV} {w v:PV} (h:v∈z2n k ks l w):v=w\/v∈l:=by
 unfold z2n at h
 split at h
 ·rcases List.mem_or_eq_of_mem_set h with h|h
  ·exact .inr h
  ·exact .inl h
 ·rcases List.mem_append.1 h with h|h
  ·exact .inr (List.mem_of_mem_take h)
  ·rcases List.mem_cons.1 h with h|h
   ·exact .inl h
   ·exact .inr (List.mem_of_mem_drop h)
def z9j{x:ByteArray} (h:x∈qb3 k ks):x=k\/x∈ks:=by
 unfold qb3 at h
 split at h
 ·exact .inr h
 ·rcases List.mem_append.1 h with h|h
  ·exact .inr (List.mem_of_mem_take h)
  ·rcases List.mem_cons.1 h with h|h
   ·exact .inl h
   ·exact .inr (List.mem_of_mem_drop h)
end
section
def znp(x y:UInt8) (a b:List UInt8):Op.bytesLess (x::a) (y::b)=true↔x.toNat<y.toNat\/x=y/\Op.bytesLess a b=true:=by
 rw[Op.bytesLess,Bool.or_eq_true,Bool.and_eq_true,decide_eq_true_eq,beq_iff_eq]
 rfl
def zm3(b:List UInt8):Op.bytesLess b []=false:=by cases b<;>rfl
def z8v:∀{a b c:List UInt8},Op.bytesLess a b=true->Op.bytesLess b c=true->Op.bytesLess a c=true
  |a,b,[],_,h=>by rw[zm3]at h;cases h
  |a,[],z::c,h,_=>by rw[zm3]at h;cases h
  | [],y::b,z::c,_,_=>rfl
  | x ::a,y::b,z::c,h1,h2=>by
    rw[znp]at h1 h2⊢
    rcases h1 with h1|⟨rfl,h1⟩
    · rcases h2 with h2|⟨rfl,h2⟩
      · exact .inl (by omega)
      · exact .inl h1
    · rcases h2 with h2|⟨rfl,h2⟩
      · exact .inl h2
      · exact .inr ⟨rfl,z8v h1 h2⟩
def z5m{a b c:ByteArray} (h1:qfa a b=true) (h2:qfa b c=true):qfa a c=true:=z8v h1 h2
def zdt(a:ByteArray):qfa a a=false:=(z21 a a).1 (.inr rfl)
def zxl{a b:ByteArray} (h:qfa a b=true):a≠b:=λe=>by subst e;rw[zdt]at h;cases h
abbrev Up(l:List ByteArray):Prop:=l.Pairwise (λa b=>qfa a b=true)
def z6o(k a:ByteArray) (l:List ByteArray) (v:PV) (vs:List PV) (w:PV):z2n k (a::l) (v::vs) w=if qfa a k=true then v::z2n k l vs w else if a=k then w::vs else w::v::vs:=by
 unfold z2n z1f
 rw[kIx]
 by_cases h:qfa a k=true
 ·rw[if_pos h,if_pos h]
  simp only[List.getElem?_cons_succ,List.take_succ_cons,List.drop_succ_cons,List.set_cons_succ]
  split<;>rfl
 ·rw[if_neg h,if_neg h]
  simp only[List.getElem?_cons_zero,List.take_zero,List.drop_zero,List.nil_append,decide_eq_true_eq,Option.some.injEq,List.set_cons_zero]
def zi9(k:ByteArray):qb3 k []=[k]:=by unfold qb3 z1f;simp[kIx]
def zib(k:ByteArray) (w:PV):z2n k [] [] w=[w]:=by unfold z2n z1f;simp[kIx]
def zdk{k:ByteArray} {w:PV}:∀{l:List ByteArray} {vs:List PV},Up l->l.length=vs.length->k∉l->((qb3 k l).zip (z2n k l vs w)).Perm ((k,w)::l.zip vs)/\Up (qb3 k l)/\(qb3 k l).length=(z2n k l vs w).length
  | [],[],_,_,_=>by rw[zi9,zib];exact⟨.refl _,by simp,rfl⟩
  | a ::l,v::vs,hu,hl,hk=>by
    have hak:a≠k:=λe=>hk (by rw[e];exact List.mem_cons_self)
    have hkl:k∉l:=λh=>hk (List.mem_cons_of_mem _ h)
    obtain⟨ha,hu⟩:=List.pairwise_cons.1 hu
    rw[z6n,z6o]
    by_cases h:qfa a k=true
    · rw[if_pos h,if_pos h]
      obtain⟨i1,i2,i3⟩:=zdk (w:=w) hu (by simpa using hl) hkl
      refine⟨?_,List.pairwise_cons.2 ⟨λb hb=> ?_,i2⟩,by simp[i3]⟩
      · rw[List.zip_cons_cons,List.zip_cons_cons]
        exact(i1.cons _).trans (.swap _ _ _)
      · rcases z9j hb with rfl|hb
        · exact h
        · exact ha b hb
    · rw[if_neg h,if_neg hak,if_neg h,if_neg hak]
      have hka:qfa k a=true:=by
        rcases(z21 k a).2 (by simpa using h)with g|g
        · exact g
        · exact absurd g.symm hak
      refine⟨.refl _,List.pairwise_cons.2 ⟨λb hb=> ?_,List.pairwise_cons.2 ⟨ha,hu⟩⟩,by simpa using hl⟩
      rcases List.mem_cons.1 hb with rfl|hb
      · exact hka
      · exact z5m hka (ha b hb)
def zdl{k:ByteArray} {w:PV}:∀{l:List ByteArray} {vs:List PV},Up l->l.length=vs.length->k∈l->qb3 k l=l/\l.zip (z2n k l vs w)=(l.zip vs).map (rpl k w)/\l.length=(z2n k l vs w).length
  | a ::l,v::vs,hu,hl,hk=>by
    obtain⟨ha,hu⟩:=List.pairwise_cons.1 hu
    rw[z6n,z6o]
    by_cases h:qfa a k=true
    · rw[if_pos h,if_pos h]
      have hkl:k∈l:=by
        rcases List.mem_cons.1 hk with rfl|h2
        · rw[zdt]at h;cases h
        · exact h2
      obtain⟨i1,i2,i3⟩:=zdl (w:=w) hu (by simpa using hl) hkl
      refine⟨by rw[i1],?_,by simp[i3]⟩
      rw[List.zip_cons_cons,List.zip_cons_cons,List.map_cons,i2]
      unfold rpl
      rw[if_neg (show¬a=k from zxl h)]
    · have hak:a=k:=by
        rcases List.mem_cons.1 hk with rfl|h2
        · rfl
        · exact absurd (ha k h2) h
      subst hak
      rw[if_neg h,if_pos rfl,if_neg h,if_pos rfl]
      refine⟨rfl,?_,by simpa using hl⟩
      rw[List.zip_cons_cons,List.zip_cons_cons,List.map_cons]
      congr 1
      · unfold rpl;rw[if_pos rfl]
      · have e:∀p∈l.zip vs,rpl a w p=p:=λp hp=>by
          have:=ha p.1 (List.of_mem_zip (show(p.1,p.2)∈l.zip vs from hp)).1
          unfold rpl;rw[if_neg (λe=>zxl this e.symm)]
        rw[List.map_congr_left e,List.map_id']
def kI(k:ByteArray):List ByteArray->Nat
 | []=>0
 |a::l=>if k=a then 0 else kI k l+1
def zoi{k:ByteArray}:∀{l:List ByteArray},k∈l->∃h:kI k l<l.length,l[kI k l]=k
  | a ::l,h=>by
    by_cases e:k=a
    · exact⟨by simp[kI,e],by simp[kI,e]⟩
    · obtain⟨h1,h2⟩:=zoi (l:=l) ((List.mem_cons.1 h).resolve_left e)
      exact⟨by simp[kI,e];exact h1,by simp[kI,e];exact h2⟩
def zcs{k:ByteArray} {w:PV}:∀{ks:List ByteArray} {vs:List PV},ks.Nodup->ks.length=vs.length->k∈ks->ks.zip (vs.set (kI k ks) w)=(ks.zip vs).map (rpl k w)
  | a ::l,v::vs,hn,hl,hk=>by
    obtain⟨ha,hn⟩:=List.nodup_cons.1 hn
    by_cases e:k=a
    · subst e
      rw[kI,if_pos rfl,List.set_cons_zero,List.zip_cons_cons,List.zip_cons_cons,List.map_cons]
      congr 1
      · unfold rpl;rw[if_pos rfl]
      · have e:∀p∈l.zip vs,rpl k w p=p:=λp hp=>by
          have h1:=(List.of_mem_zip (show(p.1,p.2)∈l.zip vs from hp)).1
          unfold rpl;rw[if_neg (λe=>ha (by rw[←e];exact h1))]
        rw[List.map_congr_left e,List.map_id']
    · rw[kI,if_neg e,List.set_cons_succ,List.zip_cons_cons,List.zip_cons_cons,List.map_cons,zcs hn (by simpa using hl) ((List.mem_cons.1 hk).resolve_left e)]
      unfold rpl
      rw[if_neg (λq=>e q.symm)]
variable {ks:List ByteArray} {vs:List PV} {st:StI}
def z8q(h:z2a true ks vs st) (k:ByteArray):k∈st.1↔k∈ks:=by
 unfold z2a at h
 rw[if_pos rfl]at h
 obtain⟨_,h1,h2,_,hp⟩:=h
 have:=hp.map Prod.fst
 rw[List.map_fst_zip (by omega),List.map_fst_zip (by omega)]at this
 exact this.mem_iff
variable {k:ByteArray}
def zne{w:PV} (h:z2a true ks vs st) (hk:k∉ks):z2a true (ks++[k]) (vs++[w]) (qb3 k st.1,z2n k st.1 st.2 w):=by
 have hm:=z8q h k
 unfold z2a at h⊢
 rw[if_pos rfl]at h⊢
 obtain⟨h0,h1,h2,h3,hp⟩:=h
 obtain⟨p1,p2,p3⟩:=zdk (w:=w) h3 h2 (λg=>hk (hm.1 g))
 refine⟨?_,by simp[h1],p3,p2,p1.trans ?_⟩
 ·rw[List.nodup_append]
  exact⟨h0,by simp,λa ha b hb=>by simp at hb;subst hb;exactλe=>hk (by rw[←e];exact ha)⟩
 ·rw[List.zip_append h1]
  exact((hp.cons _).trans (List.perm_append_singleton _ _).symm)
def zng{w:PV} (h:z2a true ks vs st) (hk:k∈ks):z2a true ks (vs.set (kI k ks) w) (qb3 k st.1,z2n k st.1 st.2 w):=by
 have hm:=z8q h k
 unfold z2a at h⊢
 rw[if_pos rfl]at h⊢
 obtain⟨h0,h1,h2,h3,hp⟩:=h
 obtain⟨p1,p2,p3⟩:=zdl (w:=w) h3 h2 (hm.2 hk)
 refine⟨h0,by simp[h1],by rw[p1];exact p3,by rw[p1];exact h3,?_⟩
 rw[p1]
 show(st.1.zip (z2n k st.1 st.2 w)).Perm _
 rw[p2,zcs h0 h1 hk]
 exact hp.map _
def z5k{k:ByteArray}:∀{ks:List ByteArray} (j t:Nat),k∈ks->q1w (.string k) (meK ks j) t=some (t+kI k ks, .int .i64 ((j+kI k ks:Nat):Int))
  | a ::l,j,t,h=>by
    rw[meK,q1w]
    show(match decide (k=a)with|true=>_|false=>_)=_
    by_cases e:k=a
    · subst e
      simp[kI]
    · rw[decide_eq_false e]
      show q1w (.string k) (meK l (j+1)) (t+1)=_
      rw[z5k (j+1) (t+1) ((List.mem_cons.1 h).resolve_left e)]
      simp only[kI,if_neg e]
      rw[show t+1+kI k l=t+(kI k l+1)by omega,show j+1+kI k l=j+(kI k l+1)by omega]
def z2q{k:ByteArray}:∀{ks:List ByteArray} (j t:Nat),k∉ks->q1w (.string k) (meK ks j) t=none
  | [],j,t,_=>rfl
  | a::l,j,t,h=>by
    rw[meK,q1w]
    show(match decide (k=a)with|true=>_|false=>_)=_
    rw[decide_eq_false (λe=>h (by rw[e];exact List.mem_cons_self))]
    exact z2q (j+1) (t+1) λg=>h (List.mem_cons_of_mem _ g)
def zmg:∀(ks:List ByteArray) (k:ByteArray) (j:Nat),meK (ks++[k]) j=meK ks j++[⟨.string k, .int .i64 ((j+ks.length:Nat):Int),j+ks.length⟩]
  | [],k,j=>rfl
  | a::l,k,j=>by
    rw[List.cons_append,meK,zmg l k (j+1),meK,List.cons_append,List.length_cons,show j+1+l.length=j+(l.length+1)by omega]
def j51(h:k∈ks):qmb (.string k) (meK ks 0)=true:=by
 unfold qmb
 rw[z5k _ _ h]
def zx4(h:k∉ks):qmb (.string k) (meK ks 0)=false:=by
 unfold qmb
 rw[z2q _ _ h]
def zmh(z:Value) (h:k∈ks):qkl (.string k) (meK ks 0) z= .int .i64 (kI k ks:Nat):=by
 unfold qkl
 rw[z5k _ _ h,Nat.zero_add]
def zot(z:Value) (h:k∉ks):qkl (.string k) (meK ks 0) z=z:=by
 unfold qkl
 rw[z2q _ _ h]
def zx5(h:k∉ks):qex (.string k) (.int .i64 (ks.length:Nat)) (meK ks 0) ks.length=meK (ks++[k]) 0/\qew (.string k) (meK ks 0) ks.length=(ks++[k]).length:=by
 unfold qex qew
 rw[z2q _ _ h,zmg]
 simp
def z4b:∀(ks:List ByteArray) (j:Nat),∀e∈meK ks j,kOK .string e.key
  | a::l,j,e,h=>by
    rw[meK]at h
    rcases List.mem_cons.1 h with rfl|h
    · exact trivial
    · exact z4b l (j+1) e h
def z9b(k:ByteArray):(kyV k).length=1:=rfl
def zdr(fs:List GV) (r:GV) (z:List Value) (hz:z.length=5):spl (z00 GV.cells fs++z) (0+fs.length*5) r.cells=z00 GV.cells (fs++[r]):=by
 have h:=z7t r.cells (z00 GV.cells fs) z [] (by rw[hz];rfl)
 rw[List.append_nil,z01 z0c]at h
 rw[Nat.zero_add,h,List.append_nil,z04]
 show _=_++(r.cells++[])
 rw[List.append_nil]
end
section
variable (x0:Int) (x1 x2:SV) (x3 x4 x5:Int) (x6:AT) (x7:List AT) (x8:ByteArray) (x9:Nat) (x10:Nat×Int×Int×Int×List GV) (x11:DcR) (x12:Nat×Int×Int×Int×Int×List GV) (x13:Nat×Nat×Int×Int×Int×List GV) (x14:RvS) (x15:RvB) (x16:Prop) (x17:Nat->Option Obj) (x18:DcR) (x19:Nat×Int×Int×Int×List GV) (x20:(Option Addr×Nat×Nat)×(Option Addr×Nat×Nat)×Int×Int×Int×Int) (x21:Nat×Nat×Int×Int×Int×List GV) (x22:Option Addr)
 abbrev z8i:=True/\z09 x7 x1 x17/\AT.ok x6 x17/\x2.2.1=size x8/\qil x17 x2.1 x2.2.1 x2.2.2 (q1h x8)
 def z4i:=x1.1=x1.1/\x1.2.1=x1.2.1/\x1.2.2=x1.2.2/\x16
 def z8h:=AT.k x6=AT.k x6/\AT.nm x6=AT.nm x6/\(AT.al x6).1=(AT.al x6).1/\(AT.al x6).2.1=(AT.al x6).2.1/\(AT.al x6).2.2=(AT.al x6).2.2/\AT.it x6=AT.it x6/\(AT.sy x6).1=(AT.sy x6).1/\(AT.sy x6).2.1=(AT.sy x6).2.1/\(AT.sy x6).2.2=(AT.sy x6).2.2/\AT.hd x6=AT.hd x6/\AT.df x6=AT.df x6/\AT.sz x6=AT.sz x6/\(AT.f x6).1=(AT.f x6).1/\(AT.f x6).2.1=(AT.f x6).2.1/\(AT.f x6).2.2=(AT.f x6).2.2/\(AT.br x6).1=(AT.br x6).1/\(AT.br x6).2.1=(AT.br x6).2.1/\(AT.br x6).2.2=(AT.br x6).2.2/\x16
 def z24:=(z8i x1 x2 x6 x7 x8 x17)/\GV.oks x10.2.2.2.2 x17
 def zv0:=x11.1.1=x1.1/\x11.1.2.1=x1.2.1/\x11.1.2.2=x1.2.2/\x11.2.1.1=x2.1/\x11.2.1.2.1=x2.2.1/\x11.2.1.2.2=x2.2.2/\x16
 def zld:=x11.2.1.2.1=size x11.2.2.1/\qil x17 x11.2.1.1 x11.2.1.2.1 x11.2.1.2.2 (q1h x11.2.2.1)
 abbrev z1n:=lnF x11.2.2.1 x11.2.2.2.1 x11.2.2.2.2.2
 def zg7:=length x10.2.2.2.2<=x9/\qik x17 x22 (take (length x10.2.2.2.2*nat_lit 5) (z00 GV.cells x10.2.2.2.2))
 def zuz:=GV.n x15.1=0/\GV.s x15.1=mkS []/\(GV.x x15.1).1=x22/\(GV.x x15.1).2.1=length x10.2.2.2.2/\(GV.x x15.1).2.2=x9/\(GV.y x15.1).1=noA/\(GV.y x15.1).2.1=0/\(GV.y x15.1).2.2=0/\GV.b x15.1=0/\x16
 def zlf:=x1.1=x11.1.1/\x1.2.1=x11.1.2.1/\x1.2.2=x11.1.2.2/\x2.1=x11.2.1.1/\x2.2.1=x11.2.1.2.1/\x2.2.2=x11.2.1.2.2/\x16
 def zuu:=∀(i0 i1 i2:Nat) (i3:Option Addr) (i4 i5:Nat),(∃i6,(z24 x1 x2 x6 x7 x8 x10 i6)/\zg7 i5 x10 i6 i3)->∃(i7:RvB),zuz i5 x10 i7 (zlf x1 x2 x11 (i7.2.1=(z1n x11).2.1/\i7.2.2.1=x11.2.2.2.2.1/\i7.2.2.2=(z1n x11).2.2/\z0v (bvX (gvX x7 x8 x0) x8 x6 (toNat x3) (toNat x4)) x8 x3 x4 0 i7/\(∀i8,(z24 x1 x2 x6 x7 x8 x10 i8)/\zg7 i5 x10 i8 i3->GV.ok i7.1 i8)/\True)) i3
 def zle:=x20.2.2.2.2.2=2/\x20.1.1=x11.1.1/\x20.1.2.1=x11.1.2.1/\x20.1.2.2=x11.1.2.2/\x20.2.1.1=x11.2.1.1/\x20.2.1.2.1=x11.2.1.2.1/\x20.2.1.2.2=x11.2.1.2.2/\x16
 def zv2:=x20.2.2.1=(z1n x11).2.1/\x20.2.2.2.1=x11.2.2.2.2.1/\x20.2.2.2.2.1=(z1n x11).2.2/\True/\x16
 def zlc:=z8h x6 (length x12.2.2.2.2.2=length x10.2.2.2.2/\z00 GV.cells x12.2.2.2.2.2=z00 GV.cells x10.2.2.2.2/\(∀i0,z24 x1 x2 x6 x7 x8 x10 i0->z24 x1 x2 x6 x7 x8 x10 i0)/\(∀i1,z24 x1 x2 x6 x7 x8 x10 i1->GV.oks x12.2.2.2.2.2 i1)/\rbH x7 x6 x0 x8 x3 x4 x12.1 x12.2.1 x12.2.2.1 x12.2.2.2.1 x11.2.2.2.2.1 x12.2.2.2.2.1 ([],GV.pvs x12.2.2.2.2.2)/\True)
 abbrev zus:=z0x x11.2.2.1 x11.2.2.2.1/\(∀i0,z24 x1 x2 x6 x7 x8 x10 i0->zld x11 i0)/\Ji ((z1n x11).1<0) (∃(i1:(Option Addr×Nat×Nat)×(Option Addr×Nat×Nat)×Int×Int×Int×Int),zle x11 (zv2 x11 (∃(i2:Nat×Int×Int×Int×Int×List GV),i2.2.2.1=(z1n x11).1/\x0=x0/\i2.2.1=x3/\x1.1=i1.1.1/\x1.2.1=i1.1.2.1/\x1.2.2=i1.1.2.2/\x2.1=i1.2.1.1/\x2.2.1=i1.2.1.2.1/\x2.2.2=i1.2.1.2.2/\i2.2.2.2.1=i1.2.2.1/\x18.2.2.2.2.1=i1.2.2.2.1/\(i2.2.2.2.2.1=if i1.2.2.2.2.1=0 then i1.2.2.2.2.2 else i1.2.2.2.2.1)/\zlc x0 x1 x2 x4 x5 x6 x7 x8 x10 x18 i2) i1) i1) (∃(i5:Nat×Int×Int×Int×Int×List GV),i5.2.2.1=(z1n x11).1/\x0=x0/\i5.2.1=x3/\zlf x1 x2 x11 (i5.2.2.2.1=(z1n x11).2.1/\x18.2.2.2.2.1=x11.2.2.2.2.1/\i5.2.2.2.2.1=(z1n x11).2.2/\zlc x0 x1 x2 x4 x5 x6 x7 x8 x10 x18 i5))
 abbrev zv4:=rbN x7 x6 x0 x8 x3 x4 x13.1 x11.2.2.2.2.1 x12.2.1 x12.2.2.1 x12.2.2.2.1 x13.2.1 x13.2.2.1 x13.2.2.2.1 x13.2.2.2.2.1 ([],GV.pvs x13.2.2.2.2.2)
 def z4w:=((z24 x1 x2 x6 x7 x8 x10 x17)/\GV.oks x12.2.2.2.2.2 x17)/\GV.oks x13.2.2.2.2.2 x17
 abbrev zlh:=Jb (x0+1)
 def j2q:=z09 x14.1 x14.2.1.1 x17/\x14.2.1.2.1.2.1=size x14.2.1.2.2.1/\qil x17 x14.2.1.2.1.1 x14.2.1.2.1.2.1 x14.2.1.2.1.2.2 (q1h x14.2.1.2.2.1)
 def zuv:=(z7q x14<x9/\okS x14.1/\z0x x14.2.1.2.2.1 x14.2.1.2.2.2.1/\(0<=x14.2.1.2.2.2.2.1/\x14.2.1.2.2.2.2.1<=2000)/\0<=x14.2.1.2.2.2.2.2/\(0<=x14.2.2.1/\x14.2.2.1<(↑(length x14.1):Int))/\1<=x14.2.2.2/\x14.2.2.2<=21)/\(∀i0,z4w x1 x2 x6 x7 x8 x10 x12 x13 i0->j2q x14 i0)/\x16
 abbrev zv1:=dvX x14.1 x14.2.1.2.2.1 (toNat ((21:Int)- x14.2.2.2)) x14.2.2.1 (toNat x14.2.1.2.2.2.1) (toNat x14.2.1.2.2.2.2.1)
 abbrev zv3:=Jb ((↑x13.2.1:Int)+1)
 def zux:=(↑x13.2.1:Int)=(↑x21.2.1:Int)+1/\x12.2.2.1=x12.2.2.1/\x0=x0/\x12.2.1=x12.2.1/\x12.2.2.2.1=x12.2.2.2.1/\x1.1=x14.2.1.1.1/\x1.2.1=x14.2.1.1.2.1/\x1.2.2=x14.2.1.1.2.2/\x2.1=x14.2.1.2.1.1/\x2.2.1=x14.2.1.2.1.2.1/\x2.2.2=x14.2.1.2.1.2.2/\x13.2.2.1=x15.2.1/\x13.2.2.2.1=x15.2.2.1/\x13.2.2.2.2.1=x15.2.2.2/\x16
 def zuw:=(∀i0,(z4w x1 x2 x6 x7 x8 x10 x12 x13 i0)/\GV.ok x15.1 i0->(z24 x1 x2 x6 x7 x8 x10 i0)/\GV.oks x12.2.2.2.2.2 i0)/\(∀i1,(z4w x1 x2 x6 x7 x8 x10 x12 x13 i1)/\GV.ok x15.1 i1->GV.oks x21.2.2.2.2.2 i1)/\zv4 x0 x3 x4 x6 x7 x8 x11 x12 x21/\toNat x12.2.1- x21.2.1<toNat x12.2.1- x13.2.1/\True
 def j2k:=length (z00 GV.cells x13.2.2.2.2.2)=length x13.2.2.2.2.2*5/\(length x13.2.2.2.2.2+nat_lit 1)*80<=140737488355328/\zv3 x13/\∃(i0:Nat×Nat×Int×Int×Int×List GV),zux x0 x1 x2 x12 i0 x14 x15 (z8h x6 (length i0.2.2.2.2.2=length x13.2.2.2.2.2+nat_lit 1/\z00 GV.cells i0.2.2.2.2.2=z00 GV.cells x13.2.2.2.2.2++[int u64 (GV.n x15.1),string (GV.s x15.1),slice (GV.x x15.1).1 (GV.x x15.1).2.1 (GV.x x15.1).2.2,slice (GV.y x15.1).1 (GV.y x15.1).2.1 (GV.y x15.1).2.2,int i64 (GV.b x15.1)]/\zuw x0 x1 x2 x3 x4 x6 x7 x8 x10 x11 x12 x13 x15 i0)) x13
 def zlb:=zlh x0/\∃(i0:RvS),i0.2.2.1=AT.it x6/\i0.2.2.2=x0+1/\i0.2.1.1.1=x1.1/\i0.2.1.1.2.1=x1.2.1/\i0.2.1.1.2.2=x1.2.2/\i0.2.1.2.1.1=x2.1/\i0.2.1.2.1.2.1=x2.2.1/\i0.2.1.2.1.2.2=x2.2.2/\i0.2.1.2.2.2.1=x13.2.2.1/\i0.2.1.2.2.2.2.1=x13.2.2.2.1/\i0.2.1.2.2.2.2.2=x13.2.2.2.2.1/\zuv x1 x2 x6 x7 x8 x9 x10 x12 x13 i0 (∀(i2:RvB),z0v (zv1 i0) i0.2.1.2.2.1 i0.2.1.2.2.2.1 (i0.2.1.2.2.2.2.1+1) i0.2.1.2.2.2.2.2 i2->(∃i3,(z4w x1 x2 x6 x7 x8 x10 x12 x13 i3)/\GV.ok i2.1 i3)->j2k x0 x1 x2 x3 x4 x6 x7 x8 x10 x11 x12 x13 i0 i2)
 def jh4:=(zlb x0 x1 x2 x3 x4 x6 x7 x8 x9 x10 x11 x12 x13)/\(zlb x0 x1 x2 x3 x4 x6 x7 x8 x9 x10 x11 x12 x13)/\zlb x0 x1 x2 x3 x4 x6 x7 x8 x9 x10 x11 x12 x13
 abbrev z4x:=txF x11.2.2.1 x11.2.2.2.1 x11.2.2.2.2.2
 def j2p:=zv3 x13/\∃(i0:Nat×Nat×Int×Int×Int×List GV),zux x0 x1 x2 x12 i0 x14 x15 (z8h x6 (length i0.2.2.2.2.2=length x13.2.2.2.2.2/\z00 GV.cells i0.2.2.2.2.2=z00 GV.cells x13.2.2.2.2.2/\zuw x0 x1 x2 x3 x4 x6 x7 x8 x10 x11 x12 x13 x15 i0)) x13
 def j2l:=Ji (x15.2.2.2=0) (∃(i0:GV×ByteArray×GV),GV.n i0.1=0/\GV.s i0.1=mkS []/\False) (j2p x0 x1 x2 x3 x4 x6 x7 x8 x10 x11 x12 x13 x14 x15)
 def zuy:=zuv x1 x2 x6 x7 x8 x9 x10 x12 x13 x14 (∀(i0:RvB),z0v (zv1 x14) x14.2.1.2.2.1 x14.2.1.2.2.2.1 (x14.2.1.2.2.2.2.1+1) x14.2.1.2.2.2.2.2 i0->(∃i1,(z4w x1 x2 x6 x7 x8 x10 x12 x13 i1)/\GV.ok i0.1 i1)->j2l x0 x1 x2 x3 x4 x6 x7 x8 x10 x11 x12 x13 x14 i0)
 def j2o:=zlh x0/\∃(i0:RvS),i0.2.2.1=AT.it x6/\i0.2.2.2=x0+1/\i0.2.1.1.1=x11.1.1/\i0.2.1.1.2.1=x11.1.2.1/\i0.2.1.1.2.2=x11.1.2.2/\i0.2.1.2.1.1=x11.2.1.1/\i0.2.1.2.1.2.1=x11.2.1.2.1/\i0.2.1.2.1.2.2=x11.2.1.2.2/\i0.2.1.2.2.2.1=(z4x x11).2.1/\i0.2.1.2.2.2.2.1=x11.2.2.2.2.1/\i0.2.1.2.2.2.2.2=(z4x x11).2.2/\zuy x0 x1 x2 x3 x4 x6 x7 x8 x9 x10 x18 x12 x13 i0
 abbrev jh3:=Ji (AT.k x6=12) (jh4 x0 x1 x2 x3 x4 x6 x7 x8 x9 x10 x11 x12 x13) (∃(i21:DcR),zv0 x1 x2 i21 (i21.2.2.2.1=x13.2.2.1/\i21.2.2.2.2.1=x13.2.2.2.1/\i21.2.2.2.2.2=x13.2.2.2.2.1/\z0x i21.2.2.1 i21.2.2.2.1/\(∀i22,z4w x1 x2 x6 x7 x8 x10 x12 x13 i22->zld i21 i22)/\(z4x i21).1=(z4x i21).1/\size (z4x i21).1<9223372036854775808/\((!vld (z4x i21).1)=true->∃(i23:(Option Addr×Nat×Nat)×(Option Addr×Nat×Nat)×Int×Int×Int×Int),zle i21 (i23.2.2.1=(z4x i21).2.1/\i23.2.2.2.1=i21.2.2.2.2.1/\i23.2.2.2.2.1=(z4x i21).2.2/\True/\zlh x0/\∃(i24:RvS),i24.2.2.1=AT.it x6/\i24.2.2.2=x0+1/\i24.2.1.1.1=i23.1.1/\i24.2.1.1.2.1=i23.1.2.1/\i24.2.1.1.2.2=i23.1.2.2/\i24.2.1.2.1.1=i23.2.1.1/\i24.2.1.2.1.2.1=i23.2.1.2.1/\i24.2.1.2.1.2.2=i23.2.1.2.2/\i24.2.1.2.2.2.1=i23.2.2.1/\i24.2.1.2.2.2.2.1=i23.2.2.2.1/\(i24.2.1.2.2.2.2.2=if i23.2.2.2.2.1=0 then i23.2.2.2.2.2 else i23.2.2.2.2.1)/\zuy x0 x1 x2 x3 x4 x6 x7 x8 x9 x10 x11 x12 x13 i24) i23)/\((!vld (z4x i21).1)=false->j2o x0 x1 x2 x3 x4 x6 x7 x8 x9 x10 i21 x12 x13 x11)))
 abbrev zut:=z8h x6 (length x10.2.2.2.2=length x13.2.2.2.2.2/\z00 GV.cells x10.2.2.2.2=z00 GV.cells x13.2.2.2.2.2/\(∀i0,z4w x1 x2 x6 x7 x8 x19 x12 x13 i0->z8i x1 x2 x6 x7 x8 i0)/\(∀i1,z4w x1 x2 x6 x7 x8 x19 x12 x13 i1->GV.oks x10.2.2.2.2 i1)/\rbO x7 x6 x0 x8 x3 x4 x10.1 x10.2.1 x10.2.2.1 x10.2.2.2.1 ([],GV.pvs x10.2.2.2.2)/\(((2:Nat)*toNat ((2001:Int)- x10.2.2.1)+if x10.2.2.2.1=0 then 1 else 0)<2*toNat ((2001:Int)- x19.2.2.1)+if x19.2.2.2.1=0 then 1 else 0)/\True)
 def zlg:=∃(i0:Nat×Int×Int×Int×List GV),x0=x0/\z4i x1 (z4i x2 (i0.2.1=x13.2.2.1/\i0.2.2.1=x13.2.2.2.1/\i0.2.2.2.1=x13.2.2.2.2.1/\zut x0 x1 x2 x3 x4 x6 x7 x8 i0 x12 x13 x10))
 def j2n:=Jb (x13.2.2.1- x12.2.2.2.1)/\((!decide (x13.2.2.1- x12.2.2.2.1=x12.2.2.1))=true->∃(i0:Nat×Int×Int×Int×List GV),x0=x0/\z4i x1 (z4i x2 (i0.2.1=x13.2.2.1/\i0.2.2.1=x13.2.2.2.1/\i0.2.2.2.1=2/\zut x0 x1 x2 x3 x4 x6 x7 x8 i0 x12 x13 x10)))/\((!decide (x13.2.2.1- x12.2.2.2.1=x12.2.2.1))=false->zlg x0 x1 x2 x3 x4 x6 x7 x8 x10 x12 x13)
 def j2m:=Ji (0<=x12.2.2.1) (j2n x0 x1 x2 x3 x4 x6 x7 x8 x10 x12 x13) (zlg x0 x1 x2 x3 x4 x6 x7 x8 x10 x12 x13)
 def j75:=Ji (x13.2.2.2.2.1=0) (j2m x0 x1 x2 x3 x4 x6 x7 x8 x10 x12 x13) (zlg x0 x1 x2 x3 x4 x6 x7 x8 x10 x12 x13)
 def jh2:=Ji (x13.2.2.2.2.1=0) (jh3 x0 x1 x2 x3 x4 x6 x7 x8 x9 x10 x11 x12 x13) (j75 x0 x1 x2 x3 x4 x6 x7 x8 x10 x12 x13)
 def jh1:=Ji ((↑x13.2.1:Int)<x12.2.1) (jh2 x0 x1 x2 x3 x4 x6 x7 x8 x9 x10 x11 x12 x13) (j75 x0 x1 x2 x3 x4 x6 x7 x8 x10 x12 x13)
 def jh0:=(∃(i0:Nat×Nat×Int×Int×Int×List GV),(↑i0.2.1:Int)=0/\x12.2.2.1=x12.2.2.1/\x0=x0/\x12.2.1=x12.2.1/\x12.2.2.2.1=x12.2.2.2.1/\z4i x1 (z4i x2 (i0.2.2.1=x12.2.2.2.1/\i0.2.2.2.1=x11.2.2.2.2.1/\i0.2.2.2.2.1=x12.2.2.2.2.1/\z8h x6 (length i0.2.2.2.2.2=length x12.2.2.2.2.2/\z00 GV.cells i0.2.2.2.2.2=z00 GV.cells x12.2.2.2.2.2/\(∀i1,(z24 x1 x2 x6 x7 x8 x10 i1)/\GV.oks x12.2.2.2.2.2 i1->(z24 x1 x2 x6 x7 x8 x10 i1)/\GV.oks x12.2.2.2.2.2 i1)/\(∀i2,(z24 x1 x2 x6 x7 x8 x10 i2)/\GV.oks x12.2.2.2.2.2 i2->GV.oks i0.2.2.2.2.2 i2)/\zv4 x0 x3 x4 x6 x7 x8 x11 x12 i0/\True))))/\∀(i3:Nat×Nat×Int×Int×Int×List GV),rbN x7 x6 x0 x8 x3 x4 i3.1 x11.2.2.2.2.1 x12.2.1 x12.2.2.1 x12.2.2.2.1 i3.2.1 i3.2.2.1 i3.2.2.2.1 i3.2.2.2.2.1 ([],GV.pvs i3.2.2.2.2.2)->(∃i4,z4w x1 x2 x6 x7 x8 x10 x12 i3 i4)->jh1 x0 x1 x2 x3 x4 x6 x7 x8 x9 x10 x11 x12 i3
 abbrev jgz:=(Ji ((z1n x11).1<0) (∃(i0:Int),i0=IntKind.wrap i64 ((0:Int)- (z1n x11).1)/\Ji (i0<0) (∃(i1:(Option Addr×Nat×Nat)×(Option Addr×Nat×Nat)×Int×Int×Int×Int),zle x11 (zv2 x11 (∃(i2:DcR),i2.1.1=i1.1.1/\i2.1.2.1=i1.1.2.1/\i2.1.2.2=i1.1.2.2/\i2.2.1.1=i1.2.1.1/\i2.2.1.2.1=i1.2.1.2.1/\i2.2.1.2.2=i1.2.1.2.2/\i2.2.2.2.1=i1.2.2.1/\i2.2.2.2.2.1=i1.2.2.2.1/\(i2.2.2.2.2.2=if i1.2.2.2.2.1=0 then i1.2.2.2.2.2 else i1.2.2.2.2.1)/\zus x0 x1 x2 i0 x3 x4 x6 x7 x8 x10 i2 x11) i1) i1) (∃(i11:DcR),i11.1.1=x11.1.1/\i11.1.2.1=x11.1.2.1/\i11.1.2.2=x11.1.2.2/\i11.2.1.1=x11.2.1.1/\i11.2.1.2.1=x11.2.1.2.1/\i11.2.1.2.2=x11.2.1.2.2/\i11.2.2.2.1=(z1n x11).2.1/\i11.2.2.2.2.1=x11.2.2.2.2.1/\i11.2.2.2.2.2=(z1n x11).2.2/\zus x0 x1 x2 i0 x3 x4 x6 x7 x8 x10 i11 x11)) (∃(i20:Nat×Int×Int×Int×Int×List GV),i20.2.2.1= -1/\x0=x0/\i20.2.1=(z1n x11).1/\zlf x1 x2 x11 (i20.2.2.2.1=(z1n x11).2.1/\x11.2.2.2.2.1=x11.2.2.2.2.1/\i20.2.2.2.2.1=(z1n x11).2.2/\zlc x0 x1 x2 x3 x4 x6 x7 x8 x10 x11 i20)))/\∀(i23:Nat×Int×Int×Int×Int×List GV),rbH x7 x6 x0 x8 x3 x4 i23.1 i23.2.1 i23.2.2.1 i23.2.2.2.1 x11.2.2.2.2.1 i23.2.2.2.2.1 ([],GV.pvs i23.2.2.2.2.2)->(∃i24,(z24 x1 x2 x6 x7 x8 x10 i24)/\GV.oks i23.2.2.2.2.2 i24)->jh0 x0 x1 x2 x3 x4 x6 x7 x8 x9 x10 x11 i23
 def jgy:=Ji ((z1n x11).1=0) (zuu x0 x1 x2 x3 x4 x6 x7 x8 x10 x11) (jgz x0 x1 x2 x3 x4 x6 x7 x8 x9 x10 x11)
 def jgx:=Ji (x10.2.2.2.1=0) (∃(i0:DcR),zv0 x1 x2 i0 (i0.2.2.2.1=x10.2.1/\i0.2.2.2.2.1=x10.2.2.1/\i0.2.2.2.2.2=x10.2.2.2.1/\z0x i0.2.2.1 i0.2.2.2.1/\(∀i1,z24 x1 x2 x6 x7 x8 x10 i1->zld i0 i1)/\((!decide ((z1n i0).2.2=0))=true->zuu x0 x1 x2 x3 x4 x6 x7 x8 x10 i0)/\((!decide ((z1n i0).2.2=0))=false->jgy x0 x1 x2 x3 x4 x6 x7 x8 x9 x10 i0))) (∀(i114 i115 i116:Nat) (i117:Option Addr) (i118 i119:Nat),(∃i120,(z24 x1 x2 x6 x7 x8 x10 i120)/\zg7 i119 x10 i120 i117)->∃(i121:RvB),zuz i119 x10 i121 (z4i x1 (z4i x2 (i121.2.1=x10.2.1/\i121.2.2.1=x10.2.2.1/\i121.2.2.2=x10.2.2.2.1/\z0v (bvX (gvX x7 x8 x0) x8 x6 (toNat x3) (toNat x4)) x8 x3 x4 0 i121/\(∀i122,(z24 x1 x2 x6 x7 x8 x10 i122)/\zg7 i119 x10 i122 i117->GV.ok i121.1 i122)/\True))) i117)
 def jgw:=(∃(i0:Nat×Int×Int×Int×List GV),x0=x0/\z4i x1 (z4i x2 (i0.2.1=x3/\i0.2.2.1=x4/\i0.2.2.2.1=x5/\z8h x6 (length i0.2.2.2.2=0/\(∀i1,z8i x1 x2 x6 x7 x8 i1->z8i x1 x2 x6 x7 x8 i1)/\(∀i2,z8i x1 x2 x6 x7 x8 i2->GV.oks i0.2.2.2.2 i2)/\rbO x7 x6 x0 x8 x3 x4 i0.1 i0.2.1 i0.2.2.1 i0.2.2.2.1 ([],GV.pvs i0.2.2.2.2)/\True))))/\∀(i3:Nat×Int×Int×Int×List GV),rbO x7 x6 x0 x8 x3 x4 i3.1 i3.2.1 i3.2.2.1 i3.2.2.2.1 ([],GV.pvs i3.2.2.2.2)->(∃i4,z24 x1 x2 x6 x7 x8 i3 i4)->jgx x0 x1 x2 x3 x4 x6 x7 x8 x9 i3
end
def zpd(c:Nat) (S:List AT) (x y:SV) (D:ByteArray) (n all e:Int) (a:AT) (dp:Int):qm3 P (qh2 [(55,z34),(57,z43),(58,z6h),(59,z2h)]) (qi5 [(31,cRv.below z7q c),(24,znw)]) Go.Proofs.Tryz.f62 ((cRb j4u).below zgd (c+1)) (wRb true) ⟨S,⟨x,y,D,n,all,e⟩,a,dp⟩=(zgd (S,(x,y,D,n,all,e),a,dp)<c+1/\okS S/\a∈S/\j4u a/\z0x D n/\(0<=all/\all<=2000)/\e=0/\1<=dp/\dp<=20->(∃(p:Pub),z8i x y a S D p)->jgw dp x y n all e a S D c):=by kernel_rfl
def zxe:=λc S x y D n all e a dp=>Eq.trans (zpd c S x y D n all e a dp) (by delta Ji Jb Jt Jf z8i z4i z8h z24 zv0 zld z1n zg7 zuz zlf zuu zle zv2 zlc zus zv4 z4w zlh j2q zuv zv1 zv3 zux zuw j2k zlb jh4 z4x j2p j2l zuy j2o jh3 zut zlg j2n j2m j75 jh2 jh1 jh0 jgz jgy jgx jgw;exact rfl)
section
def bkK(g:Nat->Nat->RdT) (D:ByteArray) (mp:Bool) (F n1:Nat) (sz:Int) (r:StI×Nat×Nat):RsB:=if bkE n1 sz r.2.1=true then .no 1 else bkX g D mp F r.1 r.2.1 r.2.2
variable {g:Nat->Nat->RdT} {D:ByteArray} {mp:Bool} {st:StI}
def znm{F n c:Nat} {R0:RsB} (hn:n<=D.size) (hF:D.size<F+n) (h:bkX g D mp F st n c=R0):
  ((lgR D n).2.1≠0->R0= .no ((lgR D n).2.1- 1))/\((lgR D n).2.1=0->(lgR D n).1=0->R0= .ok (st,(lgR D n).2.2,c))/\
  ((lgR D n).2.1=0->0<(lgR D n).1->∃F',D.size<F'+(lgR D n).2.2/\(z47 g D mp (lgR D n).1.toNat st (lgR D n).2.2 c).bind (bkK g D mp F' (lgR D n).2.2 (-1))=R0)/\
  ((lgR D n).2.1=0->(lgR D n).1= -9223372036854775808->R0= .no 1)/\
  ((lgR D n).2.1=0->(lgR D n).1<0->(lgR D n).1≠ -9223372036854775808->((lgR D (lgR D n).2.2).2.1≠0->R0= .no ((lgR D (lgR D n).2.2).2.1- 1))/\((lgR D (lgR D n).2.2).2.1=0->(lgR D (lgR D n).2.2).1<0->R0= .no 1)/\
   ((lgR D (lgR D n).2.2).2.1=0->0<=(lgR D (lgR D n).2.2).1->∃F',D.size<F'+(lgR D (lgR D n).2.2).2.2/\(z47 g D mp (-(lgR D n).1).toNat st (lgR D (lgR D n).2.2).2.2 c).bind (bkK g D mp F' (lgR D (lgR D n).2.2).2.2 (lgR D (lgR D n).2.2).1)=R0)):=by
 have f1:=z0m D n hn
 have f2:=z0m D (lgR D n).2.2 f1.2.2.2.2.1
 obtain⟨F',rfl⟩:∃F',F=F'+1:=⟨F- 1,by omega⟩
 rw[bkX]at h
 unfold hdX lgX at h
 generalize lgR D n=T at*
 obtain⟨v,e,n1⟩:=T
 simp only at f1 f2 h⊢
 refine⟨λhe=> ?_,λhe hv=> ?_,λhe hv=> ?_,λhe hv=> ?_,λhe hv hv2=>⟨λhe2=> ?_,λhe2 hz=> ?_,λhe2 hz=> ?_⟩⟩
 ·rw[if_neg he,z11,z11]at h;exact h.symm
 ·rw[if_pos he,z0j]at h
  simp only at h
  rw[if_pos (show 0<=v by omega),z0j]at h
  simp only at h
  rw[if_pos hv]at h;exact h.symm
 ·rw[if_pos he,z0j]at h
  simp only at h
  rw[if_pos (show 0<=v by omega),z0j]at h
  simp only at h
  rw[if_neg (show¬v=0 by omega)]at h
  exact⟨F',by omega,h⟩
 ·rw[if_pos he,z0j]at h
  simp only at h
  rw[if_neg (show¬0<=v by omega),if_pos hv,z11]at h;exact h.symm
 ·rw[if_pos he,z0j]at h
  simp only at h
  rw[if_neg (show¬0<=v by omega),if_neg hv2,if_neg he2,z11,z11]at h;exact h.symm
 ·rw[if_pos he,z0j]at h
  simp only at h
  rw[if_neg (show¬0<=v by omega),if_neg hv2,if_pos he2,z0j]at h
  simp only at h
  rw[if_pos hz,z11]at h;exact h.symm
 ·rw[if_pos he,z0j]at h
  simp only at h
  rw[if_neg (show¬0<=v by omega),if_neg hv2,if_pos he2,z0j]at h
  simp only at h
  rw[if_neg (show¬(lgR D n1).1<0 by omega),z0j]at h
  simp only at h
  rw[if_neg (show¬ -v=0 by omega)]at h
  exact⟨F',by omega,h⟩
def zcx{α:Type} {k n c:Nat} {K:StI×Nat×Nat->Rs α} (h:0<k):(z47 g D mp k st n c).bind K=(itX g D mp st n c).bind λr=>(z47 g D mp (k- 1) r.1 r.2.1 r.2.2).bind K:=by
 obtain⟨j,rfl⟩:∃j,k=j+1:=⟨k- 1,by omega⟩
 rw[z47,zij];rfl
def z3z:IntKind.wrap .i64 (0 - -9223372036854775808)= -9223372036854775808:=by decide
end
def j4p{S:List AT} {a:AT} {dp:Int} {s:ByteArray} {mp:Bool} {F n c:Nat} {st:StI} {R0:RsB} (hm:decide (a.k=13)=mp) (hz:s.size<100000) (hn:n<=s.size) (hF:s.size<F+n) (h:bkX (gvX S s dp a.it) s mp F st n c=R0):
  ((hdR s n).2.2.1≠0->∃k:Nat,(hdR s n).2.2.1=k+1/\R0= .no k)/\((hdR s n).2.2.1=0->(hdR s n).1=0->R0= .ok (st,(hdR s n).2.2.2,c))/\
  ((hdR s n).2.2.1=0->(hdR s n).1≠0->1<=(hdR s n).1/\∃F' sz,s.size<F'+(hdR s n).2.2.2/\enR ((hdR s n).2.2.2:Nat) sz (hdR s n).2.1/\(z47 (gvX S s dp a.it) s mp (hdR s n).1.toNat st (hdR s n).2.2.2 c).bind (rbK S a dp s F' ((hdR s n).2.2.2:Nat) sz)=R0)/\
  (n<=(hdR s n).2.2.2/\(hdR s n).2.2.2<=s.size)/\((hdR s n).2.2.1=0->n<(hdR s n).2.2.2)/\(hdR s n).1<9223372036854775808:=by
 have hh:=znm hn hF h
 have f1:=z0m s n hn
 have f2:=z0m s (lgR s n).2.2 f1.2.2.2.2.1
 have key:∀(F' n1:Nat) (sz:Int),(λr=>bkK (gvX S s dp a.it) s mp F' n1 sz r)=rbK S a dp s F' ((n1:Nat):Int) sz:=λF' n1 sz=>by
  funext r
  unfold rbK bkK
  rw[hm,Int.toNat_natCast]
 obtain⟨a1,a2,a3,a4,a5⟩:=hh
 clear h hF
 unfold hdR
 by_cases h1:(lgR s n).2.1≠0\/0<=(lgR s n).1
 ·rw[if_pos h1]
  refine⟨λhe=>⟨(lgR s n).2.1- 1,?_,a1 ?_⟩,λhe hv=>a2 (by have:(((lgR s n).2.1:Nat):Int)=0:=he;omega) hv,λhe hv=> ?_,⟨f1.2.2.2.1,f1.2.2.2.2.1⟩,λhe=>f1.2.2.2.2.2 (by have:(((lgR s n).2.1:Nat):Int)=0:=he;omega),f1.2.1⟩
  ·have he:(((lgR s n).2.1:Nat):Int)≠0:=he
   show(((lgR s n).2.1:Nat):Int)=(((lgR s n).2.1- 1:Nat):Int)+1
   omega
  ·have he:(((lgR s n).2.1:Nat):Int)≠0:=he
   omega
  ·have he:(lgR s n).2.1=0:=by have:(((lgR s n).2.1:Nat):Int)=0:=he;omega
   have hv:(lgR s n).1≠0:=hv
   have h0:0<(lgR s n).1:=by omega
   obtain⟨F',b1,b2⟩:=a3 he h0
   refine⟨by show 1<=(lgR s n).1;omega,F', -1,b1, .inl ⟨rfl,rfl⟩,?_⟩
   rw[←key];exact b2
 rw[if_neg h1]
 have he:(lgR s n).2.1=0:=by omega
 have hneg:(lgR s n).1<0:=by omega
 by_cases h2:(lgR s n).1= -9223372036854775808
 ·rw[if_pos h2]
  exact⟨λ_=>⟨1,rfl,a4 he h2⟩,λg=>absurd (show(2:Int)=0 from g) (by decide),λg=>absurd (show(2:Int)=0 from g) (by decide),⟨f1.2.2.2.1,f1.2.2.2.2.1⟩,λg=>absurd (show(2:Int)=0 from g) (by decide),by show(0:Int)<_;decide⟩
 rw[if_neg h2]
 obtain⟨b1,b2,b3⟩:=a5 he hneg h2
 by_cases h3:(lgR s (lgR s n).2.2).2.1≠0
 ·rw[if_pos h3]
  refine⟨λ_=>⟨(lgR s (lgR s n).2.2).2.1- 1,?_,b1 h3⟩,λg=> ?_,λg=> ?_,⟨by show n<=(lgR s (lgR s n).2.2).2.2;omega,f2.2.2.2.2.1⟩,λg=> ?_,by show(0:Int)<_;decide⟩
  ·show(((lgR s (lgR s n).2.2).2.1:Nat):Int)=(((lgR s (lgR s n).2.2).2.1- 1:Nat):Int)+1
   omega
  all_goals
   have g:(((lgR s (lgR s n).2.2).2.1:Nat):Int)=0:=g
   omega
 rw[if_neg h3]
 have h3:(lgR s (lgR s n).2.2).2.1=0:=by omega
 by_cases h4:(lgR s (lgR s n).2.2).1<0
 ·rw[if_pos h4]
  exact⟨λ_=>⟨1,rfl,b2 h3 h4⟩,λg=>absurd (show(2:Int)=0 from g) (by decide),λg=>absurd (show(2:Int)=0 from g) (by decide),⟨by show n<=(lgR s (lgR s n).2.2).2.2;omega,f2.2.2.2.2.1⟩,λg=>absurd (show(2:Int)=0 from g) (by decide),by show(0:Int)<_;decide⟩
 rw[if_neg h4]
 obtain⟨F',c1,c2⟩:=b3 h3 (by omega)
 refine⟨λg=>absurd rfl g,λ_ g=> ?_,λ_ _=>⟨by show 1<= -(lgR s n).1;omega,F',(lgR s (lgR s n).2.2).1,c1, .inr ⟨by omega,rfl⟩,?_⟩,⟨by show n<=(lgR s (lgR s n).2.2).2.2;omega,f2.2.2.2.2.1⟩,λ_=> ?_,by show -(lgR s n).1<_;omega⟩
 ·have g: -(lgR s n).1=0:=g
  omega
 ·rw[←key];exact c2
 ·have:=f1.2.2.2.2.2 he
  show n<(lgR s (lgR s n).2.2).2.2
  omega
def zno(n:Nat) (hi0:q22 P 83 (z8x.below zw4 (n+1))) (hv0:q22 P 82 cIv):q22 P 43 ((zbn kdP bvX).below z7a (n+1)):=by
  refine qlb mixed (qee (qih zoc qlq)) (qf7 (qig hi0 (qig hv0 qlp))) (W:=zy3) Go.Proofs.Tryz.func43 (by kernel_rfl) (show 1<=2 by decide) (show 2<=2 by decide) (λs=>by kernel_rfl) λ⟨S,⟨(x:SV),s,(i:Int),(c:Int)⟩,a,(dp:Int)⟩=>(znn n S x s i c a dp).mpr ?_
  rintro⟨hmu,hok,haS,hk,h,⟨hc0,hc1⟩,hp1,hp2⟩ ⟨p,_,hx,ha⟩
  have hmu:(25- dp).toNat<n+1:=hmu
  have hi:=h.1
  have hi2:=h.2.1
  have hsz:=h.2.2
  simp only[sbS,exists_const,forall_const,Int.toNat_natCast]
  have abs0:z2a (decide (a.k=13)) [] (GV.pvs []) ([],[]):=by
    unfold z2a
    rw[GV.pvs]
    split
    · exact⟨List.nodup_nil,rfl,rfl,List.Pairwise.nil, .refl _⟩
    · exact⟨rfl,rfl⟩
  refine⟨⟨⟨s.size+1- i.toNat,i,c,[],[]⟩,rfl,rfl,rfl,rfl,rfl,rfl,λq _=>GV.oks_iff.2 λw hw=>(by cases hw),⟨Int.le_refl _,hi2⟩,⟨Int.le_refl _,hc1⟩,⟨by show((0:Nat):Int)<=c;omega,by show((0:Nat):Int)<=c;omega⟩,(by show(s.size:Int)<((s.size+1- i.toNat:Nat):Int)+i;omega),([],[]),abs0,rfl⟩,?_⟩
  rintro⟨F,i1,c1,fs,ks⟩ ⟨⟨r1,r2⟩,⟨r3,r4⟩,⟨r5,r6⟩,r7,st,r8,r9⟩ ⟨p1,hp1',hfs⟩
  simp only at r1 r2 r3 r4 r5 r6 r7 r8 r9 hfs⊢
  have hd1:z0g ((x.1,x.2.1,x.2.2),s,i1,c1):=⟨by omega,r2,hsz⟩
  obtain⟨h1,h2,h3,⟨h4,h5⟩,h6,h7⟩:=j4p rfl hsz (show i1.toNat<=s.size by omega) (show s.size<F+i1.toNat by omega) r9
  have rw0:rbR S a dp s i c=bkX (gvX S s dp a.it) s (decide (a.k=13)) (s.size+1- i.toNat) ([],[]) i.toNat c.toNat:=rfl
  have no:∀(e' i' c':Int) (v:PV),(∃k:Nat,e'=k+1/\rbR S a dp s i c= .no k)->agD (bvX (gvX S s dp) s a i.toNat c.toNat) v i' c' e':=λe' i' c' v ⟨k,q1,q2⟩=>by
    show agD ((rbR S a dp s i c).bind _) _ _ _ _
    rw[q2,z11];exact q1
  generalize hdR s i1.toNat=H at*
  obtain⟨cn,en,er,pos⟩:=H
  simp only at h1 h2 h3 h4 h5 h6 h7⊢
  have hpos:i1<=pos:=by omega
  refine⟨hd1,λhe=>⟨⟨zV,er,(pos:Int),c1⟩,rfl,rfl,rfl,rfl,rfl,rfl,rfl,rfl,rfl,rfl,rfl,rfl,⟨no _ _ _ _ (h1 he),⟨by show i<=(pos:Int);omega,by show(pos:Int)<=s.size;omega⟩,⟨r3,by show c1<=2001;omega⟩,λg=>absurd g he⟩,λq _=>z17 q⟩,λhe=>⟨λhc=> ?_,λhc=> ?_⟩⟩
  · have hR:=h2 he hc
    refine⟨⟨fs,ks⟩,rfl,rfl,rfl,rfl,rfl,rfl,⟨by show fs.length<=2001;omega,by show ks.length<=2001;omega,_,st,r8⟩,λq hq=>hq.2,?_⟩
    intro b hb _
    have hb:=hb _ _ r8
    refine⟨⟨b,0,(pos:Int),c1⟩,rfl,rfl,rfl,rfl,rfl,rfl,rfl,rfl,rfl,rfl,rfl,rfl,⟨?_,⟨by show i<=(pos:Int);omega,by show(pos:Int)<=s.size;omega⟩,⟨r3,by show c1<=2001;omega⟩,λ_=>r4⟩,λq hq=>hq.2⟩
    show agD ((rbR S a dp s i c).bind _) _ _ _ _
    rw[hR,z0j]
    exact⟨rfl,hb,rfl,by show c1=((c1.toNat:Nat):Int);omega⟩
  obtain⟨hc1',F',sz,g1,g2,g3⟩:=h3 he hc
  have hlt:=h6 he
  clear h1 h2 h3 h6
  refine⟨⟨⟨F',0,(pos:Int),c1,fs,ks⟩,rfl,rfl,rfl,rfl,rfl,rfl,rfl,rfl,rfl,λq hq=>hq.2,⟨by show((0:Nat):Int)<=cn;omega,⟨by show i<=(pos:Int);omega,⟨by show(0:Int)<=(pos:Int);omega,Int.le_refl _⟩,by show(pos:Int)<=s.size;omega⟩,⟨r3,r4⟩,⟨r5,r6⟩,by show(s.size:Int)<F'+(pos:Int);omega,sz,st,g2,r8,?_⟩⟩,?_⟩
  · show(z47 _ _ _ (cn- ((0:Nat):Int)).toNat st ((pos:Int).toNat) c1.toNat).bind _=_
    rw[show cn- ((0:Nat):Int)=cn by omega,Int.toNat_natCast]
    exact g3
  rintro⟨F2,j,i2,c2,gs,ls⟩ ⟨t1,⟨t2,⟨t3,t4⟩,t5⟩,⟨t6,t7⟩,⟨t8,t9⟩,t10,z,st2,t11,t12,t13⟩ ⟨p2,hp2',hgs⟩
  simp only at t1 t2 t3 t4 t5 t6 t7 t8 t9 t10 t11 t12 t13 hgs⊢
  clear g1 g2 g3
  have nxt:rbK S a dp s F2 pos z (st2,i2.toNat,c2.toNat)=rbR S a dp s i c->¬(0<=en/\i2≠en)->pbO S a s dp i c F2 i2 c2 gs ls/\(s.size+1- i2).toNat<(s.size+1- i1).toNat:=λq1 q2=>by
    refine⟨⟨⟨t2,t5⟩,⟨t6,t7⟩,⟨t8,t9⟩,by omega,st2,t12,?_⟩,by omega⟩
    unfold rbK at q1
    rw[if_neg ?_]at q1
    · exact q1
    · unfold bkE
      rw[Bool.and_eq_true,decide_eq_true_eq,decide_eq_true_eq,Int.toNat_natCast,Int.toNat_of_nonneg (by omega)]
      rintro⟨q3,q4⟩
      rcases t11 with⟨q5,_⟩|⟨_,q6⟩
      · omega
      · apply q2
        split at q6<;>omega
  refine⟨λhlt2=> ?_,λhge=> ?_⟩
  · refine⟨⟨⟨S,⟨x,s,i2,c2⟩,a,dp⟩,gs,ls⟩,?_⟩
    simp only[true_and,and_true,eq_self]
    refine⟨⟨hmu,hok,haS,hk,⟨by show 0<=i2;omega,t5,hsz⟩,⟨by show 0<=c2;omega,t7⟩,⟨hp1,hp2⟩,t8,t9,st2,t12⟩,λq hq=>⟨hq.1.1,hq.2⟩,?_⟩
    rintro⟨fs',ks',e',i',c'⟩ ⟨w1,⟨w2,w3⟩,⟨w4,w5⟩,w6,w7,w8⟩ _
    have w1:=w1 st2 t12
    have w2:i2<=i':=w2
    have w4:c2<=c':=w4
    rw[zcx (by omega)]at t13
    refine⟨λhne=>⟨⟨zV,e',i',c'⟩,rfl,rfl,rfl,rfl,rfl,rfl,rfl,rfl,rfl,rfl,rfl,rfl,⟨no _ _ _ _ ?_,⟨by show i<=i';omega,w3⟩,⟨by show c<=c';omega,w5⟩,λg=>absurd g hne⟩,λq _=>z17 q⟩,λhe0=> ?_⟩
    · revert w1 t13
      cases itX (gvX S s dp a.it) s (decide (a.k=13)) st2 i2.toNat c2.toNat with
      |no k=>exactλq2 q1=>⟨k,q1,by rw[z11]at q2;exact q2.symm⟩
      |ok r=>exactλ_ q1=>absurd q1.1 hne
    · have he0:e'=0:=he0
      obtain⟨w9,w10⟩:=w6 he0
      have w9:c2+1<=c':=w9
      refine⟨⟨by omega,by omega⟩,⟨F2,j+1,i',c',fs',ks'⟩,by show((j+1:Nat):Int)=_;omega,rfl,rfl,rfl,rfl,rfl,rfl,rfl,rfl,λq hq=>hq.1.1,λq hq=>hq.2,⟨by show((j+1:Nat):Int)<=cn;omega,⟨by show i<=i';omega,⟨t3,by show(pos:Int)<=i';omega⟩,w3⟩,⟨by show c<=c';omega,w10⟩,⟨w7,w8⟩,t10,?_⟩,by show cn.toNat- (j+1)<cn.toNat- j;omega⟩
      revert w1 t13
      cases itX (gvX S s dp a.it) s (decide (a.k=13)) st2 i2.toNat c2.toNat with
      |no k=>intro _ q1;have q1:e'=k+1:=q1;omega
      | ok r=>
        rintro q5 ⟨_,q2,q3,q4⟩
        rw[z0j,show(cn- (j:Int)).toNat- 1=(cn- ((j+1:Nat):Int)).toNat by omega]at q5
        refine⟨z,r.1,t11,q2,?_⟩
        show(z47 _ _ _ _ r.1 i'.toNat c'.toNat).bind _=_
        rw[show i'.toNat=r.2.1 by omega,show c'.toNat=r.2.2 by omega]
        exact q5
  · rw [show(cn- (j:Int)).toNat=0 by omega,z47,z0j]at t13
    refine⟨λh0=>⟨λhne=>⟨⟨zV,2,i2,c2⟩,rfl,rfl,rfl,rfl,rfl,rfl,rfl,rfl,rfl,rfl,rfl,rfl,⟨no _ _ _ _ ⟨1,rfl,?_⟩,⟨t2,t5⟩,⟨t6,by show c2<=2001;omega⟩,λg=>absurd (show(2:Int)=0 from g) (by decide)⟩,λq _=>z17 q⟩,λheq=> ?_⟩,λh0=> ?_⟩
    · unfold rbK at t13
      rw[if_pos ?_]at t13
      · exact t13.symm
      · unfold bkE
        rw[Bool.and_eq_true,decide_eq_true_eq,decide_eq_true_eq,Int.toNat_natCast,Int.toNat_of_nonneg (by omega)]
        rcases t11 with⟨_,q5⟩|⟨q5,q6⟩
        · omega
        · refine⟨q5,?_⟩
          split at q6<;>omega
    · obtain⟨q1,q2⟩:=nxt t13 (λg=>g.2 heq)
      exact⟨⟨F2,i2,c2,gs,ls⟩,rfl,rfl,rfl,rfl,rfl,rfl,rfl,rfl,λq hq=>hq.1.1,λq hq=>hq.2,q1,q2⟩
    · obtain⟨q1,q2⟩:=nxt t13 (λg=>h0 g.1)
      exact⟨⟨F2,i2,c2,gs,ls⟩,rfl,rfl,rfl,rfl,rfl,rfl,rfl,rfl,λq hq=>hq.1.1,λq hq=>hq.2,q1,q2⟩
def zm5(a b:ByteArray):Int:=if qfa a b=true then -1 else if qfa b a=true then 1 else 0
set_option maxHeartbeats 1000000 in
def zcu(x:ByteArray) (w:World):
  Calls Go.Proofs.Tryz.prog 129 #[.string x] w λe w'=>e= .returned (.bool false)/\w'=w:=by
 go_enter Go.Proofs.Tryz.func129,Go.Proofs.Tryz.ntmps129
 go_wp2
 go_ret
 exact⟨by simp,rfl⟩
set_option maxHeartbeats 1000000 in
def z7k(x y:ByteArray) (w:World):
  Calls Go.Proofs.Tryz.prog 114 #[.string x, .string y] w λe w'=>e= .returned (.int .i64 (zm5 x y))/\w'=w:=by
 have e7:∀args w,(callFunc 129 args).run Go.Proofs.Tryz.prog w= .ok (.enter 129 args) w:=Sen.enters_of Go.Proofs.Tryz.func129 (by kernel_rfl)
 go_enter Go.Proofs.Tryz.func114,Go.Proofs.Tryz.ntmps114
 go_wp2_with (go_at_fn 129;refine(zcu _ _).mono ?_;rintro e w' ⟨rfl,hw⟩;rw[hw])
 all_goals (go_ret)
 all_goals (refine⟨?_,rfl⟩;show Ending.returned (Value.int .i64 _)=Ending.returned (Value.int .i64 _);unfold zm5 qfa;have fl:=z7d y.toList x.toList;simp_all<;>first|done|exact fl.resolve_right (λe=>absurd e.symm (by assumption)))
def zwr(args:Array Value) (w:World):(callFunc 114 args).run Go.Proofs.Tryz.prog w= .ok (.enter 114 args) w:=Sen.enters_of Go.Proofs.Tryz.func114 (by kernel_rfl) args w
def z36(a b:ByteArray):Go.Proofs.ltOf zm5 a b=qfa a b:=by
 unfold Go.Proofs.ltOf zm5
 by_cases h:qfa a b=true
 ·simp[h]
 ·by_cases g:qfa b a=true
  ·simp[h,g]
  ·simp[h,g]
def zpi{a b c:ByteArray} (h1:qfa a b=false) (h2:qfa b c=false):qfa a c=false:=by
 rcases(z21 b a).2 h1 with h1|rfl
 ·rcases(z21 c b).2 h2 with h2|rfl
  ·exact(z21 c a).1 (.inl (z5m h2 h1))
  ·exact(z21 _ _).1 (.inl h1)
 ·exact h2
def zo0:Go.Sort.SWO (Go.Proofs.ltOf zm5):=by
 refine⟨λx=> ?_,λx y z=> ?_,λx y z=> ?_⟩
 ·rw[z36];exact zdt x
 ·rw[z36,z36,z36];exact z5m
 ·rw[z36,z36,z36];exact zpi
def zmj(o:AO):∃h,q0x [(1,o)] .e=some h/\h.get 1=some o/\∀i,i≠1->h.get i=none:=by
 refine⟨_,rfl,rfl,λi hi=> ?_⟩
 have e:T.put 64 1 (some o) T.e=some (T.n (T.n T.e (some o) T.e) none T.e):=rfl
 have:=T.get_put _ _ _ _ _ e i
 rw[if_neg hi,T.get_e]at this
 exact this
def upS(ks:List ByteArray):Prop:=ks.Pairwise (λa b=>qfa b a=false)
def zwk:CtR where
 σ:=List ByteArray
 args:=λks=>[.ssl 1 0 ks.length 1 2, .fn 114 []]
 h:=λks=>[(1, .row 9 0 (z00 kyV ks))]
 m:=3
 pre:=λks=>1<=ks.length/\ks.length<=1000000
 β:=λ_=>List ByteArray
 post:=λks ks'=>ks'.Perm ks/\upS ks'
 r:=λ_ _=> .tup []
 h':=λ_ ks'=>[(1, .row 9 0 (z00 kyV ks'))]
 m':=3
def ivO(fs:List GV) (ks:List ByteArray) (j:Nat) (gs:List GV) (ls:List ByteArray):Prop:=j<=ks.length/\ls.Perm ks/\upS ls/\gs.length=j/\gs.map some=(ls.take j).map (λk=>fs[kI k ks]?)
def j7q:cIv.σ->WayF:=λ⟨fs,ks⟩=>{
 pubE:=[1000002]
 ann:=λid tt hh=>match zw7 tt 3 with
  |some vb=>some {σ:=Nat×List GV×List ByteArray,pre:=λ⟨j,gs,ls⟩=>ivO fs ks j gs ls,mem:=λ⟨j,gs,ls⟩=>gsM gs,t:=λ⟨j,gs,ls⟩=>[(27, .sv (.int .i64 (j:Nat)))],h:=λ⟨j,gs,ls⟩=>[(vb, .cells 36 (some 0) false [.sv (.int .u64 0), .sv (.string (mkS [])), .ssl 40 0 gs.length 5 41, .ssl 42 0 (ls.take j).length 1 43, .sv (.int .i64 0)]),(40, .row 36 0 (z00 GV.cells gs)),(42, .row 9 0 (z00 kyV (ls.take j))),(5, .row 9 0 (z00 kyV ls))],more:=60,μ:=λ⟨j,gs,ls⟩=>ks.length- j,keep:=[0,2,3,25,26]}
  |none=>none}
def z48:∀ks:List ByteArray,z00 kyV ks=ks.map Value.string
 | []=>rfl
 |k::l=>by rw[z00,z48 l];rfl
def zdi(off:Nat) (d:Array ByteArray) (pre rest:List Value) (ks:List ByteArray) (hp:pre.length=off) (hs:d.size=ks.length):Go.Sort.putCells Value.string off d ⟨pre++(z00 kyV ks++rest)⟩=⟨pre++(z00 kyV d.toList++rest)⟩:=by
  rw[z48,z48]
  apply Array.ext_getElem?
  intro k
  unfold Go.Sort.putCells
  rw[Array.getElem?_mapIdx]
  have e1:(⟨pre++(ks.map Value.string++rest)⟩:Array Value)[k]? =(pre++(ks.map Value.string++rest))[k]? :=List.getElem?_toArray ..
  have e2:(⟨pre++(d.toList.map Value.string++rest)⟩:Array Value)[k]? =(pre++(d.toList.map Value.string++rest))[k]? :=List.getElem?_toArray ..
  rw[e1,e2]
  rcases Nat.lt_or_ge k pre.length with h|h
  · rw[List.getElem?_append_left h,List.getElem?_append_left h]
    rw[List.getElem?_eq_getElem h]
    simp only[Option.map_some]
    rw[if_neg (by omega)]
  · rw [List.getElem?_append_right h,List.getElem?_append_right h]
    rcases Nat.lt_or_ge (k- pre.length) ks.length with g|g
    · rw[List.getElem?_append_left (by simpa using g),List.getElem?_append_left (by simp;omega),List.getElem?_map,List.getElem?_map,List.getElem?_eq_getElem g]
      have g2:k- pre.length<d.size:=by omega
      simp only[Option.map_some]
      rw[if_pos (by omega),←hp,getElem!_pos d _ g2,Array.getElem?_toList,Array.getElem?_eq_getElem g2]
      rfl
    · rw[List.getElem?_append_right (by simpa using g),List.getElem?_append_right (by simp;omega)]
      simp only[List.length_map,Array.length_toList,hs]
      cases hr:rest[k- pre.length- ks.length]? with
      |none=>rfl
      | some v=>
        simp only[Option.map_some]
        rw[if_neg (by omega)]
def zdv(w:World) (b off n:Nat) (d:Array ByteArray) (os:Array Obj):(∀k,k≠b->k<w.heap.size->(Go.Proofs.sortWorld Value.string w b off n d os).heap[k]? =w.heap[k]?)/\(∀c e fr,w.heap[b]? =some (.cells c e fr)->(Go.Proofs.sortWorld Value.string w b off n d os).heap[b]? =some (.cells (Go.Sort.putCells Value.string off d c) e fr))/\w.heap.size<=(Go.Proofs.sortWorld Value.string w b off n d os).heap.size/\Same w (Go.Proofs.sortWorld Value.string w b off n d os):=by
 unfold Go.Proofs.sortWorld
 have hs:(Go.Sort.putRow Value.string (Go.Sort.ahead w n) b off d).heap.size=w.heap.size:=by rw[Go.Sort.size_putRow];rfl
 refine⟨λk hk hl=> ?_,λc e fr hb=> ?_,?_,⟨rfl,rfl,rfl⟩⟩
 ·rw[Go.Sort.heap_grow_old _ _ (by rw[hs];exact hl)]
  show(w.heap.modify b _)[k]? =_
  rw[Array.getElem?_modify,if_neg (λe=>hk e.symm)]
 ·have hl:b<w.heap.size:=by
   rcases Nat.lt_or_ge b w.heap.size with h|h
   ·exact h
   ·rw[Array.getElem?_eq_none h]at hb;cases hb
  rw[Go.Sort.heap_grow_old _ _ (by rw[hs];exact hl)]
  show(w.heap.modify b _)[b]? =_
  rw[Array.getElem?_modify,if_pos rfl,hb]
  rfl
 ·rw[Go.Sort.size_grow,hs];omega
def zxz{d:Array ByteArray} {n:Nat} (hn:d.size=n) (h:Go.Sort.SortedIn (Go.Proofs.ltOf zm5) 0 n d):upS d.toList:=by
 unfold upS
 rw[List.pairwise_iff_getElem]
 intro i j hi hj hij
 have hi':i<d.size:=by simpa using hi
 have hj':j<d.size:=by simpa using hj
 have:=h i j (Nat.zero_le _) hij (by omega)
 rw[z36,getElem!_pos d j hj',getElem!_pos d i hi']at this
 exact this
def qd9{ks:List ByteArray} {d':Array ByteArray} (h:Go.Sort.PermIn 0 ks.toArray.size ks.toArray d'):d'.toList.Perm ks/\d'.size=ks.length:=by
 obtain⟨h1,_,h3⟩:=h
 have h1:d'.size=ks.length:=by simpa using h1
 refine⟨?_,h1⟩
 have e1:(d'.extract 0 ks.toArray.size).toList=d'.toList:=by
  have:ks.toArray.size=d'.size:=by rw[h1];simp
  rw[this];simp
 have e2:(ks.toArray.extract 0 ks.toArray.size).toList=ks:=by simp
 rw[e1,e2]at h3
 exact h3
def zpr:q22 P 113 zwk:=by
 refine⟨Nat.le_refl _,by decide,Sen.enters_of Go.Proofs.Tryz.func113 (by kernel_rfl),λ(ks:List ByteArray)=> ?_⟩
 obtain⟨h0,e0,g0,n0⟩:=zmj (.row 9 0 (z00 kyV ks))
 refine⟨h0,e0,λF I w vs hv hs low zf hp _ fr hz=> ?_⟩
 obtain⟨hp1,hp2⟩:1<=ks.length/\ks.length<=1000000:=hp
 cases hv with|cons hv1 hv2=>
 cases hv2 with|cons hv2 hv3=>
 cases hv3
 cases hv2 with|fn hv2=>
 cases hv2
 cases hv1 with
 |ssl0 hz0=>omega
 | @ssl _ _ _ _ _ b s t c o x hI k2 k3 k4 k5 k6=>
 have hc0:c≠0:=by omega
 have ho:o=s:=by omega
 subst ho
 obtain⟨ob,hb,hO⟩:=hs.obj 1 _ b (o,t) g0 hI
 have hfr:=hs.fr 1 _ b (o,t) g0 hI
 cases hO with| @row _ _ pre _ rest frz q1 q2 q3=>
 have q1:pre.length=o:=q1
 have hbl:b<w.heap.size:=by
  rcases Nat.lt_or_ge b w.heap.size with h|h
  ·exact h
  ·rw[Array.getElem?_eq_none h]at hb;cases hb
 have hH:Go.Sort.Holds Value.string w b o ks.toArray:=by
  intro j hj
  have hj':j<ks.length:=by simpa using hj
  constructor
  ·simp only[World.cell?,hb]
   show(pre++(z00 kyV ks++rest)).toArray[o+j]? =_
   rw[z48,List.getElem?_toArray,List.getElem?_append_right (by omega),List.getElem?_append_left (by rw[List.length_map];omega),show o+j- pre.length=j by omega,List.getElem?_map,List.getElem?_eq_getElem hj',getElem!_pos ks.toArray j hj]
   rfl
  ·simp only[World.frozen?,hb]
   have e:t=ks.length+rest.length:=by
    have:(z00 kyV ks++rest).length=t:=q2
    rw[z48,List.length_append,List.length_map]at this
    omega
   have:=q3 j (Nat.zero_le _) (by show j<t;omega)
   simp only[decide_eq_false_iff_not,Bool.and_eq_false_iff]
   have h2:¬(frz.1<=o+j/\o+j<frz.2):=this
   simp
   omega
 have hcmp:Go.Proofs.CmpLays1 Go.Proofs.Tryz.prog 114 #[] Value.string zm5 b o ks.toArray.size w:=by
  refine Go.Proofs.CmpReads.lays λm os dk hd x y=>(z7k x y _).mono ?_
  rintro e w' ⟨rfl,rfl⟩
  exact⟨rfl,0,rfl⟩
 have hrun:=Go.Proofs.Tryz.slices_SortFunc Value.string (λ_=>rfl) zm5 zo0 114 #[] b o c ks.toArray w zwr hcmp hH hbl (by simp;omega)
 have hsz:(ks.toArray.size:Nat)=ks.length:=by simp
 rw[hsz]at hrun
 refine hrun.mono ?_
 rintro e w' ⟨rfl,d',n,os,hP,hS,rfl⟩
 rw[←hsz]at hP
 obtain⟨p1,p2⟩:=qd9 hP
 obtain⟨h1,e1,g1,n1⟩:=zmj (.row 9 0 (z00 kyV d'.toList))
 obtain⟨z1,z2,z3,z4⟩:=zdv w b o n d' os
 refine⟨d'.toList,h1,⟨p1,zxz p2 hS⟩,e1,_,I,rfl, .tup .nil,⟨In.le_refl I,λ_ _ h=> .inl h,⟨λid o2 b' t2 h hi=> ?_,λid id' o1 o2 b1 t1 t2 h1' h2' i1 i2=> ?_,λid o2 b' t2 h hi hF=> ?_⟩,λb' hb'=> ?_,z3,z4⟩,trivial⟩
 ·by_cases hid:id=1
  ·subst hid
   rw[g1]at h;cases h
   rw[hI]at hi;cases hi
   refine⟨_,z2 _ _ _ hb,?_⟩
   rw[zdi o d' pre rest ks q1 p2]
   refine .row q1 ?_ q3
   have:(z00 kyV ks++rest).length=t:=q2
   rw[z48,List.length_append,List.length_map]at this
   show(z00 kyV d'.toList++rest).length=t
   rw[z48,List.length_append,List.length_map,Array.length_toList,p2]
   exact this
  ·rw[n1 _ hid]at h;cases h
 ·by_cases hid:id=1
  ·by_cases hid':id'=1
   ·rw[hid,hid']
   ·rw[n1 _ hid']at h2';cases h2'
  ·rw[n1 _ hid]at h1';cases h1'
 ·by_cases hid:id=1
  ·subst hid
   rw[g1]at h;cases h
   rw[hI]at hi;cases hi
   have h:true=false:=(hfr hF).1
   cases h
  ·rw[n1 _ hid]at h;cases h
 ·refine z1 b' (λe=> ?_) (low _ hb')
  subst e
  have h:true=false:=(hfr hb').1
  cases h
section
variable (x0:List ByteArray) (x1:List GV) (x2:List ByteArray) (x3:Nat×List GV×List ByteArray) (x4:Nat->Option Obj) (x5:Nat) (x6:Option Addr) (x7:Nat) (x8:Option Addr) (x9:Prop) (x10:GV)
 abbrev j7a:=(True/\GV.oks x1 x4)/\length x1<=x5/\qik x4 x6 (take (length x1*nat_lit 5) (z00 GV.cells x1))
 def j78:=GV.b x10=0/\(∀(i0:Bool) (i1:StI),z2a i0 x0 (GV.pvs x1) i1->GV.pv x10=PV.mk 0 (mkS []) i1.2 i1.1 0)/\x9
 def j77:=length x0=length x0/\(↑(length x0):Int)=(↑(length x0):Int)/\z00 GV.cells x1=z00 GV.cells x1/\meK x0 (0:Nat)=meK x0 0/\length x0=length x0/\x9
 def jh8:=(0<=(↑x3.1:Int)/\(↑x3.1:Int)<(↑(length x0):Int))/\∃i0,qi8 (z00 kyV x3.2.2) (nat_lit 0+toNat (↑x3.1:Int)*nat_lit 1) [string i0]/\length (z00 kyV (take x3.1 x3.2.2))=length (take x3.1 x3.2.2)*1/\(length (take x3.1 x3.2.2)+nat_lit 1)*16<=140737488355328/\kOK TypeDesc.string (string i0)/\(∀(i1:MapEntry),i1∈meK x0 0->kOK TypeDesc.string (MapEntry.key i1))/\∃(i2:Int),qkl (string i0) (meK x0 0) (int i64 0)=int i64 i2/\(0<=i2/\i2<(↑(length x1):Int))/\∃(i3:Int),∃i4,∃i5,∃(i6:Nat),∃(i7:Nat),∃i8,∃(i9:Nat),∃(i10:Nat),∃(i11:Int),qi8 (z00 GV.cells x1) (nat_lit 0+toNat i2*nat_lit 5) [int u64 i3,string i4,slice i5 i6 i7,slice i8 i9 i10,int i64 i11]/\length (z00 GV.cells x3.2.1)=length x3.2.1*5/\(length x3.2.1+nat_lit 1)*80<=140737488355328/\Jb ((↑x3.1:Int)+1)/\∃(i12:Nat×List GV×List ByteArray),(↑i12.1:Int)=(↑x3.1:Int)+1/\j77 x0 x1 (z00 kyV i12.2.2=z00 kyV x3.2.2/\(0:Int)=0/\mkS []=mkS []/\length i12.2.1=length x3.2.1+nat_lit 1/\length (take i12.1 i12.2.2)=length (take x3.1 x3.2.2)+nat_lit 1/\(0:Int)=0/\length x1=length x1/\length x0=length x0/\z00 GV.cells i12.2.1=z00 GV.cells x3.2.1++[int u64 i3,string i4,slice i5 i6 i7,slice i8 i9 i10,int i64 i11]/\z00 kyV (take i12.1 i12.2.2)=z00 kyV (take x3.1 x3.2.2)++[string i0]/\(∀i13,(True/\GV.oks x1 i13)/\GV.oks x3.2.1 i13->True/\GV.oks x1 i13)/\(∀i14,(True/\GV.oks x1 i14)/\GV.oks x3.2.1 i14->GV.oks i12.2.1 i14)/\ivO x1 x0 i12.1 i12.2.1 i12.2.2/\length x0- i12.1<length x0- x3.1/\True)
 def j79:=((True/\GV.oks x1 x4)/\GV.oks x3.2.1 x4)/\length x3.2.1<=x5/\qik x4 x6 (take (length x3.2.1*nat_lit 5) (z00 GV.cells x3.2.1))
 def j76:=(j79 x1 x3 x4 x5 x6)/\length (take x3.1 x3.2.2)<=x7/\qik x4 x8 (take (length (take x3.1 x3.2.2)*nat_lit 1) (z00 kyV (take x3.1 x3.2.2)))
 def jh7:=Ji ((↑x3.1:Int)<(↑(length x0):Int)) (jh8 x0 x1 x3) (∀(i15 i16 i17:Nat) (i18:Option Addr) (i19 i20:Nat),(∃i21,j79 x1 x3 i21 i20 i18)->∀(i22 i23 i24:Nat) (i25:Option Addr) (i26 i27:Nat),(∃i28,j76 x1 x3 i28 i20 i18 i27 i25)->∃(i29:GV),GV.n i29=0/\GV.s i29=mkS []/\(GV.x i29).1=i18/\(GV.x i29).2.1=length x3.2.1/\(GV.x i29).2.2=i20/\(GV.y i29).1=i25/\(GV.y i29).2.1=length (take x3.1 x3.2.2)/\(GV.y i29).2.2=i27/\j78 x0 x1 ((∀i32,j76 x1 x3 i32 i20 i18 i27 i25->GV.ok i29 i32)/\True) i29)
 def jh6:=(∃(i0:Nat×List GV×List ByteArray),(↑i0.1:Int)=0/\j77 x0 x1 (z00 kyV i0.2.2=z00 kyV x2/\(0:Int)=0/\mkS []=mkS []/\length i0.2.1=0/\length (take i0.1 i0.2.2)=0/\(0:Int)=0/\length x1=length x1/\length x0=length x0/\(∀i1,True/\GV.oks x1 i1->True/\GV.oks x1 i1)/\(∀i2,True/\GV.oks x1 i2->GV.oks i0.2.1 i2)/\ivO x1 x0 i0.1 i0.2.1 i0.2.2/\True))/\∀(i3:Nat×List GV×List ByteArray),ivO x1 x0 i3.1 i3.2.1 i3.2.2->(∃i4,(True/\GV.oks x1 i4)/\GV.oks i3.2.1 i4)->jh7 x0 x1 i3
 def jh5:=Ji ((↑(length x0):Int)=0) (∀(i0 i1 i2:Nat) (i3:Option Addr) (i4 i5:Nat),(∃i6,j7a x1 i6 i5 i3)->∃(i7:GV),GV.n i7=0/\GV.s i7=mkS []/\(GV.x i7).1=i3/\(GV.x i7).2.1=length x1/\(GV.x i7).2.2=i5/\(GV.y i7).1=noA/\(GV.y i7).2.1=0/\(GV.y i7).2.2=0/\j78 x0 x1 ((∀i10,j7a x1 i10 i5 i3->GV.ok i7 i10)/\True) i7) (∃(i11:List ByteArray),length i11=length x0/\z00 kyV i11=z00 kyV x0/\(1<=length i11/\length i11<=1000000)/\∀(i12:List ByteArray),List.Perm i12 i11/\upS i12->jh6 x0 x1 i12)
end
def zwx(fs:List GV) (ks:List ByteArray):qm3 P (qh2 []) (qi5 [(113,zwk)]) Go.Proofs.Tryz.f82 cIv (j7q) ⟨fs,ks⟩=((length fs<=2001/\length ks<=2001/\∃(mp:Bool),∃(st:StI),z2a mp ks (GV.pvs fs) st)->(∃(p:Pub),True/\GV.oks fs p)->jh5 ks fs):=by kernel_rfl
def j4s:=λfs ks=>Eq.trans (zwx fs ks) (by delta Ji Jb Jt Jf j7a j78 j77 jh8 j79 j76 jh7 jh6 jh5;exact rfl)
section
variable (x0:AT) (x1:SV) (x2:ByteArray) (x3 x4:Int) (x5:List ByteArray) (x6:List GV) (x7:List AT) (x8:Int) (x9:Nat) (x10:VpB) (x11:VpS) (x12:Prop) (x13:Int) (x14:ItB) (x15:Nat->Option Obj)
 abbrev z8m:=True/\(z09 x7 x1 x15/\AT.ok x0 x15)/\GV.oks x6 x15
 def zvc:=x1.1=x1.1/\x1.2.1=x1.2.1/\x1.2.2=x1.2.2/\x12
 def zvb:=meK x14.2.1 (0:Nat)=meK x5 0/\length x14.2.1=length x5/\length x14.1=length x6/\length x14.2.1=length x5/\x12
 def zlk:=zvb x5 x6 (z00 GV.cells x14.1=z00 GV.cells x6/\z00 kyV x14.2.1=z00 kyV x5/\x12) x14
 abbrev zve:=Jb (x3+1)
 def zv9:=x11.2.2.1=AT.it x0/\x11.2.2.2=x3+1/\x11.2.1.1.1=x1.1/\x11.2.1.1.2.1=x1.2.1/\x11.2.1.1.2.2=x1.2.2/\x11.2.1.2.1=x2/\x12
 def zv6:=x11.2.1.2.2.2=x3/\(zar x11<x9/\okS x11.1/\z0g (x11.2.1.1,x11.2.1.2.1,x11.2.1.2.2.1,x11.2.1.2.2.2)/\(0<=x11.2.1.2.2.2/\x11.2.1.2.2.2<=2000)/\1<=x11.2.2.2/\x11.2.2.2<=21)/\(∀i0,z8m x0 x1 x6 x7 i0->z09 x11.1 x11.2.1.1 i0)/\x12
 abbrev zv8:=dvX x11.1 x11.2.1.2.1 (toNat ((21:Int)- x11.2.2.2)) x11.2.2.1 (toNat x11.2.1.2.2.1) (toNat x11.2.1.2.2.2)
 def z8j:=x1.1=x11.2.1.1.1/\x1.2.1=x11.2.1.1.2.1/\x1.2.2=x11.2.1.1.2.2/\x2=x11.2.1.2.1/\x14.2.2.2.1=x10.2.2.1/\x14.2.2.2.2=x10.2.2.2/\x12
 def z8k:=z52 ((x7,(x1,x2,x3,x4),x0,x8),x6,x5) x14/\(∀i0,(z8m x0 x1 x6 x7 i0)/\GV.ok x10.1 i0->GV.oks x14.1 i0)/\True
 abbrev z8n:=(txP x2 (toNat x3)).1
 abbrev z3q:=string (z8n x2 x3)
 def zll:=(∀(i0:MapEntry),i0∈meK x5 0->kOK TypeDesc.string (MapEntry.key i0))
 abbrev z67:=(GV.x x10.1).2.1
 abbrev z68:=(GV.x x10.1).2.2
 abbrev z69:=(GV.y x10.1).2.1
 abbrev z6a:=(GV.y x10.1).2.2
 def j7d:=(0<=x3/\x3<(↑(length x6):Int))/\nat_lit 0+toNat x3*nat_lit 5+length [int u64 (GV.n x10.1),string (GV.s x10.1),slice (GV.x x10.1).1 (z67 x10) (z68 x10),slice (GV.y x10.1).1 (z69 x10) (z6a x10),int i64 (GV.b x10.1)]<=length (z00 GV.cells x6)/\∃(i0:ItB),i0.2.2.1=0/\z8j x1 x2 x10 x11 (zvb x5 x6 (z00 GV.cells i0.1=spl (z00 GV.cells x6) (nat_lit 0+toNat x3*nat_lit 5) [int u64 (GV.n x10.1),string (GV.s x10.1),slice (GV.x x10.1).1 (z67 x10) (z68 x10),slice (GV.y x10.1).1 (z69 x10) (z6a x10),int i64 (GV.b x10.1)]/\z00 kyV i0.2.1=z00 kyV x5/\z8k x0 x1 x2 x4 x8 x5 x6 x7 x13 x10 i0) i0) i0
 def zva:=zll x5/\length (z00 kyV x5)=length x5*1/\(length x5+nat_lit 1)*16<=140737488355328/\x12
 abbrev zga:=z00 GV.cells x6++[int u64 0,string (mkS []),slice noA 0 0,slice noA 0 0,int i64 0]
 def zv5:=(0:Nat)+toNat (↑(length x6):Int)*5+length [int u64 (GV.n x10.1),string (GV.s x10.1),slice (GV.x x10.1).1 (z67 x10) (z68 x10),slice (GV.y x10.1).1 (z69 x10) (z6a x10),int i64 (GV.b x10.1)]<=length (zga x6)
 def j2x:=length (z00 GV.cells x6)=length x6*5/\(length x6+nat_lit 1)*80<=140737488355328/\(0<=(↑(length x6):Int)/\(↑(length x6):Int)<(↑(length x6+nat_lit 1):Int))/\zv5 x6 x10/\zv5 x6 x10/\slice x11.2.1.1.1 x11.2.1.1.2.1 x11.2.1.1.2.2=slice x11.2.1.1.1 x11.2.1.1.2.1 x11.2.1.1.2.2/\string x11.2.1.2.1=string x11.2.1.2.1/\int i64 x10.2.2.1=int i64 x10.2.2.1/\int i64 x10.2.2.2=int i64 x10.2.2.2/\x12
 abbrev z8l:=int i64 (↑(length x6):Int)
 def zg9:=int u64 (GV.n x10.1)=int u64 (GV.n x10.1)/\string (GV.s x10.1)=string (GV.s x10.1)/\slice (GV.x x10.1).1 (z67 x10) (z68 x10)=slice (GV.x x10.1).1 (z67 x10) (z68 x10)/\slice (GV.y x10.1).1 (z69 x10) (z6a x10)=slice (GV.y x10.1).1 (z69 x10) (z6a x10)/\int i64 (GV.b x10.1)=int i64 (GV.b x10.1)/\x12
 def zln:=length x6+nat_lit 1=length x6+nat_lit 1
 def zli:=int i64 (AT.k x0)=int i64 (AT.k x0)/\string (AT.nm x0)=string (AT.nm x0)/\slice (AT.al x0).1 (AT.al x0).2.1 (AT.al x0).2.2=slice (AT.al x0).1 (AT.al x0).2.1 (AT.al x0).2.2/\int i64 (AT.it x0)=int i64 (AT.it x0)/\slice (AT.sy x0).1 (AT.sy x0).2.1 (AT.sy x0).2.2=slice (AT.sy x0).1 (AT.sy x0).2.1 (AT.sy x0).2.2/\bool (AT.hd x0)=bool (AT.hd x0)/\string (AT.df x0)=string (AT.df x0)/\int i64 (AT.sz x0)=int i64 (AT.sz x0)/\slice (AT.f x0).1 (AT.f x0).2.1 (AT.f x0).2.2=slice (AT.f x0).1 (AT.f x0).2.1 (AT.f x0).2.2/\slice (AT.br x0).1 (AT.br x0).2.1 (AT.br x0).2.2=slice (AT.br x0).1 (AT.br x0).2.1 (AT.br x0).2.2/\x12
 abbrev zlm:=(0:Nat)+toNat (↑(length x6):Int)*5
 def zg8:=spl (zga x6) (zlm x6) [int u64 (GV.n x10.1),string (GV.s x10.1),slice (GV.x x10.1).1 (z67 x10) (z68 x10),slice (GV.y x10.1).1 (z69 x10) (z6a x10),int i64 (GV.b x10.1)]=spl (zga x6) (zlm x6) [int u64 (GV.n x10.1),string (GV.s x10.1),slice (GV.x x10.1).1 (z67 x10) (z68 x10),slice (GV.y x10.1).1 (z69 x10) (z6a x10),int i64 (GV.b x10.1)]
 def zlj:=z00 GV.cells x14.1=spl (zga x6) (zlm x6) [int u64 (GV.n x10.1),string (GV.s x10.1),slice (GV.x x10.1).1 (z67 x10) (z68 x10),slice (GV.y x10.1).1 (z69 x10) (z6a x10),int i64 (GV.b x10.1)]
 def jha:=kOK TypeDesc.string (z3q x2 x3)/\zva x5 (j2x x6 x10 x11 (AO.mrow (qex (z3q x2 x3) (z8l x6) (meK x5 0) (length x5)) (qew (z3q x2 x3) (meK x5 0) (length x5))=AO.mrow (qex (z3q x2 x3) (z8l x6) (meK x5 0) (length x5)) (qew (z3q x2 x3) (meK x5 0) (length x5))/\z00 kyV x5++[string (z8n x2 x3)]=z00 kyV x5++[string (z8n x2 x3)]/\zg9 x10 (zln x6/\length x5+nat_lit 1=length x5+nat_lit 1/\zli x0 (zg8 x6 x10/\string (z8n x2 x3)=string (z8n x2 x3)/\∃(i1:ItB),i1.2.2.1=0/\z8j x1 x2 x10 x11 (meK i1.2.1 (0:Nat)=qex (z3q x2 x3) (z8l x6) (meK x5 0) (length x5)/\length i1.2.1=qew (z3q x2 x3) (meK x5 0) (length x5)/\length i1.1=length x6+nat_lit 1/\length i1.2.1=length x5+nat_lit 1/\zlj x6 x10 i1/\z00 kyV i1.2.1=z00 kyV x5++[string (z8n x2 x3)]/\z8k x0 x1 x2 x3 x4 x5 x6 x7 x8 x10 i1) i1))))
 def zvd:=AO.mrow (meK x5 0) (length x5)=AO.mrow (meK x5 0) (length x5)
 def zv7:=zln x6/\length x5=length x5/\zli x0 (∃(i0:ItB),i0.2.2.1=0/\z8j x1 x2 x10 x11 (meK i0.2.1 (0:Nat)=meK x5 0/\length i0.2.1=length x5/\length i0.1=length x6+nat_lit 1/\length i0.2.1=length x5/\zlj x6 x10 i0/\z00 kyV i0.2.1=z00 kyV x5/\z8k x0 x1 x2 x3 x4 x5 x6 x7 x8 x10 i0) i0)
 def jhc:=j2x x6 x10 x11 (zvd x5/\zg8 x6 x10/\z00 kyV x5=z00 kyV x5/\zg9 x10 (zv7 x0 x1 x2 x3 x4 x5 x6 x7 x8 x10 x11))
 def j7b:=Ji (AT.k x0=13) (jha x0 x1 x2 x3 x4 x5 x6 x7 x8 x10 x11) (jhc x0 x1 x2 x3 x4 x5 x6 x7 x8 x10 x11)
 def j2v:=kOK TypeDesc.string (z3q x2 x3)/\zll x5/\∃(i1:Int),qkl (z3q x2 x3) (meK x5 0) (int i64 0)=int i64 i1/\(qmb (z3q x2 x3) (meK x5 0)=true->Ji (AT.k x0=13) (j7d x0 x1 x2 i1 x3 x5 x6 x7 x4 x10 x11 x8) (j7b x0 x1 x2 x3 x4 x5 x6 x7 x8 x10 x11))/\(qmb (z3q x2 x3) (meK x5 0)=false->j7b x0 x1 x2 x3 x4 x5 x6 x7 x8 x10 x11)
 def j2t:=((!decide (x10.2.1=0))=true->∃(i0:ItB),i0.2.2.1=x10.2.1/\z8j x1 x2 x10 x11 (zlk x5 x6 (z8k x0 x1 x2 x3 x4 x5 x6 x7 x8 x10 i0) i0) i0)/\((!decide (x10.2.1=0))=false->j2v x0 x1 x2 x3 x4 x5 x6 x7 x8 x10 x11)
 def j2r:=zve x3/\∃(i0:VpS),zv9 x0 x1 x2 x3 i0 (i0.2.1.2.2.1=(txP x2 (toNat x4)).2.2/\zv6 x0 x1 x8 x6 x7 x9 i0 (∀(i2:VpB),z22 i0.1 (zv8 i0) i0.2.1.2.1 i0.2.1.2.2.1 i0.2.1.2.2.2 i0.2.2.1 i2->(∃i3,(z8m x0 x1 x6 x7 i3)/\GV.ok i2.1 i3)->j2t x0 x1 x2 x4 x8 x5 x6 x7 x3 i2 i0))
 def jhe:=zvc x1 (x2=x2/\x3=x3/\x4=x4/\z0g ((x1.1,x1.2.1,x1.2.2),x2,x3,x4)/\((!decide (vlE (txP x2 (toNat x3))=0))=true->∃(i0:ItB),i0.2.2.1=vlE (txP x2 (toNat x3))/\zvc x1 (x2=x2/\i0.2.2.2.1=(txP x2 (toNat x3)).2.2/\i0.2.2.2.2=x4/\zlk x5 x6 (z52 ((x7,(x1,x2,x3,x4),x0,x8),x6,x5) i0/\(∀i1,z8m x0 x1 x6 x7 i1->GV.oks i0.1 i1)/\True) i0))/\((!decide (vlE (txP x2 (toNat x3))=0))=false->j2r x0 x1 x2 x8 x3 x5 x6 x7 x4 x9))
 def jhb:=kOK TypeDesc.string (string (mkS []))/\zva x5 (j2x x6 x10 x11 (AO.mrow (qex (string (mkS [])) (z8l x6) (meK x5 0) (length x5)) (qew (string (mkS [])) (meK x5 0) (length x5))=AO.mrow (qex (string (mkS [])) (z8l x6) (meK x5 0) (length x5)) (qew (string (mkS [])) (meK x5 0) (length x5))/\zg9 x10 (z00 kyV x5++[string (mkS [])]=z00 kyV x5++[string (mkS [])]/\zln x6/\length x5+nat_lit 1=length x5+nat_lit 1/\zli x0 (zg8 x6 x10/\∃(i1:ItB),i1.2.2.1=0/\z8j x1 x2 x10 x11 (meK i1.2.1 (0:Nat)=qex (string (mkS [])) (z8l x6) (meK x5 0) (length x5)/\length i1.2.1=qew (string (mkS [])) (meK x5 0) (length x5)/\length i1.1=length x6+nat_lit 1/\length i1.2.1=length x5+nat_lit 1/\zlj x6 x10 i1/\z00 kyV i1.2.1=z00 kyV x5++[string (mkS [])]/\z8k x0 x1 x2 x3 x4 x5 x6 x7 x8 x10 i1) i1))))
 def jhd:=j2x x6 x10 x11 (zvd x5/\zg9 x10 (z00 kyV x5=z00 kyV x5/\zg8 x6 x10/\zv7 x0 x1 x2 x3 x4 x5 x6 x7 x8 x10 x11))
 def j7c:=Ji (AT.k x0=13) (jhb x0 x1 x2 x3 x4 x5 x6 x7 x8 x10 x11) (jhd x0 x1 x2 x3 x4 x5 x6 x7 x8 x10 x11)
 def j2w:=kOK TypeDesc.string (string (mkS []))/\zll x5/\∃(i1:Int),qkl (string (mkS [])) (meK x5 0) (int i64 0)=int i64 i1/\(qmb (string (mkS [])) (meK x5 0)=true->Ji (AT.k x0=13) (j7d x0 x1 x2 i1 x3 x5 x6 x7 x4 x10 x11 x8) (j7c x0 x1 x2 x3 x4 x5 x6 x7 x8 x10 x11))/\(qmb (string (mkS [])) (meK x5 0)=false->j7c x0 x1 x2 x3 x4 x5 x6 x7 x8 x10 x11)
 def j2u:=((!decide (x10.2.1=0))=true->∃(i0:ItB),i0.2.2.1=x10.2.1/\z8j x1 x2 x10 x11 (zlk x5 x6 (z8k x0 x1 x2 x3 x4 x5 x6 x7 x8 x10 i0) i0) i0)/\((!decide (x10.2.1=0))=false->j2w x0 x1 x2 x3 x4 x5 x6 x7 x8 x10 x11)
 def j2s:=zve x3/\∃(i0:VpS),zv9 x0 x1 x2 x3 i0 (i0.2.1.2.2.1=x4/\zv6 x0 x1 x8 x6 x7 x9 i0 (∀(i2:VpB),z22 i0.1 (zv8 i0) i0.2.1.2.1 i0.2.1.2.2.1 i0.2.1.2.2.2 i0.2.2.1 i2->(∃i3,(z8m x0 x1 x6 x7 i3)/\GV.ok i2.1 i3)->j2u x0 x1 x2 x4 x8 x5 x6 x7 x3 i2 i0))
 def jh9:=Ji (AT.k x0=13) (jhe x0 x1 x2 x3 x4 x5 x6 x7 x8 x9) (j2s x0 x1 x2 x8 x3 x5 x6 x7 x4 x9)
end
def zcw(n:Nat) (S:List AT) (x:SV) (s:ByteArray) (i c:Int) (a:AT) (dp:Int) (fs:List GV) (ks:List ByteArray):qm3 P (qh2 [(88,z5h)]) (qi5 [(27,z44.below zar n)]) Go.Proofs.Tryz.f83 (z8x.below zw4 (n+1)) (zmw) ⟨⟨S,⟨x,s,i,c⟩,a,dp⟩,fs,ks⟩=(zw4 ((S,(x,s,i,c),a,dp),fs,ks)<n+1/\zoh ((S,(x,s,i,c),a,dp),fs,ks)->(∃(p:Pub),z8m a x fs S p)->jh9 a x s i c ks fs S dp n):=by kernel_rfl
def zhg:=λn S x s i c a dp fs ks=>Eq.trans (zcw n S x s i c a dp fs ks) (by delta Ji Jb Jt Jf z8m zvc zvb zlk zve zv9 zv6 zv8 z8j z8k z8n z3q zll z67 z68 z69 z6a j7d zva zga zv5 j2x z8l zg9 zln zli zlm zg8 zlj jha zvd zv7 jhc j7b j2v j2t j2r jhe jhb jhd j7c j2w j2u j2s jh9;exact rfl)
section
variable {ks:List ByteArray} {vs:List PV} {st:StI}
def zbr{mp:Bool} (h:z2a mp ks vs st):mp=true->ks.length=vs.length/\ks.Nodup:=λe=>by
 subst e;unfold z2a at h;rw[if_pos rfl]at h;exact⟨h.2.1,h.1⟩
def z55(h:z2a false ks vs st):ks=[]/\st=([],vs):=by
 unfold z2a at h;rw[if_neg (by decide)]at h;exact h
def zcv{S:List AT} {x:SV} {s:ByteArray} {i c:Int} {a:AT} {dp:Int} {fs:List GV} {ks:List ByteArray} {e' i' c':Int} (h1:∀st,∃k:Nat,e'=k+1/\itX (gvX S s dp a.it) s (decide (a.k=13)) st i.toNat c.toNat= .no k) (h2:i<=i'/\i'<=s.size) (h3:c<=c'/\c'<=2001) (h4:(fs.length:Int)<=c') (h5:(ks.length:Int)<=c'):z52 ⟨⟨S,⟨x,s,i,c⟩,a,dp⟩,fs,ks⟩ (fs,ks,e',i',c'):=by
 refine⟨λst _=> ?_,h2,h3,λg=> ?_,h4,h5⟩
 ·obtain⟨k,q1,q2⟩:=h1 st
  rw[q2];exact q1
 ·obtain⟨k,q1,_⟩:=h1 ([],[])
  have g:e'=0:=g
  omega
def z7o{S:List AT} {x:SV} {s:ByteArray} {i c:Int} {a:AT} {dp:Int} {fs fs':List GV} {ks ks':List ByteArray} {i' c':Int} (h1:∀st,z2a (decide (a.k=13)) ks (GV.pvs fs) st->∃r,itX (gvX S s dp a.it) s (decide (a.k=13)) st i.toNat c.toNat= .ok r/\z2a (decide (a.k=13)) ks' (GV.pvs fs') r.1/\i'=r.2.1/\c'=r.2.2) (h2:i<=i'/\i'<=s.size) (h3:c+1<=c'/\c'<=2000) (h4:(fs'.length:Int)<=c') (h5:(ks'.length:Int)<=c'):z52 ⟨⟨S,⟨x,s,i,c⟩,a,dp⟩,fs,ks⟩ (fs',ks',0,i',c'):=by
 refine⟨λst hst=> ?_,h2,⟨by show c<=c';omega,by show c'<=2001;omega⟩,λ_=>h3,h4,h5⟩
 obtain⟨r,q1,q2,q3,q4⟩:=h1 st hst
 rw[q1];exact⟨rfl,q2,q3,q4⟩
def zpb(fs:List GV) (j:Nat) (r:GV):GV.pvs (fs.set j r)=(GV.pvs fs).set j r.pv:=by rw[GV.pvs_map,GV.pvs_map,List.map_set]
def zp1{fs:List GV} {j:Nat} {r:GV} {p:Pub} (h:GV.oks fs p) (hr:r.ok p):GV.oks (fs.set j r) p:=GV.oks_iff.2 λv hv=>(List.mem_or_eq_of_mem_set hv).elim (GV.oks_iff.1 h v) (λe=>e ▸ hr)
def zhh(n:Nat) (hv:q22 P 27 (z44.below zar n)):q22 P 83 (z8x.below zw4 (n+1)):=by
  refine qlb mixed (qee (qih z6v qlq)) (qf7 (qig hv qlp)) (W:=zmw) Go.Proofs.Tryz.func83 (by kernel_rfl) (show 1<=8 by decide) (show 8<=12 by decide) (λs=>by kernel_rfl) λ⟨⟨S,⟨(x:SV),s,(i:Int),(c:Int)⟩,a,(dp:Int)⟩,fs,ks⟩=>(zhg n S x s i c a dp fs ks).mpr ?_
  rintro⟨hmu,hok,haS,hk,h,⟨hc0,hc1⟩,⟨hp1,hp2⟩,hfl,hkl,st0,hst0⟩ ⟨p,_,⟨hx,ha⟩,hfs⟩
  have hmu:(25- dp).toNat<n+1:=hmu
  have hi:=h.1
  have hi2:=h.2.1
  have hit:=(hok.2.2 a haS).2.2.1 hk
  have hpv:=GV.pvs_len fs
  simp only[sbS,exists_const,forall_const,Int.toNat_natCast]
  refine⟨λk13=> ?_,λk13=> ?_⟩
  · have hmp:decide (a.k=13)=true:=decide_eq_true k13
    have hst:=hst0
    rw[hmp]at hst
    obtain⟨hln,hnd⟩:=zbr hst rfl
    rw[hpv]at hln
    have ht:=z27 (D:=s) (i:=i.toNat) (by omega)
    have hve:0<=vlE (txP s i.toNat):=by unfold vlE;split<;>omega
    have hX:∀st,itX (gvX S s dp a.it) s true st i.toNat c.toNat=(rsT (txP s i.toNat) (vlE (txP s i.toNat))).bind λk=>(gvX S s dp a.it k.2 c.toNat).bind λr=> .ok ((qb3 k.1 st.1,z2n k.1 st.1 st.2 r.1),r.2):=λst=>by unfold itX;rw[if_pos rfl];rfl
    generalize txP s i.toNat=T at*
    obtain⟨k,er,m⟩:=T
    generalize vlE (k,er,m)=E at*
    simp only at ht hX⊢
    unfold rsT at hX
    refine⟨h,λhe=>⟨⟨fs,ks,E,m,c⟩,rfl,rfl,rfl,rfl,rfl,rfl,rfl,rfl,rfl,zcv (λst=>⟨(E- 1).toNat,by omega,by rw[hmp,hX,if_neg he,z11]⟩) ⟨by omega,by omega⟩ ⟨Int.le_refl _,by omega⟩ hfl hkl,λq hq=>hq.2⟩,λhe=>⟨⟨by omega,by omega⟩,⟨S,⟨x,s,m,c⟩,a.it,dp+1⟩,rfl,rfl,rfl,rfl,rfl,rfl,rfl,rfl,⟨by show(25- (dp+1)).toNat<n;omega,hok,⟨by show 0<=m;omega,by show m<=s.size;omega,h.2.2⟩,⟨hc0,hc1⟩,by show 1<=dp+1;omega,by show dp+1<=21;omega⟩,λq hq=>hq.1.1,?_⟩⟩
    rintro⟨r,e',i',c'⟩ ⟨g1,_,⟨g2,g3⟩,⟨g4,g5⟩,g6⟩ _
    obtain⟨g7,g8⟩:=g1 hit
    have g2:m<=i':=g2
    have g8:c+1<=c':=g8
    have g5:c'<=2001:=g5
    have g7:agD (dvX S s (21- (dp+1)).toNat a.it m.toNat c.toNat) r.pv i' c' e':=g7
    rw[show(21- (dp+1)).toNat=(20- dp).toNat by omega]at g7
    simp only[if_pos he,z0j]at hX
    have hG:gvX S s dp a.it m.toNat c.toNat=dvX S s (20- dp).toNat a.it m.toNat c.toNat:=rfl
    rw[←hG]at g7
    simp only[true_and,and_true]
    generalize gvX S s dp a.it m.toNat c.toNat=G at*
    have hb1:i<=i'/\i'<=s.size:=⟨by omega,g3⟩
    refine⟨λhne=>⟨⟨fs,ks,e',i',c'⟩,rfl,rfl,rfl,rfl,rfl,rfl,rfl,rfl,rfl,zcv (λst=> ?_) hb1 ⟨by omega,g5⟩ (by omega) (by omega),λq hq=>hq.1.2⟩,λhe0=>⟨trivial,z4b ks 0,?_⟩⟩
    · cases G with
      |no j=>exact⟨j,g7,by rw[hmp,hX,z11]⟩
      |ok w=>exact absurd g7.1 hne
    cases G with
    |no j=>have g7:e'=j+1:=g7;have he0:e'=0:=he0;omega
    | ok w=>
      obtain⟨_,q2,q3,q4⟩:=g7
      simp only[z0j]at hX
      have hcc:c+1<=c'/\c'<=2000:=⟨g8,g6 he0⟩
      by_cases hk:k∈ks
      · obtain⟨k1,k2⟩:=zoi hk
        refine⟨(kI k ks:Nat),zmh _ hk,λ_=>⟨λ_=>⟨⟨by omega,by omega⟩,by rw[Int.toNat_natCast,z01 z0c];show 0+kI k ks*5+5<=_;omega,⟨fs.set (kI k ks) r,ks,0,i',c'⟩,rfl,rfl,rfl,rfl,rfl,List.length_set ..,rfl,by rw[Int.toNat_natCast];exact z9n z0c fs (kI k ks) (by omega) r,rfl,z7o (λst hst=>⟨_,by rw[hmp];exact hX st,?_,q3,q4⟩) hb1 hcc (by rw[List.length_set];omega) (by omega),λq hq=>zp1 hq.1.2 hq.2⟩,λg=>absurd k13 g⟩,λg=>by rw[j51 hk]at g;cases g⟩
        rw[hmp]at hst⊢
        rw[zpb,q2]
        exact zng hst hk
      · obtain⟨k1,k2⟩:=zx5 hk
        refine⟨0,zot _ hk,λg=>(by rw[zx4 hk]at g;cases g),λ_=>⟨λ_=>⟨trivial,z4b ks 0,z01 z9b ks,by omega,z01 z0c fs,by omega,⟨by omega,by omega⟩,by rw[List.length_append,z01 z0c];show 0+fs.length*5+5<=fs.length*5+5;omega,by rw[List.length_append,z01 z0c];show 0+fs.length*5+5<=fs.length*5+5;omega,⟨fs++[r],ks++[k],0,i',c'⟩,rfl,rfl,rfl,?_,?_,by simp,by simp,(zdr fs r _ rfl).symm,by rw[z04];rfl,z7o (λst hst=>⟨_,by rw[hmp];exact hX st,?_,q3,q4⟩) hb1 hcc (by rw[List.length_append];show((fs.length+1:Nat):Int)<=c';omega) (by rw[List.length_append];show((ks.length+1:Nat):Int)<=c';omega),λq hq=>z1z hq.1.2 (z1a hq.2)⟩,λg=>absurd k13 g⟩⟩
        · rw[←hln];exact k1.symm
        · exact k2.symm
        · rw[hmp]at hst⊢
          rw[zxb,q2]
          exact zne hst hk
  · have hmp:decide (a.k=13)=false:=decide_eq_false k13
    have hst:=hst0
    rw[hmp]at hst
    obtain⟨rfl,_⟩:=z55 hst
    have hX:∀st,itX (gvX S s dp a.it) s false st i.toNat c.toNat=(gvX S s dp a.it i.toNat c.toNat).bind λr=> .ok ((st.1,st.2++[r.1]),r.2):=λst=>by unfold itX;rw[if_neg (by decide)]
    refine⟨⟨by omega,by omega⟩,⟨S,⟨x,s,i,c⟩,a.it,dp+1⟩,rfl,rfl,rfl,rfl,rfl,rfl,rfl,rfl,⟨by show(25- (dp+1)).toNat<n;omega,hok,h,⟨hc0,hc1⟩,by show 1<=dp+1;omega,by show dp+1<=21;omega⟩,λq hq=>hq.1.1,?_⟩
    rintro⟨r,e',i',c'⟩ ⟨g1,_,⟨g2,g3⟩,⟨g4,g5⟩,g6⟩ _
    obtain⟨g7,g8⟩:=g1 hit
    have g2:i<=i':=g2
    have g8:c+1<=c':=g8
    have g5:c'<=2001:=g5
    have g7:agD (dvX S s (21- (dp+1)).toNat a.it i.toNat c.toNat) r.pv i' c' e':=g7
    rw[show(21- (dp+1)).toNat=(20- dp).toNat by omega]at g7
    have hG:gvX S s dp a.it i.toNat c.toNat=dvX S s (20- dp).toNat a.it i.toNat c.toNat:=rfl
    rw[←hG]at g7
    simp only[true_and,and_true]
    have hb1:i<=i'/\i'<=s.size:=⟨by omega,g3⟩
    generalize gvX S s dp a.it i.toNat c.toNat=G at*
    refine⟨λhne=>⟨⟨fs,[],e',i',c'⟩,rfl,rfl,rfl,rfl,rfl,rfl,rfl,rfl,rfl,zcv (λst=> ?_) hb1 ⟨by omega,g5⟩ (by omega) (by show((0:Nat):Int)<=c';omega),λq hq=>hq.1.2⟩,λhe0=>⟨trivial,z4b [] 0,0,rfl,λg=>absurd g (by decide),λ_=>⟨λg=>absurd g k13,λ_=> ?_⟩⟩⟩
    · cases G with
      |no j=>exact⟨j,g7,by rw[hmp,hX,z11]⟩
      |ok w=>exact absurd g7.1 hne
    cases G with
    |no j=>have g7:e'=j+1:=g7;have he0:e'=0:=he0;omega
    | ok w=>
      obtain⟨_,q2,q3,q4⟩:=g7
      simp only[z0j]at hX
      have hcc:c+1<=c'/\c'<=2000:=⟨g8,g6 he0⟩
      refine⟨z01 z0c fs,by omega,⟨by omega,by omega⟩,by rw[List.length_append,z01 z0c];show 0+fs.length*5+5<=fs.length*5+5;omega,by rw[List.length_append,z01 z0c];show 0+fs.length*5+5<=fs.length*5+5;omega,⟨fs++[r],[],0,i',c'⟩,rfl,rfl,rfl,rfl,rfl,by simp,rfl,(zdr fs r _ rfl).symm,rfl,z7o (λst hst=>⟨_,by rw[hmp];exact hX st,?_,q3,q4⟩) hb1 hcc (by rw[List.length_append];show((fs.length+1:Nat):Int)<=c';omega) (by show((0:Nat):Int)<=c';omega),λq hq=>z1z hq.1.2 (z1a hq.2)⟩
      rw[hmp]at hst⊢
      obtain⟨_,rfl⟩:=z55 hst
      unfold z2a
      rw[if_neg (by decide)]
      exact⟨rfl,by rw[zxb,q2]⟩
end
section
def zna:∀{ks:List ByteArray} {vs:List PV},ks.Nodup->∀{k:ByteArray} {v:PV},(k,v)∈ks.zip vs->vs[kI k ks]? =some v
  | [],_,_,k,v,h=>by simp at h
  |a::l,[],_,k,v,h=>by simp at h
  | a ::l,w::vs,hn,k,v,h=>by
    obtain⟨ha,hl⟩:=List.nodup_cons.1 hn
    rw[List.zip_cons_cons]at h
    rcases List.mem_cons.1 h with h|h
    · cases h;simp[kI]
    · have hk:=(List.of_mem_zip h).1
      rw[kI,if_neg (λe=>ha (by rw[←e];exact hk)),List.getElem?_cons_succ]
      exact zna hl h
def zd6{α β:Type} {f:α->Option β}:∀{l:List α} {m:List β},l.length=m.length->(∀p∈l.zip m,f p.1=some p.2)->m.map some=l.map f
  | [],[],_,_=>rfl
  | a::l,b::m,h,g=>by
    rw[List.map_cons,List.map_cons,g (a,b) (by simp),zd6 (by simpa using h) λp hp=>g p (by rw[List.zip_cons_cons];exact List.mem_cons_of_mem _ hp)]
def some_inj{α:Type}:∀{l m:List α},l.map some=m.map some->l=m
  | [],[],_=>rfl
  | [],_::_,h=>by cases h
  |_::_,[],h=>by cases h
  | a::l,b::m,h=>by
    rw[List.map_cons,List.map_cons]at h
    obtain⟨h1,h2⟩:=List.cons.inj h
    cases h1
    rw[some_inj h2]
variable {st:StI}
def znd{fs gs:List GV} {ks ls:List ByteArray} (h:z2a true ks (GV.pvs fs) st) (hp:ls.Perm ks) (hu:upS ls) (hg:gs.map some=ls.map (λk=>fs[kI k ks]?)):st.1=ls/\st.2=GV.pvs gs:=by
 unfold z2a at h
 rw[if_pos rfl]at h
 obtain⟨h0,h1,h2,h3,h4⟩:=h
 have hk:st.1.Perm ks:=by
  have:=h4.map Prod.fst
  rwa [List.map_fst_zip (by omega),List.map_fst_zip (by omega)]at this
 have e1:st.1=ls:=by
  refine List.Perm.eq_of_pairwise (le:=λa b=>qfa b a=false) (λa b _ _ p q=> ?_) (h3.imp λ{a b} p=> ?_) hu (hk.trans hp.symm)
  ·rcases(z21 a b).2 p with p|p
   ·rw[q]at p;cases p
   ·exact p
  ·exact(z21 a b).1 (.inl p)
 refine⟨e1,some_inj ?_⟩
 rw[zd6 (f:=λk=>(GV.pvs fs)[kI k ks]?) h2 λp hp'=>zna h0 (h4.mem_iff.1 hp'),e1,GV.pvs_map,GV.pvs_map,List.map_map]
 have:gs.map (some∘GV.pv)=(gs.map some).map (Option.map GV.pv):=by rw[List.map_map];rfl
 rw[this,hg,List.map_map]
 refine List.map_congr_left λk _=> ?_
 simp
variable {vs:List PV} {mp:Bool}
def z8r{ks:List ByteArray} (h:z2a mp ks vs st) (hk:ks.length≠0):mp=true:=by
 cases mp with
 |true=>rfl
 |false=>rw[(z55 h).1]at hk;exact absurd rfl hk
def znf(h:z2a mp [] vs st):st.1=[]/\st.2=vs:=by
  cases mp with
  |false=>rw[(z55 h).2];exact⟨rfl,rfl⟩
  | true=>
    unfold z2a at h
    rw[if_pos rfl]at h
    obtain⟨_,h1,h2,_,h4⟩:=h
    have h1:vs.length=0:=h1.symm
    have e:vs=[]:=List.eq_nil_of_length_eq_zero h1
    subst e
    have h5:=h4.length_eq
    rw[List.length_zip]at h5
    have e0:(List.zip ([]:List ByteArray) ([]:List PV)).length=0:=rfl
    rw[e0]at h5
    have h6:st.1.length=0:=by omega
    have h7:st.2.length=0:=by omega
    exact⟨List.eq_nil_of_length_eq_zero h6,List.eq_nil_of_length_eq_zero h7⟩
def zwt{fs:List GV} {ls:List ByteArray} {a b:Option Addr} {c d:Nat} {q:Pub} (h1:GV.oks fs q) (h2:fs.length<=c) (h3:qik q a (List.take (fs.length*5) (z00 GV.cells fs))) (h4:ls.length<=d) (h5:qik q b (List.take (ls.length*1) (z00 kyV ls))):(GV.mk 0 (mkS []) (a,fs.length,c) fs (b,ls.length,d) ls 0).ok q:=by
 rw[List.take_of_length_le (by rw[z01 z0c];exact Nat.le_refl _)]at h3
 rw[List.take_of_length_le (by rw[z01 z9b];exact Nat.le_refl _)]at h5
 unfold GV.ok
 exact⟨⟨rfl,h2,h3⟩,⟨rfl,h4,h5⟩,h1⟩
def zmq{α:Type} {f:α->List Value} {e:Nat} (hf:∀x,(f x).length=e) {l:List α} {i:Nat} (hi:i<l.length):qi8 (z00 f l) (0+i*e) (f l[i]):=λj v h=>by
 have hj:j<e:=by
  rcases Nat.lt_or_ge j e with g|g
  ·exact g
  ·rw[List.getElem?_eq_none (by rw[hf];exact g)]at h;cases h
 rw[Nat.zero_add,z20 hf l i hi j hj];exact h
def zob{fs gs:List GV} {ks ls:List ByteArray} {j m:Nat} (hg:gs.map some=(ls.take j).map (λk=>fs[kI k ks]?)) (hj:j<ls.length) (hm:m<fs.length) (e:kI ls[j] ks=m):(gs++[fs[m]]).map some=(ls.take (j+1)).map (λk=>fs[kI k ks]?):=by
 rw[List.take_add_one,List.getElem?_eq_getElem hj,List.map_append,List.map_append,hg]
 simp[e,hm]
def j4t:q22 P 82 cIv:=by
 refine qlb mixed (qee qlq) (qf7 (qig zpr qlp)) (W:=j7q) Go.Proofs.Tryz.func82 (by kernel_rfl) (show 1<=8 by decide) (show 8<=8 by decide) (λs=>by kernel_rfl) λ⟨fs,ks⟩=>(j4s fs ks).mpr ?_
 rintro⟨hf,hkl,mp0,st0,hst0⟩ ⟨p,_,hp⟩
 simp only[sbS,exists_const,forall_const,Int.toNat_natCast]
 refine⟨λhk a c _=> ?_,λhk=> ?_⟩
 ·have hk:ks=[]:=List.eq_nil_of_length_eq_zero (by omega)
  subst hk
  refine⟨.mk 0 (mkS []) (a,fs.length,c) fs (none,0,0) [] 0,rfl,rfl,rfl,rfl,rfl,rfl,rfl,rfl,rfl,λmp st h=> ?_,λq hq=>z46 hq.1 hq.2.1 hq.2.2⟩
  obtain⟨e1,e2⟩:=znf h
  rw[GV.pv,e1,e2]
 ·have hk0:ks.length≠0:=by omega
  have hmp:=z8r hst0 hk0
  rw[hmp]at hst0
  have hln:=(zbr hst0 rfl).1
  rw[GV.pvs_len]at hln
  refine⟨ks,rfl,rfl,⟨by omega,by omega⟩,?_⟩
  rintro ls ⟨hpm,hup⟩
  refine⟨⟨(0,[],ls),rfl,rfl,rfl,rfl,λq _=>GV.oks_iff.2 λw hw=>(by cases hw),⟨Nat.zero_le _,hpm,hup,rfl,rfl⟩⟩,?_⟩
  rintro⟨j,gs,ls⟩ ⟨r1,r2,r3,r4,r5⟩ ⟨p2,hp2,hgs⟩
  simp only at r1 r2 r3 r4 r5 hgs⊢
  have hll:=r2.length_eq
  refine⟨λhlt=> ?_,λhge a c _ b d _=> ?_⟩
  ·have hj:j<ls.length:=by omega
   have hjk:ls[j]∈ks:=r2.mem_iff.1 (List.getElem_mem hj)
   obtain⟨k1,k2⟩:=zoi hjk
   have hm:kI ls[j] ks<fs.length:=by omega
   refine⟨⟨by omega,by omega⟩,ls[j],zmq z9b hj,by rw[z01 z9b],by rw[List.length_take];omega,trivial,z4b ks 0,(kI ls[j] ks:Nat),zmh _ hjk,⟨by omega,by omega⟩,fs[kI ls[j] ks].n,fs[kI ls[j] ks].s,fs[kI ls[j] ks].x.1,fs[kI ls[j] ks].x.2.1,fs[kI ls[j] ks].x.2.2,fs[kI ls[j] ks].y.1,fs[kI ls[j] ks].y.2.1,fs[kI ls[j] ks].y.2.2,fs[kI ls[j] ks].b,by rw[Int.toNat_natCast];exact zmq z0c hm,z01 z0c gs,by omega,⟨by omega,by omega⟩,(j+1,gs++[fs[kI ls[j] ks]],ls),by show((j+1:Nat):Int)=_;omega,rfl,by simp,by simp only[List.length_take];omega,by rw[z04];rfl,?_,λq hq=>hq.1,λq hq=>z1z hq.2 (z1a (GV.oks_iff.1 hq.1 _ (List.getElem_mem hm))),⟨by show j+1<=_;omega,r2,r3,by simp[r4],zob r5 hj hm rfl⟩,by show ks.length- (j+1)<_;omega⟩
   show z00 kyV (ls.take (j+1))=_
   rw[List.take_add_one,List.getElem?_eq_getElem hj,z04]
   rfl
  ·have hj:j=ks.length:=by omega
   have ht:ls.take j=ls:=List.take_of_length_le (by omega)
   rw[ht]at r5
   refine⟨.mk 0 (mkS []) (a,gs.length,c) gs (b,ls.length,d) ls 0,rfl,rfl,rfl,rfl,rfl,rfl,by rw[ht];rfl,rfl,rfl,λmp st h=> ?_,λq hq=> ?_⟩
   ·rw[z8r h hk0]at h
    obtain⟨e1,e2⟩:=znd h r2 r3 r5
    rw[GV.pv,e1,e2]
   ·have h5:=hq.2.2
    have h4:=hq.2.1
    rw[ht]at h4 h5
    exact zwt hq.1.1.2 hq.1.2.1 hq.1.2.2 h4 h5
end
section
variable {α:Type} {q:Prop}
def z1g{R0:Rs α} {e:Int} {k:Nat} (h:R0= .no k) (he:e=k+1):thn R0 e q:= .inr ⟨k,he,h⟩
def z2i{R0:Rs α} {e:Int} (he:e=0) (h:q):thn R0 e q:= .inl ⟨he,h⟩
variable {D:ByteArray}
def zmk{S:List AT} {a:AT} {dp:Int} {n all:Int} {r:GV} {n' all' e':Int} (st:StI) (hr:r.pv= .mk 0 (mkS []) st.2 st.1 0) (h1:z0x D n') (h2:all<=all') (h3:all'<=2001) (h4:e'=0->all'<=2000) (h0:0<=all) (hn:n<=n') (h:thn (rbR S a dp D n all) e' (rbR S a dp D n all= .ok (st,n'.toNat,all'.toNat))):z0v (bvX (gvX S D dp) D a n.toNat all.toNat) D n all 0 (r,n',all',e'):=by
 refine⟨?_,h1,⟨h2,h3⟩,h4,hn⟩
 rw[if_pos rfl]
 show agD ((rbR S a dp D n all).bind _) _ _ _ _
 rcases h with⟨rfl,h⟩|⟨k,rfl,h⟩
 ·rw[h,z0j]
  have:=h1.1
  exact⟨rfl,hr,by show n'=((n'.toNat:Nat):Int);omega,by show all'=((all'.toNat:Nat):Int);omega⟩
 ·rw[h,z11];rfl
structure HdR(D:ByteArray) (n:Int) (v n1 e:Int):Prop where
 ok:z0x D n1
 le:n<=n1
 up:e=0->n<n1
 lo: -9223372036854775808<=v
 hi:v<9223372036854775808
 en:0<=e
def zhp{n:Int} (h:z0x D n):HdR D n (lgR D n.toNat).1 ((lgR D n.toNat).2.2:Nat) ((lgR D n.toNat).2.1:Nat):=by
 have f:=z0m D n.toNat (by have:=h.1;have:=h.2.1;omega)
 exact⟨⟨by omega,by omega,h.2.2⟩,by have:=h.1;omega,λhe=>by have:=h.1;omega,f.1,f.2.1,by omega⟩
def zx7{v:Int} (h1: -9223372036854775808<=v) (h:v≠ -9223372036854775808): -v<=9223372036854775807:=by omega
def zwm{d f n:Nat} (h:d<f+n):(d:Int)<(f:Int)+((n:Nat):Int):=by omega
def zi8{e:Nat} (h:e≠0):((e:Nat):Int)=((e- 1:Nat):Int)+1:=by omega
set_option maxHeartbeats 1000000 in
def zxf (c:Nat) (hv0:q22 P 31 (cRv.below z7q c)):q22 P 62 ((cRb j4u).below zgd (c+1)):=by
 refine qlb mixed (qee (qih z25 (qih z2o (qih z5p (qih z4c qlq))))) (qf7 (qig hv0 (qig z9k qlp))) (W:=wRb true) Go.Proofs.Tryz.func62 (by kernel_rfl) (show 1<=2 by decide) (show 2<=2 by decide) (λs=>by kernel_rfl) λ⟨S,⟨(x:SV),(y:SV),D,(n:Int),(all:Int),(e:Int)⟩,a,(dp:Int)⟩=>(zxe c S x y D n all e a dp).mpr ?_
 rintro⟨hmu,hok,haS,hk,hd,⟨ha0,ha1⟩,he,hp1,hp2⟩ ⟨p,_,hx,hao,hyl,hy⟩
 subst he
 have hmu:(25- dp).toNat<c+1:=hmu
 have hk:a.k=12:=hk
 have hmp:decide (a.k=13)=false:=decide_eq_false (by omega)
 have hit:=(hok.2.2 a haS).2.2.1 (.inl hk)
 simp only[sbS,exists_const,forall_const,Int.toNat_natCast,hk]
 refine⟨⟨⟨D.size+1- n.toNat,n,all,0,[]⟩,rfl,rfl,rfl,rfl,λq _=>GV.oks_iff.2 λw hw=>(by cases hw),⟨⟨hd,Int.le_refl _⟩,⟨Int.le_refl _,by show all<=2001;omega⟩,λ_=>ha1,by show((0:Nat):Int)<=all;omega⟩,(by have:=hd.1;have:=hd.2.1;show(D.size:Int)<((D.size+1- n.toNat:Nat):Int)+n;omega), .inl ⟨rfl,rfl⟩⟩,?_⟩
 rintro⟨F,n1,all1,e1,fs⟩ ⟨⟨⟨c1,c0⟩,⟨c2,c3⟩,c4,c5⟩,cF,cT⟩ ⟨p1,hp1',hfs⟩
 simp only at c0 c1 c2 c3 c4 c5 cF cT hfs⊢
 have c5:(fs.length:Int)<=all1:=by rw[GV.pvs_len]at c5;exact c5
 have ret:∀(a6:Option Addr) (cc:Nat) (n' all' e':Int),z0x D n'->n<=n'->all<=all'->all'<=2001->(e'=0->all'<=2000)->thn (rbR S a dp D n all) e' (rbR S a dp D n all= .ok (([],GV.pvs fs),n'.toNat,all'.toNat))->z0v (bvX (gvX S D dp) D a n.toNat all.toNat) D n all 0 (.mk 0 (mkS []) (a6,fs.length,cc) fs (none,0,0) [] 0,n',all',e'):=λa6 cc n' all' e' h1 hn h2 h3 h4 h5=>zmk ([],GV.pvs fs) (by rw[GV.pv]) h1 h2 h3 h4 ha0 hn h5
 refine⟨λhz=> ?_,λhnz=> ?_⟩
 ·subst hz
  have hB:bkX (gvX S D dp a.it) D false F ([],GV.pvs fs) n1.toNat all1.toNat=rbR S a dp D n all:=by
   rcases cT with⟨_,q⟩|⟨k,q,_⟩
   ·rw[hmp]at q;exact q
   ·omega
  have c4':=c4 rfl
  have hh:=znm (show n1.toNat<=D.size by have:=c1.1;have:=c1.2.1;omega) (show D.size<F+n1.toNat by have:=c1.1;omega) hB
  have hl:=zhp c1
  refine⟨⟨x,y,D,n1,all1,0⟩,rfl,rfl,rfl,rfl,rfl,rfl,rfl,rfl,rfl,c1,λq hq=>hq.1.2.2,?_⟩
  simp only[z7p c1,true_and,and_true,eq_self]
  have hl2:=zhp hl.ok
  have hg2:=z7p hl.ok
  rw[Int.toNat_natCast]at hl2 hg2
  generalize lgR D n1.toNat=T at*
  obtain⟨v,er,n2⟩:=T
  simp only at hh hl hl2 hg2⊢
  obtain⟨l1,l0,l2,l3,l4,l5⟩:=hl
  obtain⟨m1,m0,m2,m3,m4,m5⟩:=hl2
  refine⟨λhe a6 cc _=> ?_,λhe=>⟨λhv a6 cc _=> ?_,λhv=>⟨⟨λhv0=> ?_,λhv0=> ?_⟩,?_⟩⟩⟩
  ·refine⟨⟨.mk 0 (mkS []) (a6,fs.length,cc) fs (none,0,0) [] 0,n2,all1,er⟩,rfl,rfl,rfl,rfl,rfl,rfl,rfl,rfl,rfl,rfl,rfl,rfl,ret a6 cc n2 all1 er l1 (by omega) c2 c3 (λh=>absurd h he) (z1g (hh.1 (by omega)) (by omega)),λq hq=>z46 hq.1.2 hq.2.1 hq.2.2⟩
  ·have he0:er=0:=by omega
   subst he0
   refine⟨⟨.mk 0 (mkS []) (a6,fs.length,cc) fs (none,0,0) [] 0,n2,all1,0⟩,rfl,rfl,rfl,rfl,rfl,rfl,rfl,rfl,rfl,rfl,rfl,rfl,ret a6 cc n2 all1 0 l1 (by omega) c2 c3 (λ_=>c4') (z2i rfl (by rw[hh.2.1 rfl hv,Int.toNat_natCast])),λq hq=>z46 hq.1.2 hq.2.1 hq.2.2⟩
  ·have er0:er=0:=by omega
   subst er0
   refine⟨_,rfl,λhneg=> ?_,λhnn=> ?_⟩
   ·have hvm:v= -9223372036854775808:=by
     by_cases h:v= -9223372036854775808
     ·exact h
     ·rw[z29 (by omega) l4]at hneg;omega
    subst hvm
    refine⟨⟨x,y,n2,all1,0,2⟩,rfl,rfl,rfl,rfl,rfl,rfl,rfl,rfl,rfl,rfl,⟨x,y,D,n2,all1,2⟩,rfl,rfl,rfl,rfl,rfl,rfl,rfl,rfl,rfl,l1,λq hq=>hq.1.2.2,?_⟩
    have hbad:lnF D n2 2=((0:Int),((n2:Nat):Int),(2:Int)):=by unfold lnF;rw[if_pos (by decide)]
    simp only[hbad,true_and,and_true,eq_self]
    refine⟨λh=>absurd h (by decide),λ_=>⟨⟨D.size+1,_,0,n2,2,fs⟩,rfl,rfl,rfl,rfl,rfl,rfl,λq hq=>hq.2,⟨⟨⟨l1,by show n<=((n2:Nat):Int);omega⟩,⟨c2,c3⟩,λh=>absurd h (by show¬(2:Int)=0;decide),by rw[GV.pvs_len];exact c5⟩,by show IntKind.wrap .i64 (0 - -9223372036854775808)<=_;rw[z3z];decide,by show(D.size:Int)<((D.size+1:Nat):Int)+n2;omega,z1g (hh.2.2.2.1 rfl rfl) rfl⟩⟩⟩
   ·have hvm:v≠ -9223372036854775808:=λh=>by subst h;rw[z3z]at hnn;exact hnn (by decide)
    have hh5:=hh.2.2.2.2 rfl hv0 hvm
    rw[z29 (by omega) l4]
    refine⟨⟨x,y,D,n2,all1,0⟩,rfl,rfl,rfl,rfl,rfl,rfl,rfl,rfl,rfl,l1,λq hq=>hq.1.2.2,?_⟩
    simp only[hg2,true_and,and_true,eq_self]
    have hm0:n<=(((lgR D n2).2.2:Nat):Int):=by omega
    generalize lgR D n2=U at*
    obtain⟨z,er2,n3⟩:=U
    simp only at hm0 hh5 m1 m2 m3 m4 m5⊢
    have cut:∀(F':Nat) (e2:Int),D.size<F'+n3->thn (rbR S a dp D n all) e2 (1<= -v/\(z47 (gvX S D dp a.it) D (decide (a.k=13)) (-v).toNat ([],GV.pvs fs) ((n3:Nat):Int).toNat all1.toNat).bind (rbK S a dp D F' n3 z)=rbR S a dp D n all)->rbH S a dp D n all F' (-v) z n3 all1 e2 ([],GV.pvs fs):=λF' e2 h1 h2=>⟨⟨⟨m1,hm0⟩,⟨c2,c3⟩,λ_=>c4',by rw[GV.pvs_len];exact c5⟩,zx7 l3 hvm,zwm h1,h2⟩
    refine⟨λhz=>⟨⟨x,y,n3,all1,er2,2⟩,rfl,rfl,rfl,rfl,rfl,rfl,rfl,rfl,rfl,rfl,⟨D.size+1,_,_,n3,(if((er2:Nat):Int)=0 then 2 else((er2:Nat):Int)),fs⟩,rfl,rfl,rfl,rfl,rfl,rfl,rfl,rfl,rfl,rfl,rfl,rfl,rfl,λq hq=>hq.2,?_⟩,λhz=> ?_⟩
    ·refine cut _ _ (by omega) ?_
     show thn _ (if((er2:Nat):Int)=0 then(2:Int)else((er2:Nat):Int)) _
     by_cases h:er2=0
     ·rw[h];exact z1g (hh5.2.1 h hz) rfl
     ·have h9:(if((er2:Nat):Int)=0 then(2:Int)else((er2:Nat):Int))=((er2:Nat):Int):=if_neg (λq=>h (Int.natCast_eq_zero.1 q))
      rw[h9];exact z1g (hh5.1 h) (zi8 h)
    ·by_cases h:er2=0
     ·obtain⟨F',f1,f2⟩:=hh5.2.2 h (by omega)
      refine⟨⟨F',_,_,n3,_,fs⟩,rfl,rfl,rfl,rfl,rfl,rfl,λq hq=>hq.2,cut _ _ f1 (z2i (Int.natCast_eq_zero.2 h) ⟨by omega,?_⟩)⟩
      rw[hmp,Int.toNat_natCast,←f2]
      unfold rbK bkK
      rw[hmp,Int.toNat_natCast]
     ·exact⟨⟨D.size+1,_,_,n3,_,fs⟩,rfl,rfl,rfl,rfl,rfl,rfl,λq hq=>hq.2,cut _ _ (by omega) (z1g (hh5.1 h) (zi8 h))⟩
  ·have er0:er=0:=by omega
   obtain⟨F',f1,f2⟩:=hh.2.2.1 er0 (by omega)
   refine⟨⟨F',_,_,n2,_,fs⟩,rfl,rfl,rfl,rfl,rfl,rfl,λq hq=>hq.2,⟨⟨⟨l1,by show n<=((n2:Nat):Int);omega⟩,⟨c2,c3⟩,λ_=>c4',by rw[GV.pvs_len];exact c5⟩,by show v<=_;omega,by show(D.size:Int)<F'+((n2:Nat):Int);omega,z2i he ⟨by show 1<=v;omega,?_⟩⟩⟩
   rw[hmp,Int.toNat_natCast,←f2]
   unfold rbK bkK
   rw[hmp,Int.toNat_natCast]
  clear hh hg2 m0 m1 m2 m3 m4 m5 l0 l1 l2 l3 l4 l5
  rintro⟨F2,cnt,sz,n3,e3,gs⟩ ⟨⟨⟨d1,d0⟩,⟨d2,d3⟩,d4,d5⟩,dC,dF,dT⟩ ⟨p3,hp3,hgs⟩
  simp only at d0 d1 d2 d3 d4 d5 dC dF dT hgs⊢
  refine⟨⟨⟨F2,0,n3,all1,e3,gs⟩,rfl,rfl,rfl,rfl,rfl,rfl,λq hq=>hq.2,⟨⟨.inl rfl,Int.le_refl _,λ_=>by show all1+((0:Nat):Int)<=all1;omega⟩,⟨⟨d1,d0⟩,⟨d2,d3⟩,d4,d5⟩,⟨d1.1,Int.le_refl _⟩,dF,?_⟩⟩,?_⟩
  ·rcases dT with⟨q1,q2,q3⟩|q
   ·refine .inl ⟨q1,q2,?_⟩
    show(z47 _ _ _ (cnt- ((0:Nat):Int)).toNat _ _ _).bind _=_
    rw[show(cnt- ((0:Nat):Int))=cnt by omega];exact q3
   ·exact .inr q
  rintro⟨F3,i,n4,all4,e4,us⟩ ⟨⟨e1,e2,e2'⟩,⟨⟨g1,g0⟩,⟨g2,g3⟩,g4,g5⟩,⟨e5,e6⟩,eF,eT⟩ ⟨p4,hp4,hus⟩
  simp only at e1 e2 e2' g0 g1 g2 g3 g4 g5 e5 e6 eF eT hus⊢
  have g5:(us.length:Int)<=all4:=by rw[GV.pvs_len]at g5;exact g5
  have nx:∀e':Int,(e'=0->all4<=2000)->(e'=0->all1<all4)->thn (rbR S a dp D n all) e' (bkX (gvX S D dp a.it) D (decide (a.k=13)) F3 ([],GV.pvs us) n4.toNat all4.toNat=rbR S a dp D n all)->rbO S a dp D n all F3 n4 all4 e' ([],GV.pvs us)/\(2*(2001- all4).toNat+if e'=0 then 1 else 0)<2*(2001- all1).toNat+if True then 1 else 0:=λe' h1 h2 h3=>by
   refine⟨⟨⟨⟨g1,g0⟩,⟨g2,g3⟩,h1,by rw[GV.pvs_len];exact g5⟩,by omega,h3⟩,?_⟩
   rw[if_pos trivial]
   split
   ·rename_i h;have:=h2 h;have:=h1 h;omega
   ·omega
  have h64: -9223372036854775808<=n4- n3/\n4- n3<=9223372036854775807:=by have:=g1.1;have:=g1.2.1;have:=g1.2.2;have:=d1.1;omega
  have bad:e4≠0->_:=λhne=>nx e4 (λh=>absurd h hne) (λh=>absurd h hne) (by
   rcases eT with⟨q,_⟩|q
   ·exact absurd q hne
   ·exact .inr q)
  have good:¬(i:Int)<cnt->e4=0->all1<all4/\rbK S a dp D F3 n3 sz (([],GV.pvs us),n4.toNat,all4.toNat)=rbR S a dp D n all:=λh h0=>by
   rcases eT with⟨_,q2,q3⟩|⟨k,q,_⟩
   ·rw[show(cnt- (i:Int)).toNat=0 by omega,z47,z0j]at q3
    exact⟨by have:=e2' h0;omega,q3⟩
   ·omega
  have bke:bkE n3.toNat sz n4.toNat=true↔0<=sz/\n4- n3≠sz:=by
   unfold bkE
   have:=g1.1;have:=d1.1
   rw[Bool.and_eq_true,decide_eq_true_eq,decide_eq_true_eq,Int.toNat_of_nonneg (by omega),Int.toNat_of_nonneg (by omega)]
  refine⟨λhlt=>⟨λh0=> ?_,λhne=>⟨λh=>absurd h hne,λ_=>⟨⟨F3,n4,all4,e4,us⟩,rfl,rfl,rfl,rfl,rfl,λq hq=>hq.1.1.1,λq hq=>hq.2,bad hne⟩⟩⟩,λhge=>⟨λh0=>⟨λhs=>⟨h64,λhn=>⟨⟨F3,n4,all4,2,us⟩,rfl,rfl,rfl,rfl,rfl,λq hq=>hq.1.1.1,λq hq=>hq.2,?_⟩,λhn=>⟨⟨F3,n4,all4,e4,us⟩,rfl,rfl,rfl,rfl,rfl,λq hq=>hq.1.1.1,λq hq=>hq.2,?_⟩⟩,λhs=>⟨⟨F3,n4,all4,e4,us⟩,rfl,rfl,rfl,rfl,rfl,λq hq=>hq.1.1.1,λq hq=>hq.2,?_⟩⟩,λhne=>⟨⟨F3,n4,all4,e4,us⟩,rfl,rfl,rfl,rfl,rfl,λq hq=>hq.1.1.1,λq hq=>hq.2,bad hne⟩⟩⟩
  ·subst h0
   obtain⟨q2,q3⟩:1<=cnt/\(z47 (gvX S D dp a.it) D false (cnt- (i:Int)).toNat ([],GV.pvs us) n4.toNat all4.toNat).bind (rbK S a dp D F3 n3 sz)=rbR S a dp D n all:=by
    rcases eT with⟨_,q2,q3⟩|⟨k,q,_⟩
    ·rw[hmp]at q3;exact⟨q2,q3⟩
    ·omega
   rw[zcx (by omega)]at q3
   unfold itX at q3
   rw[if_neg (by decide),zij]at q3
   have g4':=g4 rfl
   have e2'':=e2' rfl
   refine⟨⟨?ra,?rb,?rc⟩,λh=>absurd trivial h⟩
   case ra|rb|rc=>
    refine⟨⟨by omega,by omega⟩,⟨S,⟨x,y,D,n4,all4,0⟩,a.it,dp+1⟩,rfl,rfl,rfl,rfl,rfl,rfl,rfl,rfl,rfl,rfl,rfl,⟨by show(25- (dp+1)).toNat<c;omega,hok,g1,⟨by show 0<=all4;omega,g4'⟩,Int.le_refl _,hit,by show 1<=dp+1;omega,by show dp+1<=21;omega⟩,λq hq=>⟨hq.1.1.1.1,hq.1.1.1.2.2⟩,?_⟩
    rintro⟨r,n',all',e'⟩ ⟨h1,h2,h3,h4,h6⟩ _
    have h6:n4<=n':=h6
    have h3:all4+1<=all'/\all'<=2001:=h3
    rw[if_pos rfl,show(21- (dp+1)).toNat=(20- dp).toNat by omega]at h1
    have hag:=z57 h1 q3
    simp only[z0j]at hag
    have hk1:(cnt- (i:Int)).toNat- 1=(cnt- ((i+1:Nat):Int)).toNat:=by omega
    rw[hk1]at hag
    refine⟨z01 z0c us,by omega,⟨by omega,by omega⟩,⟨F3,i+1,n',all',e',us++[r]⟩,by show((i+1:Nat):Int)=_;omega,?_⟩
    simp only[true_and,and_true,eq_self]
    refine⟨by simp,by rw[z04];rfl,λq hq=>hq.1.1,λq hq=>z1z hq.1.2 (z1a hq.2),⟨⟨.inr (by omega),by omega,λ_=>by omega⟩,⟨⟨h2,by show n<=n';omega⟩,⟨by omega,by omega⟩,h4,by show((GV.pvs (us++[r])).length:Int)<=all';rw[GV.pvs_len,List.length_append];show((us.length+1:Nat):Int)<=all';omega⟩,⟨by omega,by show n3<=n';omega⟩,by omega,?_⟩,by omega⟩
    rw[hmp,zxb]
    rcases hag with⟨w1,w2⟩|w
    ·exact .inl ⟨w1,q2,w2⟩
    ·exact .inr w
  ·obtain⟨w1,w2⟩:=good hge h0
   unfold rbK at w2
   rw[if_pos (bke.2 ⟨hs,hn⟩)]at w2
   exact nx 2 (λh=>absurd h (by decide)) (λh=>absurd h (by decide)) (z1g w2.symm rfl)
  ·obtain⟨w1,w2⟩:=good hge h0
   unfold rbK at w2
   rw[if_neg (λh=>(bke.1 h).2 hn)]at w2
   exact nx e4 g4 (λ_=>w1) (z2i h0 w2)
  ·obtain⟨w1,w2⟩:=good hge h0
   unfold rbK at w2
   rw[if_neg (λh=>hs (bke.1 h).1)]at w2
   exact nx e4 g4 (λ_=>w1) (z2i h0 w2)
 ·exactλa6 cc _=>⟨⟨.mk 0 (mkS []) (a6,fs.length,cc) fs (none,0,0) [] 0,n1,all1,e1⟩,rfl,rfl,rfl,rfl,rfl,rfl,rfl,rfl,rfl,rfl,rfl,rfl,ret a6 cc n1 all1 e1 c1 c0 c2 c3 c4 (by
   rcases cT with⟨q,_⟩|⟨k,q1,q2⟩
   ·exact absurd q hnz
   ·exact z1g q2 q1),λq hq=>z46 hq.1.2 hq.2.1 hq.2.2⟩
end
section
variable (x0:Int) (x1 x2:SV) (x3 x4 x5:Int) (x6:AT) (x7:List AT) (x8:ByteArray) (x9:Nat) (x10:Nat×Int×Int×Int×GV) (x11:DcR) (x12:Nat×Int×Int×Int×Int×GV) (x13:Nat×Nat×Int×Int×Int×GV) (x14:RvB) (x15:RvS) (x16:DcR) (x17:Prop) (x18:Nat->Option Obj) (x19:Nat×Int×Int×Int×GV) (x20:GV) (x21:(Option Addr×Nat×Nat)×(Option Addr×Nat×Nat)×Int×Int×Int×Int) (x22:Nat×Nat×Int×Int×Int×GV)
 abbrev z8p:=True/\z09 x7 x1 x18/\AT.ok x6 x18/\x2.2.1=size x8/\qil x18 x2.1 x2.2.1 x2.2.2 (q1h x8)
 def z4j:=x1.1=x1.1/\x1.2.1=x1.2.1/\x1.2.2=x1.2.2/\x17
 def z8o:=AT.k x6=AT.k x6/\AT.nm x6=AT.nm x6/\(AT.al x6).1=(AT.al x6).1/\(AT.al x6).2.1=(AT.al x6).2.1/\(AT.al x6).2.2=(AT.al x6).2.2/\AT.it x6=AT.it x6/\(AT.sy x6).1=(AT.sy x6).1/\(AT.sy x6).2.1=(AT.sy x6).2.1/\(AT.sy x6).2.2=(AT.sy x6).2.2/\AT.hd x6=AT.hd x6/\AT.df x6=AT.df x6/\AT.sz x6=AT.sz x6/\(AT.f x6).1=(AT.f x6).1/\(AT.f x6).2.1=(AT.f x6).2.1/\(AT.f x6).2.2=(AT.f x6).2.2/\(AT.br x6).1=(AT.br x6).1/\(AT.br x6).2.1=(AT.br x6).2.1/\(AT.br x6).2.2=(AT.br x6).2.2/\x17
 def zlt:=uK x10.2.2.2.2/\rbO x7 x6 x0 x8 x3 x4 x10.1 x10.2.1 x10.2.2.1 x10.2.2.2.1 (GV.ks x10.2.2.2.2,GV.pvs (GV.l x10.2.2.2.2))
 def z2g:=(z8p x1 x2 x6 x7 x8 x18)/\GV.ok x10.2.2.2.2 x18
 def zvm:=x11.1.1=x1.1/\x11.1.2.1=x1.2.1/\x11.1.2.2=x1.2.2/\x11.2.1.1=x2.1/\x11.2.1.2.1=x2.2.1/\x11.2.1.2.2=x2.2.2/\x17
 def zlq:=x11.2.1.2.1=size x11.2.2.1/\qil x18 x11.2.1.1 x11.2.1.2.1 x11.2.1.2.2 (q1h x11.2.2.1)
 abbrev z1o:=lnF x11.2.2.1 x11.2.2.2.1 x11.2.2.2.2.2
 def zvj:=GV.n x14.1=GV.n x10.2.2.2.2/\GV.s x14.1=GV.s x10.2.2.2.2/\(GV.x x14.1).1=(GV.x x10.2.2.2.2).1/\(GV.x x14.1).2.1=(GV.x x10.2.2.2.2).2.1/\(GV.x x14.1).2.2=(GV.x x10.2.2.2.2).2.2/\(GV.y x14.1).1=(GV.y x10.2.2.2.2).1/\(GV.y x14.1).2.1=(GV.y x10.2.2.2.2).2.1/\(GV.y x14.1).2.2=(GV.y x10.2.2.2.2).2.2/\GV.b x14.1=GV.b x10.2.2.2.2/\x17
 def zls:=x1.1=x11.1.1/\x1.2.1=x11.1.2.1/\x1.2.2=x11.1.2.2/\x2.1=x11.2.1.1/\x2.2.1=x11.2.1.2.1/\x2.2.2=x11.2.1.2.2/\x17
 def zvi:=∃(i0:RvB),zvj x10 i0 (zls x1 x2 x11 (i0.2.1=(z1o x11).2.1/\i0.2.2.1=x11.2.2.2.2.1/\i0.2.2.2=(z1o x11).2.2/\z0v (bvX (gvX x7 x8 x0) x8 x6 (toNat x3) (toNat x4)) x8 x3 x4 0 i0/\(∀i1,z2g x1 x2 x6 x7 x8 x10 i1->GV.ok i0.1 i1)/\True))
 def zlr:=x21.2.2.2.2.2=2/\x21.1.1=x11.1.1/\x21.1.2.1=x11.1.2.1/\x21.1.2.2=x11.1.2.2/\x21.2.1.1=x11.2.1.1/\x21.2.1.2.1=x11.2.1.2.1/\x21.2.1.2.2=x11.2.1.2.2/\x17
 def zvp:=x21.2.2.1=(z1o x11).2.1/\x21.2.2.2.1=x11.2.2.2.2.1/\x21.2.2.2.2.1=(z1o x11).2.2/\True/\x17
 def zvo:=uK x12.2.2.2.2.2/\rbH x7 x6 x0 x8 x3 x4 x12.1 x12.2.1 x12.2.2.1 x12.2.2.2.1 x11.2.2.2.2.1 x12.2.2.2.2.1 (GV.ks x12.2.2.2.2.2,GV.pvs (GV.l x12.2.2.2.2.2))
 def zlp:=z8o x6 (GV.n x12.2.2.2.2.2=GV.n x10.2.2.2.2/\GV.s x12.2.2.2.2.2=GV.s x10.2.2.2.2/\(GV.x x12.2.2.2.2.2).1=(GV.x x10.2.2.2.2).1/\(GV.x x12.2.2.2.2.2).2.1=(GV.x x10.2.2.2.2).2.1/\(GV.x x12.2.2.2.2.2).2.2=(GV.x x10.2.2.2.2).2.2/\(GV.y x12.2.2.2.2.2).1=(GV.y x10.2.2.2.2).1/\(GV.y x12.2.2.2.2.2).2.1=(GV.y x10.2.2.2.2).2.1/\(GV.y x12.2.2.2.2.2).2.2=(GV.y x10.2.2.2.2).2.2/\GV.b x12.2.2.2.2.2=GV.b x10.2.2.2.2/\(∀i0,z2g x1 x2 x6 x7 x8 x10 i0->z2g x1 x2 x6 x7 x8 x10 i0)/\(∀i1,z2g x1 x2 x6 x7 x8 x10 i1->GV.ok x12.2.2.2.2.2 i1)/\(zvo x0 x3 x4 x6 x7 x8 x11 x12)/\True)
 abbrev zvg:=z0x x11.2.2.1 x11.2.2.2.1/\(∀i0,z2g x1 x2 x6 x7 x8 x10 i0->zlq x11 i0)/\Ji ((z1o x11).1<0) (∃(i1:(Option Addr×Nat×Nat)×(Option Addr×Nat×Nat)×Int×Int×Int×Int),zlr x11 (zvp x11 (∃(i2:Nat×Int×Int×Int×Int×GV),i2.2.2.1=(z1o x11).1/\x0=x0/\i2.2.1=x3/\x1.1=i1.1.1/\x1.2.1=i1.1.2.1/\x1.2.2=i1.1.2.2/\x2.1=i1.2.1.1/\x2.2.1=i1.2.1.2.1/\x2.2.2=i1.2.1.2.2/\i2.2.2.2.1=i1.2.2.1/\x16.2.2.2.2.1=i1.2.2.2.1/\(i2.2.2.2.2.1=if i1.2.2.2.2.1=0 then i1.2.2.2.2.2 else i1.2.2.2.2.1)/\zlp x0 x1 x2 x4 x5 x6 x7 x8 x10 x16 i2) i1) i1) (∃(i5:Nat×Int×Int×Int×Int×GV),i5.2.2.1=(z1o x11).1/\x0=x0/\i5.2.1=x3/\zls x1 x2 x11 (i5.2.2.2.1=(z1o x11).2.1/\x16.2.2.2.2.1=x11.2.2.2.2.1/\i5.2.2.2.2.1=(z1o x11).2.2/\zlp x0 x1 x2 x4 x5 x6 x7 x8 x10 x16 i5))
 abbrev z32:=(GV.x x13.2.2.2.2.2).2
 abbrev z33:=(GV.y x13.2.2.2.2.2).2
 def zgb:=uK x13.2.2.2.2.2/\rbN x7 x6 x0 x8 x3 x4 x13.1 x11.2.2.2.2.1 x12.2.1 x12.2.2.1 x12.2.2.2.1 x13.2.1 x13.2.2.1 x13.2.2.2.1 x13.2.2.2.2.1 (GV.ks x13.2.2.2.2.2,GV.pvs (GV.l x13.2.2.2.2.2))
 def z2u:=((z2g x1 x2 x6 x7 x8 x10 x18)/\GV.ok x12.2.2.2.2.2 x18)/\GV.ok x13.2.2.2.2.2 x18
 abbrev zlv:=Jb (x0+1)
 def j34:=z09 x15.1 x15.2.1.1 x18/\x15.2.1.2.1.2.1=size x15.2.1.2.2.1/\qil x18 x15.2.1.2.1.1 x15.2.1.2.1.2.1 x15.2.1.2.1.2.2 (q1h x15.2.1.2.2.1)
 def zvh:=(z7q x15<x9/\okS x15.1/\z0x x15.2.1.2.2.1 x15.2.1.2.2.2.1/\(0<=x15.2.1.2.2.2.2.1/\x15.2.1.2.2.2.2.1<=2000)/\0<=x15.2.1.2.2.2.2.2/\(0<=x15.2.2.1/\x15.2.2.1<(↑(length x15.1):Int))/\1<=x15.2.2.2/\x15.2.2.2<=21)/\(∀i0,z2u x1 x2 x6 x7 x8 x10 x12 x13 i0->j34 x15 i0)/\x17
 abbrev zvl:=dvX x15.1 x15.2.1.2.2.1 (toNat ((21:Int)- x15.2.2.2)) x15.2.2.1 (toNat x15.2.1.2.2.2.1) (toNat x15.2.1.2.2.2.2.1)
 def zlo:=zlv x0/\∃(i0:RvS),i0.2.2.1=AT.it x6/\i0.2.2.2=x0+1/\i0.2.1.1.1=x1.1/\i0.2.1.1.2.1=x1.2.1/\i0.2.1.1.2.2=x1.2.2/\i0.2.1.2.1.1=x2.1/\i0.2.1.2.1.2.1=x2.2.1/\i0.2.1.2.1.2.2=x2.2.2/\i0.2.1.2.2.2.1=x13.2.2.1/\i0.2.1.2.2.2.2.1=x13.2.2.2.1/\i0.2.1.2.2.2.2.2=x13.2.2.2.2.1/\zvh x1 x2 x6 x7 x8 x9 x10 x12 x13 i0 (∀(i2:RvB),z0v (zvl i0) i0.2.1.2.2.1 i0.2.1.2.2.2.1 (i0.2.1.2.2.2.2.1+1) i0.2.1.2.2.2.2.2 i2->(∃i3,(z2u x1 x2 x6 x7 x8 x10 x12 x13 i3)/\GV.ok i2.1 i3)->False)
 def j2z:=(zlo x0 x1 x2 x6 x7 x8 x9 x10 x12 x13)/\(zlo x0 x1 x2 x6 x7 x8 x9 x10 x12 x13)/\zlo x0 x1 x2 x6 x7 x8 x9 x10 x12 x13
 abbrev z4k:=txF x11.2.2.1 x11.2.2.2.1 x11.2.2.2.2.2
 abbrev zvq:=Jb ((↑x13.2.1:Int)+1)
 def zvk:=(↑x13.2.1:Int)=(↑x22.2.1:Int)+1/\x12.2.2.1=x12.2.2.1/\x0=x0/\x12.2.1=x12.2.1/\x12.2.2.2.1=x12.2.2.2.1/\x1.1=x15.2.1.1.1/\x1.2.1=x15.2.1.1.2.1/\x1.2.2=x15.2.1.1.2.2/\x2.1=x15.2.1.2.1.1/\x2.2.1=x15.2.1.2.1.2.1/\x2.2.2=x15.2.1.2.1.2.2/\x13.2.2.1=x14.2.1/\x13.2.2.2.1=x14.2.2.1/\x13.2.2.2.2.1=x14.2.2.2/\x17
 def j31:=zvq x13/\∃(i0:Nat×Nat×Int×Int×Int×GV),zvk x0 x1 x2 x12 i0 x14 x15 (z8o x6 (GV.n i0.2.2.2.2.2=GV.n x20/\GV.s i0.2.2.2.2.2=GV.s x20/\(GV.x i0.2.2.2.2.2).1=(GV.x x20).1/\(z32 i0).1=(GV.x x20).2.1/\(z32 i0).2=(GV.x x20).2.2/\(GV.y i0.2.2.2.2.2).1=(GV.y x20).1/\(z33 i0).1=(GV.y x20).2.1/\(z33 i0).2=(GV.y x20).2.2/\GV.b i0.2.2.2.2.2=GV.b x20/\(∀i1,((z2u x1 x2 x6 x7 x8 x10 x12 x13 i1)/\GV.ok x14.1 i1)/\GV.ok x20 i1->(z2g x1 x2 x6 x7 x8 x10 i1)/\GV.ok x12.2.2.2.2.2 i1)/\(∀i2,((z2u x1 x2 x6 x7 x8 x10 x12 x13 i2)/\GV.ok x14.1 i2)/\GV.ok x20 i2->GV.ok i0.2.2.2.2.2 i2)/\(zgb x0 x3 x4 x6 x7 x8 x11 x12 i0)/\toNat x12.2.1- i0.2.1<toNat x12.2.1- x13.2.1/\True)) x13
 def j30:=zvq x13/\∃(i0:Nat×Nat×Int×Int×Int×GV),zvk x0 x1 x2 x12 i0 x14 x15 (z8o x6 (GV.n i0.2.2.2.2.2=GV.n x13.2.2.2.2.2/\GV.s i0.2.2.2.2.2=GV.s x13.2.2.2.2.2/\(GV.x i0.2.2.2.2.2).1=(GV.x x13.2.2.2.2.2).1/\(z32 i0).1=(z32 x13).1/\(z32 i0).2=(z32 x13).2/\(GV.y i0.2.2.2.2.2).1=(GV.y x13.2.2.2.2.2).1/\(z33 i0).1=(z33 x13).1/\(z33 i0).2=(z33 x13).2/\GV.b i0.2.2.2.2.2=GV.b x13.2.2.2.2.2/\(∀i1,(z2u x1 x2 x6 x7 x8 x10 x12 x13 i1)/\GV.ok x14.1 i1->(z2g x1 x2 x6 x7 x8 x10 i1)/\GV.ok x12.2.2.2.2.2 i1)/\(∀i2,(z2u x1 x2 x6 x7 x8 x10 x12 x13 i2)/\GV.ok x14.1 i2->GV.ok i0.2.2.2.2.2 i2)/\(zgb x0 x3 x4 x6 x7 x8 x11 x12 i0)/\toNat x12.2.1- i0.2.1<toNat x12.2.1- x13.2.1/\True)) x13
 def jhn:=Ji (x14.2.2.2=0) (∃(i0:GV×ByteArray×GV),GV.n i0.1=GV.n x13.2.2.2.2.2/\GV.s i0.1=GV.s x13.2.2.2.2.2/\(GV.x i0.1).1=(GV.x x13.2.2.2.2.2).1/\(GV.x i0.1).2.1=(z32 x13).1/\(GV.x i0.1).2.2=(z32 x13).2/\(GV.y i0.1).1=(GV.y x13.2.2.2.2.2).1/\(GV.y i0.1).2.1=(z33 x13).1/\(GV.y i0.1).2.2=(z33 x13).2/\GV.b i0.1=GV.b x13.2.2.2.2.2/\i0.2.1=(z4k x11).1/\GV.n i0.2.2=GV.n x14.1/\GV.s i0.2.2=GV.s x14.1/\(GV.x i0.2.2).1=(GV.x x14.1).1/\(GV.x i0.2.2).2.1=(GV.x x14.1).2.1/\(GV.x i0.2.2).2.2=(GV.x x14.1).2.2/\(GV.y i0.2.2).1=(GV.y x14.1).1/\(GV.y i0.2.2).2.1=(GV.y x14.1).2.1/\(GV.y i0.2.2).2.2=(GV.y x14.1).2.2/\GV.b i0.2.2=GV.b x14.1/\(length (GV.ks i0.1)=length (GV.l i0.1)/\length (GV.l i0.1)<1000000)/\(∀i1,(z2u x1 x2 x6 x7 x8 x10 x12 x13 i1)/\GV.ok x14.1 i1->GV.ok i0.1 i1/\GV.ok i0.2.2 i1)/\∀(i2:GV),GV.pv i2=PV.mk (GV.n i0.1) (GV.s i0.1) (z2n i0.2.1 (GV.ks i0.1) (GV.pvs (GV.l i0.1)) (GV.pv i0.2.2)) (qb3 i0.2.1 (GV.ks i0.1)) (GV.b i0.1)->(∃i3,((z2u x1 x2 x6 x7 x8 x10 x12 x13 i3)/\GV.ok x14.1 i3)/\GV.ok i2 i3)->j31 x0 x1 x2 x3 x4 x6 x7 x8 x10 x16 x12 x13 x14 x15 i2) (j30 x0 x1 x2 x3 x4 x6 x7 x8 x10 x16 x12 x13 x14 x15)
 def zvn:=zvh x1 x2 x6 x7 x8 x9 x10 x12 x13 x15 (∀(i0:RvB),z0v (zvl x15) x15.2.1.2.2.1 x15.2.1.2.2.2.1 (x15.2.1.2.2.2.2.1+1) x15.2.1.2.2.2.2.2 i0->(∃i1,(z2u x1 x2 x6 x7 x8 x10 x12 x13 i1)/\GV.ok i0.1 i1)->jhn x0 x1 x2 x3 x4 x6 x7 x8 x10 x11 x12 x13 i0 x15 x16)
 def j32:=zlv x0/\∃(i0:RvS),i0.2.2.1=AT.it x6/\i0.2.2.2=x0+1/\i0.2.1.1.1=x11.1.1/\i0.2.1.1.2.1=x11.1.2.1/\i0.2.1.1.2.2=x11.1.2.2/\i0.2.1.2.1.1=x11.2.1.1/\i0.2.1.2.1.2.1=x11.2.1.2.1/\i0.2.1.2.1.2.2=x11.2.1.2.2/\i0.2.1.2.2.2.1=(z4k x11).2.1/\i0.2.1.2.2.2.2.1=x11.2.2.2.2.1/\i0.2.1.2.2.2.2.2=(z4k x11).2.2/\zvn x0 x1 x2 x3 x4 x6 x7 x8 x9 x10 x11 x12 x13 i0 x16
 abbrev jhm:=Ji (AT.k x6=12) (j2z x0 x1 x2 x6 x7 x8 x9 x10 x12 x13) (∃(i12:DcR),zvm x1 x2 i12 (i12.2.2.2.1=x13.2.2.1/\i12.2.2.2.2.1=x13.2.2.2.1/\i12.2.2.2.2.2=x13.2.2.2.2.1/\z0x i12.2.2.1 i12.2.2.2.1/\(∀i13,z2u x1 x2 x6 x7 x8 x10 x12 x13 i13->zlq i12 i13)/\(z4k i12).1=(z4k i12).1/\size (z4k i12).1<9223372036854775808/\((!vld (z4k i12).1)=true->∃(i14:(Option Addr×Nat×Nat)×(Option Addr×Nat×Nat)×Int×Int×Int×Int),zlr i12 (i14.2.2.1=(z4k i12).2.1/\i14.2.2.2.1=i12.2.2.2.2.1/\i14.2.2.2.2.1=(z4k i12).2.2/\True/\zlv x0/\∃(i15:RvS),i15.2.2.1=AT.it x6/\i15.2.2.2=x0+1/\i15.2.1.1.1=i14.1.1/\i15.2.1.1.2.1=i14.1.2.1/\i15.2.1.1.2.2=i14.1.2.2/\i15.2.1.2.1.1=i14.2.1.1/\i15.2.1.2.1.2.1=i14.2.1.2.1/\i15.2.1.2.1.2.2=i14.2.1.2.2/\i15.2.1.2.2.2.1=i14.2.2.1/\i15.2.1.2.2.2.2.1=i14.2.2.2.1/\(i15.2.1.2.2.2.2.2=if i14.2.2.2.2.1=0 then i14.2.2.2.2.2 else i14.2.2.2.2.1)/\zvn x0 x1 x2 x3 x4 x6 x7 x8 x9 x10 i12 x12 x13 i15 x11) i14)/\((!vld (z4k i12).1)=false->j32 x0 x1 x2 x3 x4 x6 x7 x8 x9 x10 i12 x12 x13 x11)))
 abbrev zvf:=z8o x6 (GV.n x10.2.2.2.2=GV.n x13.2.2.2.2.2/\GV.s x10.2.2.2.2=GV.s x13.2.2.2.2.2/\(GV.x x10.2.2.2.2).1=(GV.x x13.2.2.2.2.2).1/\(GV.x x10.2.2.2.2).2.1=(z32 x13).1/\(GV.x x10.2.2.2.2).2.2=(z32 x13).2/\(GV.y x10.2.2.2.2).1=(GV.y x13.2.2.2.2.2).1/\(GV.y x10.2.2.2.2).2.1=(z33 x13).1/\(GV.y x10.2.2.2.2).2.2=(z33 x13).2/\GV.b x10.2.2.2.2=GV.b x13.2.2.2.2.2/\(∀i0,z2u x1 x2 x6 x7 x8 x19 x12 x13 i0->z8p x1 x2 x6 x7 x8 i0)/\(∀i1,z2u x1 x2 x6 x7 x8 x19 x12 x13 i1->GV.ok x10.2.2.2.2 i1)/\(zlt x0 x3 x4 x6 x7 x8 x10)/\(((2:Nat)*toNat ((2001:Int)- x10.2.2.1)+if x10.2.2.2.1=0 then 1 else 0)<2*toNat ((2001:Int)- x19.2.2.1)+if x19.2.2.2.1=0 then 1 else 0)/\True)
 def zlu:=∃(i0:Nat×Int×Int×Int×GV),x0=x0/\z4j x1 (z4j x2 (i0.2.1=x13.2.2.1/\i0.2.2.1=x13.2.2.2.1/\i0.2.2.2.1=x13.2.2.2.2.1/\zvf x0 x1 x2 x3 x4 x6 x7 x8 i0 x12 x13 x10))
 def j33:=Jb (x13.2.2.1- x12.2.2.2.1)/\((!decide (x13.2.2.1- x12.2.2.2.1=x12.2.2.1))=true->∃(i0:Nat×Int×Int×Int×GV),x0=x0/\z4j x1 (z4j x2 (i0.2.1=x13.2.2.1/\i0.2.2.1=x13.2.2.2.1/\i0.2.2.2.1=2/\zvf x0 x1 x2 x3 x4 x6 x7 x8 i0 x12 x13 x10)))/\((!decide (x13.2.2.1- x12.2.2.2.1=x12.2.2.1))=false->zlu x0 x1 x2 x3 x4 x6 x7 x8 x10 x12 x13)
 def j2y:=Ji (0<=x12.2.2.1) (j33 x0 x1 x2 x3 x4 x6 x7 x8 x10 x12 x13) (zlu x0 x1 x2 x3 x4 x6 x7 x8 x10 x12 x13)
 def j7e:=Ji (x13.2.2.2.2.1=0) (j2y x0 x1 x2 x3 x4 x6 x7 x8 x10 x12 x13) (zlu x0 x1 x2 x3 x4 x6 x7 x8 x10 x12 x13)
 def jhl:=Ji (x13.2.2.2.2.1=0) (jhm x0 x1 x2 x3 x4 x6 x7 x8 x9 x10 x11 x12 x13) (j7e x0 x1 x2 x3 x4 x6 x7 x8 x10 x12 x13)
 def jhk:=Ji ((↑x13.2.1:Int)<x12.2.1) (jhl x0 x1 x2 x3 x4 x6 x7 x8 x9 x10 x11 x12 x13) (j7e x0 x1 x2 x3 x4 x6 x7 x8 x10 x12 x13)
 def jhj:=(∃(i0:Nat×Nat×Int×Int×Int×GV),(↑i0.2.1:Int)=0/\x12.2.2.1=x12.2.2.1/\x0=x0/\x12.2.1=x12.2.1/\x12.2.2.2.1=x12.2.2.2.1/\z4j x1 (z4j x2 (i0.2.2.1=x12.2.2.2.1/\i0.2.2.2.1=x11.2.2.2.2.1/\i0.2.2.2.2.1=x12.2.2.2.2.1/\z8o x6 (GV.n i0.2.2.2.2.2=GV.n x12.2.2.2.2.2/\GV.s i0.2.2.2.2.2=GV.s x12.2.2.2.2.2/\(GV.x i0.2.2.2.2.2).1=(GV.x x12.2.2.2.2.2).1/\(z32 i0).1=(GV.x x12.2.2.2.2.2).2.1/\(z32 i0).2=(GV.x x12.2.2.2.2.2).2.2/\(GV.y i0.2.2.2.2.2).1=(GV.y x12.2.2.2.2.2).1/\(z33 i0).1=(GV.y x12.2.2.2.2.2).2.1/\(z33 i0).2=(GV.y x12.2.2.2.2.2).2.2/\GV.b i0.2.2.2.2.2=GV.b x12.2.2.2.2.2/\(∀i1,(z2g x1 x2 x6 x7 x8 x10 i1)/\GV.ok x12.2.2.2.2.2 i1->(z2g x1 x2 x6 x7 x8 x10 i1)/\GV.ok x12.2.2.2.2.2 i1)/\(∀i2,(z2g x1 x2 x6 x7 x8 x10 i2)/\GV.ok x12.2.2.2.2.2 i2->GV.ok i0.2.2.2.2.2 i2)/\(zgb x0 x3 x4 x6 x7 x8 x11 x12 i0)/\True))))/\∀(i3:Nat×Nat×Int×Int×Int×GV),zgb x0 x3 x4 x6 x7 x8 x11 x12 i3->(∃i4,z2u x1 x2 x6 x7 x8 x10 x12 i3 i4)->jhk x0 x1 x2 x3 x4 x6 x7 x8 x9 x10 x11 x12 i3
 abbrev jhi:=(Ji ((z1o x11).1<0) (∃(i0:Int),i0=IntKind.wrap i64 ((0:Int)- (z1o x11).1)/\Ji (i0<0) (∃(i1:(Option Addr×Nat×Nat)×(Option Addr×Nat×Nat)×Int×Int×Int×Int),zlr x11 (zvp x11 (∃(i2:DcR),i2.1.1=i1.1.1/\i2.1.2.1=i1.1.2.1/\i2.1.2.2=i1.1.2.2/\i2.2.1.1=i1.2.1.1/\i2.2.1.2.1=i1.2.1.2.1/\i2.2.1.2.2=i1.2.1.2.2/\i2.2.2.2.1=i1.2.2.1/\i2.2.2.2.2.1=i1.2.2.2.1/\(i2.2.2.2.2.2=if i1.2.2.2.2.1=0 then i1.2.2.2.2.2 else i1.2.2.2.2.1)/\zvg x0 x1 x2 i0 x3 x4 x6 x7 x8 x10 i2 x11) i1) i1) (∃(i11:DcR),i11.1.1=x11.1.1/\i11.1.2.1=x11.1.2.1/\i11.1.2.2=x11.1.2.2/\i11.2.1.1=x11.2.1.1/\i11.2.1.2.1=x11.2.1.2.1/\i11.2.1.2.2=x11.2.1.2.2/\i11.2.2.2.1=(z1o x11).2.1/\i11.2.2.2.2.1=x11.2.2.2.2.1/\i11.2.2.2.2.2=(z1o x11).2.2/\zvg x0 x1 x2 i0 x3 x4 x6 x7 x8 x10 i11 x11)) (∃(i20:Nat×Int×Int×Int×Int×GV),i20.2.2.1= -1/\x0=x0/\i20.2.1=(z1o x11).1/\zls x1 x2 x11 (i20.2.2.2.1=(z1o x11).2.1/\x11.2.2.2.2.1=x11.2.2.2.2.1/\i20.2.2.2.2.1=(z1o x11).2.2/\zlp x0 x1 x2 x3 x4 x6 x7 x8 x10 x11 i20)))/\∀(i23:Nat×Int×Int×Int×Int×GV),zvo x0 x3 x4 x6 x7 x8 x11 i23->(∃i24,(z2g x1 x2 x6 x7 x8 x10 i24)/\GV.ok i23.2.2.2.2.2 i24)->jhj x0 x1 x2 x3 x4 x6 x7 x8 x9 x10 x11 i23
 def jhh:=Ji ((z1o x11).1=0) (zvi x0 x1 x2 x3 x4 x6 x7 x8 x10 x11) (jhi x0 x1 x2 x3 x4 x6 x7 x8 x9 x10 x11)
 def jhg:=Ji (x10.2.2.2.1=0) (∃(i0:DcR),zvm x1 x2 i0 (i0.2.2.2.1=x10.2.1/\i0.2.2.2.2.1=x10.2.2.1/\i0.2.2.2.2.2=x10.2.2.2.1/\z0x i0.2.2.1 i0.2.2.2.1/\(∀i1,z2g x1 x2 x6 x7 x8 x10 i1->zlq i0 i1)/\((!decide ((z1o i0).2.2=0))=true->zvi x0 x1 x2 x3 x4 x6 x7 x8 x10 i0)/\((!decide ((z1o i0).2.2=0))=false->jhh x0 x1 x2 x3 x4 x6 x7 x8 x9 x10 i0))) (∃(i103:RvB),zvj x10 i103 (z4j x1 (z4j x2 (i103.2.1=x10.2.1/\i103.2.2.1=x10.2.2.1/\i103.2.2.2=x10.2.2.2.1/\z0v (bvX (gvX x7 x8 x0) x8 x6 (toNat x3) (toNat x4)) x8 x3 x4 0 i103/\(∀i104,z2g x1 x2 x6 x7 x8 x10 i104->GV.ok i103.1 i104)/\True))))
 def jhf:=(∃(i0:Nat×Int×Int×Int×GV),x0=x0/\z4j x1 (z4j x2 (i0.2.1=x3/\i0.2.2.1=x4/\i0.2.2.2.1=x5/\z8o x6 (GV.n i0.2.2.2.2=0/\GV.s i0.2.2.2.2=mkS []/\(GV.x i0.2.2.2.2).1=noA/\(GV.x i0.2.2.2.2).2.1=0/\(GV.x i0.2.2.2.2).2.2=0/\(GV.y i0.2.2.2.2).1=noA/\(GV.y i0.2.2.2.2).2.1=0/\(GV.y i0.2.2.2.2).2.2=0/\GV.b i0.2.2.2.2=0/\(∀i1,z8p x1 x2 x6 x7 x8 i1->z8p x1 x2 x6 x7 x8 i1)/\(∀i2,z8p x1 x2 x6 x7 x8 i2->GV.ok i0.2.2.2.2 i2)/\(zlt x0 x3 x4 x6 x7 x8 i0)/\True))))/\∀(i3:Nat×Int×Int×Int×GV),zlt x0 x3 x4 x6 x7 x8 i3->(∃i4,z2g x1 x2 x6 x7 x8 i3 i4)->jhg x0 x1 x2 x3 x4 x6 x7 x8 x9 i3
end
def zdo(c:Nat) (S:List AT) (x y:SV) (D:ByteArray) (n all e:Int) (a:AT) (dp:Int):qm3 P (qh2 [(55,z34),(57,z43),(58,z6h),(59,z2h)]) (qi5 [(31,cRv.below z7q c),(24,znw)]) Go.Proofs.Tryz.f62 ((cRb j4v).below zgd (c+1)) (wRb false) ⟨S,⟨x,y,D,n,all,e⟩,a,dp⟩=(zgd (S,(x,y,D,n,all,e),a,dp)<c+1/\okS S/\a∈S/\j4v a/\z0x D n/\(0<=all/\all<=2000)/\e=0/\1<=dp/\dp<=20->(∃(p:Pub),z8p x y a S D p)->jhf dp x y n all e a S D c):=by kernel_rfl
def zic:=λc S x y D n all e a dp=>Eq.trans (zdo c S x y D n all e a dp) (by delta Ji Jb Jt Jf z8p z4j z8o zlt z2g zvm zlq z1o zvj zls zvi zlr zvp zvo zlp zvg z32 z33 zgb z2u zlv j34 zvh zvl zlo j2z z4k zvq zvk j31 j30 jhn zvn j32 jhm zvf zlu j33 j2y j7e jhl jhk jhj jhi jhh jhg jhf;exact rfl)
def Hd(p:Prop):Prop:=p
set_option maxHeartbeats 8000000 in
def zxg (c:Nat) (hv0:q22 P 31 (cRv.below z7q c)):q22 P 62 ((cRb j4v).below zgd (c+1)):=by
 refine qlb mixed (qee (qih z25 (qih z2o (qih z5p (qih z4c qlq))))) (qf7 (qig hv0 (qig z9k qlp))) (W:=wRb false) Go.Proofs.Tryz.func62 (by kernel_rfl) (show 1<=2 by decide) (show 2<=2 by decide) (λs=>by kernel_rfl) λ⟨S,⟨(x:SV),(y:SV),D,(n:Int),(all:Int),(e:Int)⟩,a,(dp:Int)⟩=>(zic c S x y D n all e a dp).mpr ?_
 rintro⟨hmu,hok,haS,hk,hd,⟨ha0,ha1⟩,he,hp1,hp2⟩ ⟨p,_,hx,hao,hyl,hy⟩
 subst he
 have hmu:(25- dp).toNat<c+1:=hmu
 have hk:a.k=13:=hk
 have hmp:decide (a.k=13)=true:=decide_eq_true hk
 have hit:=(hok.2.2 a haS).2.2.1 (.inr hk)
 simp only[sbS,exists_const,forall_const,Int.toNat_natCast,hk]
 refine⟨⟨⟨D.size+1- n.toNat,n,all,0,zV⟩,rfl,rfl,rfl,rfl,rfl,rfl,rfl,rfl,rfl,rfl,rfl,rfl,λq _=>z17 q,⟨rfl,rfl,rfl,rfl⟩,⟨⟨hd,Int.le_refl _⟩,⟨Int.le_refl _,by show all<=2001;omega⟩,λ_=>ha1,by show((0:Nat):Int)<=all;omega⟩,(by have:=hd.1;have:=hd.2.1;show(D.size:Int)<((D.size+1- n.toNat:Nat):Int)+n;omega), .inl ⟨rfl,rfl⟩⟩,?_⟩
 rintro⟨F,n1,all1,e1,u⟩ ⟨⟨u1,u2,u3,u4⟩,⟨⟨c1,c0⟩,⟨c2,c3⟩,c4,c5⟩,cF,cT⟩ ⟨p1,hp1',hfs⟩
 simp only at u1 u2 u3 u4 c0 c1 c2 c3 c4 c5 cF cT hfs⊢
 have c5:(u.l.length:Int)<=all1:=by rw[GV.pvs_len]at c5;exact c5
 have ret:∀(n' all' e':Int),z0x D n'->n<=n'->all<=all'->all'<=2001->(e'=0->all'<=2000)->thn (rbR S a dp D n all) e' (rbR S a dp D n all= .ok ((u.ks,GV.pvs u.l),n'.toNat,all'.toNat))->z0v (bvX (gvX S D dp) D a n.toNat all.toNat) D n all 0 (u,n',all',e'):=λn' all' e' h1 hn h2 h3 h4 h5=>zmk (u.ks,GV.pvs u.l) (by rw[GV.pv_eq,u1,u2,u3]) h1 h2 h3 h4 ha0 hn h5
 refine⟨λhz=> ?_,λhnz=> ?_⟩
 ·subst hz
  have hB:bkX (gvX S D dp a.it) D true F (u.ks,GV.pvs u.l) n1.toNat all1.toNat=rbR S a dp D n all:=by
   rcases cT with⟨_,q⟩|⟨k,q,_⟩
   ·rw[hmp]at q;exact q
   ·omega
  have c4':=c4 rfl
  have hh:=znm (show n1.toNat<=D.size by have:=c1.1;have:=c1.2.1;omega) (show D.size<F+n1.toNat by have:=c1.1;omega) hB
  have hl:=zhp c1
  refine⟨⟨x,y,D,n1,all1,0⟩,rfl,rfl,rfl,rfl,rfl,rfl,rfl,rfl,rfl,c1,λq hq=>hq.1.2.2,?_⟩
  simp only[z7p c1,true_and,and_true,eq_self]
  have hl2:=zhp hl.ok
  have hg2:=z7p hl.ok
  rw[Int.toNat_natCast]at hl2 hg2
  generalize lgR D n1.toNat=T at*
  obtain⟨v,er,n2⟩:=T
  simp only at hh hl hl2 hg2⊢
  obtain⟨l1,l0,l2,l3,l4,l5⟩:=hl
  obtain⟨m1,m0,m2,m3,m4,m5⟩:=hl2
  refine⟨λhe=> ?_,λhe=>⟨λhv=> ?_,λhv=>⟨⟨λhv0=> ?_,λhv0=> ?_⟩,?_⟩⟩⟩
  ·refine⟨⟨u,n2,all1,er⟩,rfl,rfl,rfl,rfl,rfl,rfl,rfl,rfl,rfl,rfl,rfl,rfl,ret n2 all1 er l1 (by omega) c2 c3 (λh=>absurd h he) (z1g (hh.1 (by omega)) (by omega)),λq hq=>hq.2⟩
  ·have he0:er=0:=by omega
   subst he0
   refine⟨⟨u,n2,all1,0⟩,rfl,rfl,rfl,rfl,rfl,rfl,rfl,rfl,rfl,rfl,rfl,rfl,ret n2 all1 0 l1 (by omega) c2 c3 (λ_=>c4') (z2i rfl (by rw[hh.2.1 rfl hv,Int.toNat_natCast])),λq hq=>hq.2⟩
  ·have er0:er=0:=by omega
   subst er0
   refine⟨_,rfl,λhneg=> ?_,λhnn=> ?_⟩
   ·have hvm:v= -9223372036854775808:=by
     by_cases h:v= -9223372036854775808
     ·exact h
     ·rw[z29 (by omega) l4]at hneg;omega
    subst hvm
    refine⟨⟨x,y,n2,all1,0,2⟩,rfl,rfl,rfl,rfl,rfl,rfl,rfl,rfl,rfl,rfl,⟨x,y,D,n2,all1,2⟩,rfl,rfl,rfl,rfl,rfl,rfl,rfl,rfl,rfl,l1,λq hq=>hq.1.2.2,?_⟩
    have hbad:lnF D n2 2=((0:Int),((n2:Nat):Int),(2:Int)):=by unfold lnF;rw[if_pos (by decide)]
    simp only[hbad,true_and,and_true,eq_self]
    refine⟨λh=>absurd h (by decide),λ_=>⟨⟨D.size+1,_,0,n2,2,u⟩,rfl,rfl,rfl,rfl,rfl,rfl,rfl,rfl,rfl,rfl,rfl,rfl,rfl,λq hq=>hq.2,⟨u1,u2,u3,u4⟩,⟨⟨⟨l1,by show n<=((n2:Nat):Int);omega⟩,⟨c2,c3⟩,λh=>absurd h (by show¬(2:Int)=0;decide),by show((GV.pvs u.l).length:Int)<=_;rw[GV.pvs_len];exact c5⟩,by show IntKind.wrap .i64 (0 - -9223372036854775808)<=_;rw[z3z];decide,by show(D.size:Int)<((D.size+1:Nat):Int)+n2;omega,z1g (hh.2.2.2.1 rfl rfl) rfl⟩⟩⟩
   ·have hvm:v≠ -9223372036854775808:=λh=>by subst h;rw[z3z]at hnn;exact hnn (by decide)
    have hh5:=hh.2.2.2.2 rfl hv0 hvm
    rw[z29 (by omega) l4]
    refine⟨⟨x,y,D,n2,all1,0⟩,rfl,rfl,rfl,rfl,rfl,rfl,rfl,rfl,rfl,l1,λq hq=>hq.1.2.2,?_⟩
    simp only[hg2,true_and,and_true,eq_self]
    have hm0:n<=(((lgR D n2).2.2:Nat):Int):=by omega
    generalize lgR D n2=U at*
    obtain⟨z,er2,n3⟩:=U
    simp only at hm0 hh5 m1 m2 m3 m4 m5⊢
    have cut:∀(F':Nat) (e2:Int),D.size<F'+n3->thn (rbR S a dp D n all) e2 (1<= -v/\(z47 (gvX S D dp a.it) D (decide (a.k=13)) (-v).toNat (u.ks,GV.pvs u.l) ((n3:Nat):Int).toNat all1.toNat).bind (rbK S a dp D F' n3 z)=rbR S a dp D n all)->rbH S a dp D n all F' (-v) z n3 all1 e2 (u.ks,GV.pvs u.l):=λF' e2 h1 h2=>⟨⟨⟨m1,hm0⟩,⟨c2,c3⟩,λ_=>c4',by show((GV.pvs u.l).length:Int)<=_;rw[GV.pvs_len];exact c5⟩,zx7 l3 hvm,zwm h1,h2⟩
    refine⟨λhz=>⟨⟨x,y,n3,all1,er2,2⟩,rfl,rfl,rfl,rfl,rfl,rfl,rfl,rfl,rfl,rfl,⟨D.size+1,_,_,n3,(if((er2:Nat):Int)=0 then 2 else((er2:Nat):Int)),u⟩,rfl,rfl,rfl,rfl,rfl,rfl,rfl,rfl,rfl,rfl,rfl,rfl,rfl,rfl,rfl,rfl,rfl,rfl,rfl,rfl,λq hq=>hq.2,⟨u1,u2,u3,u4⟩,?_⟩,λhz=> ?_⟩
    ·refine cut _ _ (by omega) ?_
     show thn _ (if((er2:Nat):Int)=0 then(2:Int)else((er2:Nat):Int)) _
     by_cases h:er2=0
     ·rw[h];exact z1g (hh5.2.1 h hz) rfl
     ·have h9:(if((er2:Nat):Int)=0 then(2:Int)else((er2:Nat):Int))=((er2:Nat):Int):=if_neg (λq=>h (Int.natCast_eq_zero.1 q))
      rw[h9];exact z1g (hh5.1 h) (zi8 h)
    ·by_cases h:er2=0
     ·obtain⟨F',f1,f2⟩:=hh5.2.2 h (by omega)
      refine⟨⟨F',_,_,n3,_,u⟩,rfl,rfl,rfl,rfl,rfl,rfl,rfl,rfl,rfl,rfl,rfl,rfl,rfl,λq hq=>hq.2,⟨u1,u2,u3,u4⟩,cut _ _ f1 (z2i (Int.natCast_eq_zero.2 h) ⟨by omega,?_⟩)⟩
      rw[hmp,Int.toNat_natCast,←f2]
      unfold rbK bkK
      rw[hmp,Int.toNat_natCast]
     ·exact⟨⟨D.size+1,_,_,n3,_,u⟩,rfl,rfl,rfl,rfl,rfl,rfl,rfl,rfl,rfl,rfl,rfl,rfl,rfl,λq hq=>hq.2,⟨u1,u2,u3,u4⟩,cut _ _ (by omega) (z1g (hh5.1 h) (zi8 h))⟩
  ·have er0:er=0:=by omega
   obtain⟨F',f1,f2⟩:=hh.2.2.1 er0 (by omega)
   refine⟨⟨F',_,_,n2,_,u⟩,rfl,rfl,rfl,rfl,rfl,rfl,rfl,rfl,rfl,rfl,rfl,rfl,rfl,λq hq=>hq.2,⟨u1,u2,u3,u4⟩,⟨⟨⟨l1,by show n<=((n2:Nat):Int);omega⟩,⟨c2,c3⟩,λ_=>c4',by show((GV.pvs u.l).length:Int)<=_;rw[GV.pvs_len];exact c5⟩,by show v<=_;omega,by show(D.size:Int)<F'+((n2:Nat):Int);omega,z2i he ⟨by show 1<=v;omega,?_⟩⟩⟩
   rw[hmp,Int.toNat_natCast,←f2]
   unfold rbK bkK
   rw[hmp,Int.toNat_natCast]
  clear hh hg2 m0 m1 m2 m3 m4 m5 l0 l1 l2 l3 l4 l5
  rintro⟨F2,cnt,sz,n3,e3,w⟩ ⟨⟨w1,w2,w3,w4⟩,⟨⟨d1,d0⟩,⟨d2,d3⟩,d4,d5⟩,dC,dF,dT⟩ ⟨p3,hp3,hgs⟩
  simp only at w1 w2 w3 w4 d0 d1 d2 d3 d4 d5 dC dF dT hgs⊢
  refine⟨⟨⟨F2,0,n3,all1,e3,w⟩,rfl,rfl,rfl,rfl,rfl,rfl,rfl,rfl,rfl,rfl,rfl,rfl,rfl,λq hq=>hq.2,⟨w1,w2,w3,w4⟩,⟨⟨.inl rfl,Int.le_refl _,λ_=>by show all1+((0:Nat):Int)<=all1;omega⟩,⟨⟨d1,d0⟩,⟨d2,d3⟩,d4,d5⟩,⟨d1.1,Int.le_refl _⟩,dF,?_⟩⟩,?_⟩
  ·rcases dT with⟨q1,q2,q3⟩|q
   ·refine .inl ⟨q1,q2,?_⟩
    show(z47 _ _ _ (cnt- ((0:Nat):Int)).toNat _ _ _).bind _=_
    rw[show(cnt- ((0:Nat):Int))=cnt by omega];exact q3
   ·exact .inr q
  rintro⟨F3,i,n4,all4,e4,v⟩ ⟨⟨v1,v2,v3,v4⟩,⟨e1,e2,e2'⟩,⟨⟨g1,g0⟩,⟨g2,g3⟩,g4,g5⟩,⟨e5,e6⟩,eF,eT⟩ ⟨p4,hp4,hus⟩
  simp only at v1 v2 v3 v4 e1 e2 e2' g0 g1 g2 g3 g4 g5 e5 e6 eF eT hus⊢
  have g5:(v.l.length:Int)<=all4:=by rw[GV.pvs_len]at g5;exact g5
  have nx:∀e':Int,(e'=0->all4<=2000)->(e'=0->all1<all4)->thn (rbR S a dp D n all) e' (bkX (gvX S D dp a.it) D (decide (a.k=13)) F3 (v.ks,GV.pvs v.l) n4.toNat all4.toNat=rbR S a dp D n all)->rbO S a dp D n all F3 n4 all4 e' (v.ks,GV.pvs v.l)/\(2*(2001- all4).toNat+if e'=0 then 1 else 0)<2*(2001- all1).toNat+if True then 1 else 0:=λe' h1 h2 h3=>by
   refine⟨⟨⟨⟨g1,g0⟩,⟨g2,g3⟩,h1,by show((GV.pvs v.l).length:Int)<=_;rw[GV.pvs_len];exact g5⟩,by omega,h3⟩,?_⟩
   rw[if_pos trivial]
   split
   ·rename_i h;have:=h2 h;have:=h1 h;omega
   ·omega
  have h64: -9223372036854775808<=n4- n3/\n4- n3<=9223372036854775807:=by have:=g1.1;have:=g1.2.1;have:=g1.2.2;have:=d1.1;omega
  have bad:e4≠0->_:=λhne=>nx e4 (λh=>absurd h hne) (λh=>absurd h hne) (by
   rcases eT with⟨q,_⟩|q
   ·exact absurd q hne
   ·exact .inr q)
  have good:¬(i:Int)<cnt->e4=0->all1<all4/\rbK S a dp D F3 n3 sz ((v.ks,GV.pvs v.l),n4.toNat,all4.toNat)=rbR S a dp D n all:=λh h0=>by
   rcases eT with⟨_,q2,q3⟩|⟨k,q,_⟩
   ·rw[show(cnt- (i:Int)).toNat=0 by omega,z47,z0j]at q3
    exact⟨by have:=e2' h0;omega,q3⟩
   ·omega
  have bke:bkE n3.toNat sz n4.toNat=true↔0<=sz/\n4- n3≠sz:=by
   unfold bkE
   have:=g1.1;have:=d1.1
   rw[Bool.and_eq_true,decide_eq_true_eq,decide_eq_true_eq,Int.toNat_of_nonneg (by omega),Int.toNat_of_nonneg (by omega)]
  have nu:∀{p q:Prop},p/\q->(uK v/\p)/\q:=λh=>⟨⟨⟨v1,v2,v3,v4⟩,h.1⟩,h.2⟩
  refine⟨λhlt=>⟨λh0=> ?_,λhne=>⟨λh=>absurd h hne,λ_=>⟨⟨F3,n4,all4,e4,v⟩,rfl,rfl,rfl,rfl,rfl,rfl,rfl,rfl,rfl,rfl,rfl,rfl,λq hq=>hq.1.1.1,λq hq=>hq.2,nu (bad hne)⟩⟩⟩,λhge=>⟨λh0=>⟨λhs=>⟨h64,λhn=>⟨⟨F3,n4,all4,2,v⟩,rfl,rfl,rfl,rfl,rfl,rfl,rfl,rfl,rfl,rfl,rfl,rfl,λq hq=>hq.1.1.1,λq hq=>hq.2,?_⟩,λhn=>⟨⟨F3,n4,all4,e4,v⟩,rfl,rfl,rfl,rfl,rfl,rfl,rfl,rfl,rfl,rfl,rfl,rfl,λq hq=>hq.1.1.1,λq hq=>hq.2,?_⟩⟩,λhs=>⟨⟨F3,n4,all4,e4,v⟩,rfl,rfl,rfl,rfl,rfl,rfl,rfl,rfl,rfl,rfl,rfl,rfl,λq hq=>hq.1.1.1,λq hq=>hq.2,?_⟩⟩,λhne=>⟨⟨F3,n4,all4,e4,v⟩,rfl,rfl,rfl,rfl,rfl,rfl,rfl,rfl,rfl,rfl,rfl,rfl,λq hq=>hq.1.1.1,λq hq=>hq.2,nu (bad hne)⟩⟩⟩
  ·subst h0
   obtain⟨q2,q3⟩:1<=cnt/\(z47 (gvX S D dp a.it) D true (cnt- (i:Int)).toNat (v.ks,GV.pvs v.l) n4.toNat all4.toNat).bind (rbK S a dp D F3 n3 sz)=rbR S a dp D n all:=by
    rcases eT with⟨_,q2,q3⟩|⟨k,q,_⟩
    ·rw[hmp]at q3;exact⟨q2,q3⟩
    ·omega
   rw[zcx (by omega)]at q3
   unfold itX at q3
   rw[if_pos rfl,zij]at q3
   have g4':=g4 rfl
   have e2'':=e2' rfl
   have hk1:(cnt- (i:Int)).toNat- 1=(cnt- ((i+1:Nat):Int)).toNat:=by omega
   have ht:=z27 (D:=D) (i:=n4.toNat) (by have:=g1.1;have:=g1.2.1;omega)
   have hn4:=g1.1
   refine⟨λh=>absurd h (by decide),λ_=>⟨⟨x,y,D,n4,all4,0⟩,rfl,rfl,rfl,rfl,rfl,rfl,rfl,rfl,rfl,g1,λq hq=>hq.1.1.1.2.2,?_⟩⟩
   simp only[zxx g1]
   unfold vlX rsT vlE at q3
   generalize txP D n4.toNat=T at ht q3⊢
   obtain⟨k,er,m⟩:=T
   simp only at ht q3⊢
   have hdm:z0x D m:=⟨by omega,by omega,g1.2.2⟩
   have err:∀(n' all' e':Int),z0x D n'->n4<=n'->(all4<=all'/\all'<=2001)->e'≠0->Hd (∃j:Nat,e'=j+1/\rbR S a dp D n all= .no j)->rbN S a dp D n all F3 all1 cnt sz n3 (i+1) n' all' e' (v.ks,GV.pvs v.l):=λn' all' e' z1 z2 z3 z4 z5=>⟨⟨.inr (by omega),by omega,λh=>absurd h z4⟩,⟨⟨z1,by omega⟩,⟨by omega,by omega⟩,λh=>absurd h z4,by show((GV.pvs v.l).length:Int)<=_;rw[GV.pvs_len];omega⟩,⟨e5,by omega⟩,by omega, .inr z5⟩
   generalize hE:(if er=0/\vld k=false then(2:Int)else er)=E at q3
   have bd:Hd (er≠0\/vld k=false->∃j:Nat,(if er=0 then(2:Int)else er)=j+1/\rbR S a dp D n all= .no j):=λh=>by
    have h2:E=if er=0 then(2:Int)else er:=by
     rw[←hE]
     by_cases h1:er=0
     ·rw[if_pos ⟨h1,h.resolve_left (λq=>q h1)⟩,if_pos h1]
     ·rw[if_neg (λq=>h1 q.1),if_neg h1]
    have h3:1<=E:=by rw[h2];split<;>omega
    rw[if_neg (show¬E=0 by omega),z11]at q3
    exact⟨(E- 1).toNat,by rw[←h2];omega,q3.symm⟩
   have hEg:Hd (er=0->vld k=true->E=0):=λher hv=>by rw[←hE,if_neg (by rw[hv];simp),her]
   clear hE eT
   have e0:0<=if er=0 then(2:Int)else er:=by split<;>omega
   have hmu2:z7q (S,(x,y,D,m,all4,er),a.it,dp+1)<c:=by show(25- (dp+1)).toNat<c;omega
   have h22: -9223372036854775808<=dp+1/\dp+1<=9223372036854775807:=by omega
   have h21:1<=dp+1/\dp+1<=21:=by omega
   have h44:0<=all4/\all4<=2000:=by omega
   refine⟨by omega,λhv=> ?_,λhv=> ?_⟩
   ·refine⟨⟨x,y,m,all4,er,2⟩,rfl,rfl,rfl,rfl,rfl,rfl,rfl,rfl,rfl,rfl,h22,⟨S,⟨x,y,D,m,all4,(if er=0 then 2 else er)⟩,a.it,dp+1⟩,rfl,rfl,rfl,rfl,rfl,rfl,rfl,rfl,rfl,rfl,rfl,⟨hmu2,hok,hdm,h44,e0,hit,h21⟩,λq hq=>⟨hq.1.1.1.1,hq.1.1.1.2.2⟩,?_⟩
    rintro⟨r,n',all',e'⟩ ⟨h1,h2,h3,h4,h6⟩ _
    have hne:(if er=0 then(2:Int)else er)≠0:=by split<;>omega
    rw[if_neg hne]at h1
    have h1:e'=if er=0 then(2:Int)else er:=h1
    have h6:m<=n':=h6
    have h3:all4+1<=all'/\all'<=2001:=h3
    refine⟨λh=>absurd (h1.symm.trans h) hne,λh=>⟨⟨by omega,by omega⟩,⟨F3,i+1,n',all',e',v⟩,by show((i+1:Nat):Int)=_;omega,?_⟩⟩
    simp only[true_and,and_true,eq_self]
    refine⟨λq hq=>hq.1.1,λq hq=>hq.1.2,⟨⟨v1,v2,v3,v4⟩,err n' all' e' h2 (by omega) ⟨by omega,by omega⟩ h (by rw[h1];exact(show _->_ from bd) (.inr hv))⟩,by omega⟩
   ·refine⟨h22,⟨S,⟨x,y,D,m,all4,er⟩,a.it,dp+1⟩,rfl,rfl,rfl,rfl,rfl,rfl,rfl,rfl,rfl,rfl,rfl,⟨hmu2,hok,hdm,h44,by show 0<=er;omega,hit,h21⟩,λq hq=>⟨hq.1.1.1.1,hq.1.1.1.2.2⟩,?_⟩
    rintro⟨r,n',all',e'⟩ ⟨h1,h2,h3,h4,h6⟩ _
    have h6:m<=n':=h6
    have h3:all4+1<=all'/\all'<=2001:=h3
    by_cases her:er=0
    ·rw[if_pos her]at h1
     have hE0:E=0:=(show _->_->_ from hEg) her hv
     rw[if_pos hE0,z0j]at q3
     rw[show(21- (dp+1)).toNat=(20- dp).toNat by omega]at h1
     simp only[zij]at q3
     have hag:=z57 h1 q3
     simp only[z0j]at hag
     rw[hk1]at hag
     refine⟨λh=>⟨⟨v,k,r⟩,rfl,rfl,rfl,rfl,rfl,rfl,rfl,rfl,rfl,rfl,rfl,rfl,rfl,rfl,rfl,rfl,rfl,rfl,rfl,⟨v4,by show v.l.length<_;omega⟩,λq hq=>⟨hq.1.2,hq.2⟩,?_⟩,λh=>⟨⟨by omega,by omega⟩,⟨F3,i+1,n',all',e',v⟩,by show((i+1:Nat):Int)=_;omega,?_⟩⟩
     ·intro b hb2 _
      have hb2:b.pv=PV.mk v.n v.s (z2n k v.ks (GV.pvs v.l) r.pv) (qb3 k v.ks) v.b:=hb2
      rw[GV.pv_eq]at hb2
      injection hb2 with b1 b2 b3 b4 b5
      have hpl:=zdj k v.ks (GV.pvs v.l) r.pv (by rw[GV.pvs_len];exact v4)
      rw[←b3,←b4,GV.pvs_len,GV.pvs_len]at hpl
      refine⟨⟨by omega,by omega⟩,⟨F3,i+1,n',all',e',b⟩,by show((i+1:Nat):Int)=_;omega,?_⟩
      simp only[true_and,and_true,eq_self]
      refine⟨λq hq=>hq.1.1.1,λq hq=>hq.2,⟨⟨b1.trans v1,b2.trans v2,b5.trans v3,hpl.1⟩,⟨.inr (by omega),by omega,λ_=>by omega⟩,⟨⟨h2,by omega⟩,⟨by omega,by omega⟩,h4,by show((GV.pvs b.l).length:Int)<=_;rw[GV.pvs_len];omega⟩,⟨e5,by omega⟩,by omega,?_⟩,by omega⟩
      rw[hmp,b3,b4]
      rcases hag with⟨w1,w2⟩|w
      ·exact .inl ⟨w1,q2,w2⟩
      ·exact .inr w
     ·simp only[true_and,and_true,eq_self]
      refine⟨λq hq=>hq.1.1,λq hq=>hq.1.2,⟨⟨v1,v2,v3,v4⟩,err n' all' e' h2 (by omega) ⟨by omega,by omega⟩ h ?_⟩,by omega⟩
      rcases hag with⟨w1,_⟩|w
      ·exact absurd w1 h
      ·exact w
    ·rw[if_neg her]at h1
     have h1:e'=er:=h1
     refine⟨λh=>absurd (h1.symm.trans h) her,λh=>⟨⟨by omega,by omega⟩,⟨F3,i+1,n',all',e',v⟩,by show((i+1:Nat):Int)=_;omega,?_⟩⟩
     simp only[true_and,and_true,eq_self]
     have:=(show _->_ from bd) (.inl her)
     rw[if_neg her]at this
     exact⟨λq hq=>hq.1.1,λq hq=>hq.1.2,⟨⟨v1,v2,v3,v4⟩,err n' all' e' h2 (by omega) ⟨by omega,by omega⟩ h (by rw[h1];exact this)⟩,by omega⟩
  ·obtain⟨z1,z2⟩:=good hge h0
   unfold rbK at z2
   rw[if_pos (bke.2 ⟨hs,hn⟩)]at z2
   exact nu<|nx 2 (λh=>absurd h (by decide)) (λh=>absurd h (by decide)) (z1g z2.symm rfl)
  ·obtain⟨z1,z2⟩:=good hge h0
   unfold rbK at z2
   rw[if_neg (λh=>(bke.1 h).2 hn)]at z2
   exact nu<|nx e4 g4 (λ_=>z1) (z2i h0 z2)
  ·obtain⟨z1,z2⟩:=good hge h0
   unfold rbK at z2
   rw[if_neg (λh=>hs (bke.1 h).1)]at z2
   exact nu<|nx e4 g4 (λ_=>z1) (z2i h0 z2)
 ·exact⟨⟨u,n1,all1,e1⟩,rfl,rfl,rfl,rfl,rfl,rfl,rfl,rfl,rfl,rfl,rfl,rfl,ret n1 all1 e1 c1 c0 c2 c3 c4 (by
   rcases cT with⟨q,_⟩|⟨k,q1,q2⟩
   ·exact absurd q hnz
   ·exact z1g q2 q1),λq hq=>hq.2⟩
def zxh(c:Nat) (hv:q22 P 31 (cRv.below z7q c)):q22 P 62 ((cRb kdP).below zgd (c+1)):=by
 have hA:=zxf c hv
 have hM:=zxg c hv
 refine⟨hA.1,hA.2.1,hA.2.2.1,λs=> ?_⟩
 obtain⟨h0,e0,rA⟩:=hA.2.2.2 s
 obtain⟨h1,e1,rM⟩:=hM.2.2.2 s
 have e:h1=h0:=Option.some.inj (e1.symm.trans e0)
 subst e
 refine⟨h1,e0,λF I w vs a1 a2 a3 a4 hp a5 a6 a7=> ?_⟩
 obtain⟨m,p1,p2,p3,p4⟩:=hp
 rcases p3 with h|h
 ·exact rA F I w vs a1 a2 a3 a4 ⟨m,p1,p2,h,p4⟩ a5 a6 a7
 ·exact rM F I w vs a1 a2 a3 a4 ⟨m,p1,p2,h,p4⟩ a5 a6 a7
def zds:∀c,q22 P 31 (cRv.below z7q c)
 |0=>CtR.below_zero (by decide) (by decide) (Sen.enters_of Go.Proofs.Tryz.func31 (by kernel_rfl)) λs=>rfl
 |c+1=>zxj c (zds c) (zxh c (zds c))
def zxk:q22 P 31 cRv:=CtR.of_below zds
def agT(R:RdT) (v:PV) (n e:Int):Prop:=match R with
 | .no k=>e=k+1/\n=0/\v=zV.pv
 | .ok r=>e=0/\v=r.1/\n=r.2.1
abbrev DdS:=List AT×SV×Int×SV×ByteArray
abbrev DdB:=GV×Int×Int
def z1j(S:List AT) (t:Int) (D:ByteArray) (b:DdB):Prop:=(0<=t/\t<S.length->agT (dvX S D 20 t 0 0) b.1.pv b.2.1 b.2.2)/\(¬(0<=t/\t<S.length)->b.2.2=1/\b.2.1=0/\b.1.pv=zV.pv)/\0<=b.2.1/\b.2.1<=D.size
def znr:CtR where
 σ:=DdS
 args:=λ⟨S,x,t,y,D⟩=>[scA x, .sv (.int .i64 t),svA y]
 h:=λ_=>[]
 m:=1
 pre:=λ⟨S,x,t,y,D⟩=>okS S/\D.size<1000000000000
 mem:=λ⟨S,x,t,y,D⟩=>rvM S x y D
 β:=λ_=>DdB
 post:=λ⟨S,x,t,y,D⟩ b=>z1j S t D b
 pm:=λ_ ⟨r,n',e'⟩=>vM r
 r:=λ_ ⟨r,n',e'⟩=> .tup [r.av, .sv (.int .i64 n'), .sv (.int .i64 e')]
 h':=λ_ _=>[]
 m':=1
def za0:∀c,q22 P 27 (z44.below zar c)
 |0=>CtR.below_zero (by decide) (by decide) (Sen.enters_of Go.Proofs.Tryz.func27 (by kernel_rfl)) λs=>rfl
 |c+1=>zq1 c (zie c (za0 c)) (zno c (zhh c (za0 c)) j4t) (zpz c (za0 c))
def zy2:q22 P 27 z44:=CtR.of_below za0
def zgn:CtR where
 σ:=DdS
 args:=λ⟨S,x,t,y,D⟩=>[scA x, .sv (.int .i64 t),svA y]
 h:=λ_=>[]
 m:=1
 pre:=λ⟨S,x,t,y,D⟩=>okS S/\D.size<100000
 mem:=λ⟨S,x,t,y,D⟩=>rvM S x y D
 β:=λ_=>DdB
 post:=λ⟨S,x,t,y,D⟩ b=>z1j S t D b
 pm:=λ_ ⟨r,n',e'⟩=>vM r
 r:=λ_ ⟨r,n',e'⟩=> .tup [r.av, .sv (.int .i64 n'), .sv (.int .i64 e')]
 h':=λ_ _=>[]
 m':=1
section
variable (x0:VpB) (x1:List AT) (x2:Int) (x3:ByteArray) (x4 x5:SV) (x6:Nat->Option Obj)
 def zvr:=True/\z09 x1 x4 x6/\x5.2.1=size x3/\qil x6 x5.1 x5.2.1 x5.2.2 (q1h x3)
 def jhp:=AV.sv (int i64 x0.2.2.1)=AV.sv (int i64 x0.2.2.1)/\∃(i0:DdB),GV.n i0.1=GV.n x0.1/\GV.s i0.1=GV.s x0.1/\(GV.x i0.1).1=(GV.x x0.1).1/\(GV.x i0.1).2.1=(GV.x x0.1).2.1/\(GV.x i0.1).2.2=(GV.x x0.1).2.2/\(GV.y i0.1).1=(GV.y x0.1).1/\(GV.y i0.1).2.1=(GV.y x0.1).2.1/\(GV.y i0.1).2.2=(GV.y x0.1).2.2/\GV.b i0.1=GV.b x0.1/\i0.2.1=x0.2.2.1/\i0.2.2=0/\z1j x1 x2 x3 i0/\(∀i1,(zvr x1 x3 x4 x5 i1)/\GV.ok x0.1 i1->GV.ok i0.1 i1)/\True
 def jho:=((!decide (x0.2.1=0))=true->∃(i0:DdB),GV.n i0.1=0/\GV.s i0.1=mkS []/\(GV.x i0.1).1=noA/\(GV.x i0.1).2.1=0/\(GV.x i0.1).2.2=0/\(GV.y i0.1).1=noA/\(GV.y i0.1).2.1=0/\(GV.y i0.1).2.2=0/\GV.b i0.1=0/\i0.2.1=0/\i0.2.2=x0.2.1/\z1j x1 x2 x3 i0/\(∀i1,(zvr x1 x3 x4 x5 i1)/\GV.ok x0.1 i1->GV.ok i0.1 i1)/\True)/\((!decide (x0.2.1=0))=false->jhp x0 x1 x2 x3 x4 x5)
end
def zgq(S:List AT) (x:SV) (t:Int) (y:SV) (D:ByteArray):qm3 P (qh2 []) (qi5 [(27,z44)]) Go.Proofs.Tryz.f13 zgn (λ_=>{}) ⟨S,x,t,y,D⟩=(okS S/\size D<100000->(∃(p:Pub),zvr S D x y p)->∃(s:ByteArray),size s=y.2.1/\(∀(p:Pub),zvr S D x y p->qik p y.1 (q1h s))/\∃(s_1:VpS),s_1.2.2.1=t/\s_1.2.2.2=1/\s_1.2.1.1.1=x.1/\s_1.2.1.1.2.1=x.2.1/\s_1.2.1.1.2.2=x.2.2/\s_1.2.1.2.1=s/\s_1.2.1.2.2.1=0/\s_1.2.1.2.2.2=0/\(okS s_1.1/\z0g (s_1.2.1.1,s_1.2.1.2.1,s_1.2.1.2.2.1,s_1.2.1.2.2.2)/\(0<=s_1.2.1.2.2.2/\s_1.2.1.2.2.2<=2000)/\1<=s_1.2.2.2/\s_1.2.2.2<=21)/\(∀(p:Pub),zvr S D x y p->z09 s_1.1 s_1.2.1.1 p)/\∀(b:VpB),z22 s_1.1 (dvX s_1.1 s_1.2.1.2.1 (toNat ((21:Int)- s_1.2.2.2)) s_1.2.2.1 (toNat s_1.2.1.2.2.1) (toNat s_1.2.1.2.2.2)) s_1.2.1.2.1 s_1.2.1.2.2.1 s_1.2.1.2.2.2 s_1.2.2.1 b->(∃(p:Pub),(zvr S D x y p)/\GV.ok b.1 p)->jho b S t D x y):=by kernel_rfl
def zo1:=λS x t y D=>Eq.trans (zgq S x t y D) (by delta zvr jhp jho;exact rfl)
def zcd:q22 P 13 zgn:=by
 refine qlb mixed (qee qlq) (qf7 (qig zy2 qlp)) (W:=λ_=>{}) Go.Proofs.Tryz.func13 (by kernel_rfl) (show 1<=1 by decide) (show 1<=1 by decide) (λs=>by kernel_rfl) λ⟨S,(x:SV),(t:Int),(y:SV),D⟩=>(zo1 S x t y D).mpr ?_
 rintro⟨hok,hD⟩ ⟨p,_,hx,hyl,hy⟩
 have xs:x.2.1=S.length:=hx.1.1
 refine⟨D,hyl.symm,λq hq=>hq.2.2.2.2,⟨S,⟨x,D,0,0⟩,t,1⟩,rfl,rfl,rfl,rfl,rfl,rfl,rfl,rfl,⟨hok,⟨Int.le_refl _,by show(0:Int)<=D.size;omega,hD⟩,⟨by show(0:Int)<=0;decide,by show(0:Int)<=2000;decide⟩,by show(1:Int)<=1;decide,by show(1:Int)<=21;decide⟩,λq hq=>hq.2.1,?_⟩
 rintro⟨r,e',n',c'⟩ ⟨h1,h2,⟨h3,h4⟩,h5,h6⟩ _
 have h1:inT S t->agD (dvX S D 20 t 0 0) r.pv n' c' e'/\(0:Int)+1<=c':=h1
 have h2:¬inT S t->e'=1:=h2
 have h3:(0:Int)<=n':=h3
 have h4:n'<=D.size:=h4
 simp only[sbS,exists_const,forall_const,Int.toNat_natCast,Bool.and_eq_false_iff,Bool.and_eq_true]
 refine⟨λhne=>⟨⟨zV,0,e'⟩,rfl,rfl,rfl,rfl,rfl,rfl,rfl,rfl,rfl,rfl,rfl,⟨λhin=> ?_,λh=>⟨h2 h,rfl,rfl⟩,Int.le_refl _,by show(0:Int)<=D.size;omega⟩,λq _=>z17 q⟩,λhe=>⟨⟨r,n',0⟩,rfl,rfl,rfl,rfl,rfl,rfl,rfl,rfl,rfl,rfl,rfl,⟨λhin=> ?_,λh=> ?_,h3,h4⟩,λq hq=>hq.2⟩⟩
 ·show agT (dvX S D 20 t 0 0) zV.pv 0 e'
  have h1:=(h1 hin).1
  cases hR:dvX S D 20 t 0 0 with
  |no k=>rw[hR]at h1;exact⟨h1,rfl,rfl⟩
  |ok w=>rw[hR]at h1;exact absurd h1.1 hne
 ·show agT (dvX S D 20 t 0 0) r.pv n' 0
  have h1:=(h1 hin).1
  cases hR:dvX S D 20 t 0 0 with
  |no k=>rw[hR]at h1;have h1:e'=k+1:=h1;have he:e'=0:=he;omega
  |ok w=>rw[hR]at h1;exact⟨rfl,h1.2.1,h1.2.2.1⟩
 ·have:=h2 h
  have he:e'=0:=he
  omega
section
def z0s{α β:Type} {r:Rs α} {f:α->Rs β} {b:β} (h:r.bind f= .ok b):∃a,r= .ok a/\f a= .ok b:=by
 cases r with
 |no k=>cases h
 |ok a=>exact⟨a,rfl,h⟩
variable {s:ByteArray}
def z1c{n:Int} (hn:0<=n/\n<18446744073709551616) (hs:s.size<9223372036854775808):(PV.mk n s [] [] 0).sm:=by
 unfold PV.sm PV.sms
 exact⟨hn,hs,by decide,by decide,λk h=>by simp at h,trivial⟩
variable {D:ByteArray} {i:Nat}
def z40{k:Int}:(btP D i k).1.size<=D.size/\((btP D i k).1.size<=k.toNat):=by
 unfold btP
 split
 ·exact⟨Nat.zero_le _,Nat.zero_le _⟩
 ·show(D.extract i (i+k.toNat)).size<=_/\(D.extract i (i+k.toNat)).size<=_
  rw[ByteArray.size_extract];omega
def z7u:(txP D i).1.size<=D.size:=by
 unfold txP
 split
 ·exact Nat.zero_le _
 split
 ·exact Nat.zero_le _
 ·exact z40.1
def z2l{t:ByteArray×Int×Int} {e:Int} {r:ByteArray×Nat} (h:rsT t e= .ok r):r.1=t.1/\e=0/\r.2=t.2.2.toNat:=by
 unfold rsT at h
 split at h
 ·cases h;exact⟨rfl,by assumption,rfl⟩
 ·cases h
def lo8(h:s.size<=8):0<=loS s/\loS s<18446744073709551616:=by
 unfold loS
 have h1:=z9e s.data.toList
 have h2:s.data.toList.length<=8:=h
 have h3:256 ^ s.data.toList.length<=256 ^ 8:=Nat.pow_le_pow_right (by decide) h2
 have h4:256 ^ 8=18446744073709551616:=by decide
 omega
def j4y{a:AT} {r:PV×Nat} (ha:a.sys.length<1000000) (hD:D.size<100000) (h:lfX a D i= .ok r):r.1.sm:=by
 have hz:(mkS []).size<9223372036854775808:=by decide
 unfold lfX at h
 split at h
 ·cases h;exact z1c (by decide) hz
 split at h
 ·obtain⟨t,h1,h2⟩:=z0s h
  obtain⟨e1,_,_⟩:=z2l h1
  split at h2
  ·cases h2
  ·cases h2
   rw[e1]
   exact z1c (lo8 (Nat.le_trans z40.2 (by decide))) hz
 split at h
 ·obtain⟨t,h1,h2⟩:=z0s h
  split at h2
  ·cases h2
  ·cases h2;exact z1c (by omega) hz
 split at h
 ·obtain⟨t,h1,h2⟩:=z0s h
  cases h2;exact z1c (by omega) hz
 split at h
 ·obtain⟨t,h1,h2⟩:=z0s h
  obtain⟨e1,_,_⟩:=z2l h1
  cases h2
  rw[e1]
  exact z1c (lo8 (Nat.le_trans z40.2 (by decide))) hz
 split at h
 ·obtain⟨t,h1,h2⟩:=z0s h
  obtain⟨e1,_,_⟩:=z2l h1
  cases h2
  rw[e1]
  exact z1c (lo8 (Nat.le_trans z40.2 (by decide))) hz
 split at h
 ·obtain⟨t,h1,h2⟩:=z0s h
  obtain⟨e1,_,_⟩:=z2l h1
  cases h2
  have:=z7u (D:=D) (i:=i)
  exact z1c (by decide) (by rw[e1];omega)
 split at h
 ·obtain⟨t,h1,h2⟩:=z0s h
  obtain⟨e1,_,_⟩:=z2l h1
  cases h2
  have:=z7u (D:=D) (i:=i)
  exact z1c (by decide) (by rw[e1];omega)
 split at h
 ·obtain⟨t,h1,h2⟩:=z0s h
  unfold ixX at h1
  split at h1
  ·rename_i hc
   cases h1;cases h2
   unfold chE at hc
   split at hc
   ·cases hc
   ·rename_i hc2
    exact z1c (by show 0<=(lgR D i).1/\(lgR D i).1<_;omega) hz
  ·cases h1
 split at h
 ·obtain⟨t,h1,h2⟩:=z0s h
  obtain⟨e1,_,_⟩:=z2l h1
  cases h2
  have:=z40 (D:=D) (i:=i) (k:=a.sz)
  exact z1c (by decide) (by rw[e1];omega)
 ·cases h
def okG(r:PV×Nat×Nat) (c:Nat):Prop:=r.1.sm/\c<r.2.2/\r.2.2<=2000
def zmn{g:Int->Nat->Nat->RdT} (hg:∀t n c r,g t n c= .ok r->okG r c):∀(ts:List Int) (l:List PV) (n c:Nat) (r:List PV×Nat×Nat),z6c g ts l n c= .ok r->c<=2000->l.length<=c->(∀v∈l,v.sm)->r.1.length<=r.2.2/\(∀v∈r.1,v.sm)/\c<=r.2.2/\r.2.2<=2000
  | [],l,n,c,r,h,hc,hl,hv=>by cases h;exact⟨hl,hv,Nat.le_refl _,hc⟩
  | t ::ts,l,n,c,r,h,hc,hl,hv=>by
    obtain⟨q,h1,h2⟩:=z0s h
    obtain⟨g1,g2,g3⟩:=hg _ _ _ _ h1
    obtain⟨i1,i2,i3,i4⟩:=zmn hg ts _ _ _ _ h2 g3 (by simp;omega) λv hv'=>by
      rcases List.mem_append.1 hv' with w|w
      · exact hv v w
      · simp at w;subst w;exact g1
    exact⟨i1,i2,by omega,i4⟩
def okI(st:StI) (c:Nat):Prop:=st.1.length<=c/\st.2.length<=c/\(∀v∈st.2,v.sm)/\∀k∈st.1,k.size<9223372036854775808
def zp8(k:ByteArray) (ks:List ByteArray):(qb3 k ks).length<=ks.length+1:=by
 unfold qb3
 split
 ·omega
 ·simp;omega
def zp9(k:ByteArray) (ks:List ByteArray) (l:List PV) (w:PV):(z2n k ks l w).length<=l.length+1:=by
 unfold z2n
 split
 ·simp
 ·simp;omega
def j4r{g:Nat->Nat->RdT} {mp:Bool} (hD:D.size<100000) (hg:∀n c r,g n c= .ok r->okG r c) {st:StI} {n c:Nat} {r:StI×Nat×Nat} (h:itX g D mp st n c= .ok r) (hc:okI st c):okI r.1 r.2.2/\c<r.2.2/\r.2.2<=2000:=by
 obtain⟨k1,k2,k3,k4⟩:=hc
 unfold itX at h
 split at h
 ·obtain⟨k,h1,h⟩:=z0s h
  obtain⟨q,h2,h⟩:=z0s h
  cases h
  obtain⟨g1,g2,g3⟩:=hg _ _ _ h2
  obtain⟨e1,_,_⟩:=z2l h1
  have s1:=zp8 k.1 st.1
  have s2:=zp9 k.1 st.1 st.2 q.1
  have s3:=z7u (D:=D) (i:=n)
  refine⟨⟨by show(qb3 k.1 st.1).length<=q.2.2;omega,by show(z2n k.1 st.1 st.2 q.1).length<=q.2.2;omega,λv hv=> ?_,λx hx=> ?_⟩,g2,g3⟩
  ·rcases zia hv with rfl|w
   ·exact g1
   ·exact k3 v w
  ·rcases z9j hx with rfl|w
   ·rw[e1];omega
   ·exact k4 x w
 ·obtain⟨q,h2,h⟩:=z0s h
  cases h
  obtain⟨g1,g2,g3⟩:=hg _ _ _ h2
  refine⟨⟨by show st.1.length<=q.2.2;omega,by show(st.2++[q.1]).length<=q.2.2;simp;omega,λv hv=> ?_,k4⟩,g2,g3⟩
  rcases List.mem_append.1 hv with w|w
  ·exact k3 v w
  ·simp at w;subst w;exact g1
def zmd{g:Nat->Nat->RdT} {D:ByteArray} {mp:Bool} (hD:D.size<100000) (hg:∀n c r,g n c= .ok r->okG r c):∀(k:Nat) (st:StI) (n c:Nat) (r:StI×Nat×Nat),z47 g D mp k st n c= .ok r->okI st c->c<=2000->okI r.1 r.2.2/\c<=r.2.2/\r.2.2<=2000
  |0,st,n,c,r,h,hc,h2=>by cases h;exact⟨hc,Nat.le_refl _,h2⟩
  | k+1,st,n,c,r,h,hc,_=>by
    obtain⟨q,h1,h2⟩:=z0s h
    obtain⟨i1,i2,i3⟩:=j4r hD hg h1 hc
    obtain⟨j1,j2,j3⟩:=zmd hD hg k _ _ _ _ h2 i1 i3
    exact⟨j1,by omega,j3⟩
def zwe{g:Nat->Nat->RdT} {D:ByteArray} {mp:Bool} (hD:D.size<100000) (hg:∀n c r,g n c= .ok r->okG r c):∀(f:Nat) (st:StI) (n c:Nat) (r:StI×Nat×Nat),bkX g D mp f st n c= .ok r->okI st c->c<=2000->okI r.1 r.2.2/\c<=r.2.2/\r.2.2<=2000
  |0,st,n,c,r,h,hc,h2=>by cases h
  | f + 1,st,n,c,r,h,hc,hc2=>by
    obtain⟨q,h1,h2⟩:=z0s h
    split at h2
    · cases h2;exact⟨hc,Nat.le_refl _,hc2⟩
    · obtain⟨p,h3,h4⟩:=z0s h2
      obtain⟨i1,i2,i3⟩:=zmd hD hg _ _ _ _ _ h3 hc hc2
      split at h4
      · cases h4
      · obtain⟨j1,j2,j3⟩:=zwe hD hg f _ _ _ _ h4 i1 i3
        exact⟨j1,by omega,j3⟩
def j56{g:Int->Nat->Nat->RdT} {a:AT} (ha:a.sys.length<1000000) (hD:D.size<100000) (hg:∀t n c r,g t n c= .ok r->okG r c) {n c:Nat} {r:PV×Nat×Nat} (h:vaX g D a n c= .ok r) (hc:c<=2000):r.1.sm/\c<=r.2.2/\r.2.2<=2000:=by
 have hz:(mkS []).size<9223372036854775808:=by decide
 unfold vaX at h
 split at h
 ·obtain⟨q,h1,h2⟩:=z0s h
  cases h2
  obtain⟨i1,i2,i3,i4⟩:=zmn hg _ _ _ _ _ h1 hc (Nat.zero_le _) (λv hv=>by cases hv)
  refine⟨?_,i3,i4⟩
  unfold PV.sm
  exact⟨by decide,hz,by omega,by decide,λk h=>(by cases h),z5n.2 i2⟩
 split at h
 ·obtain⟨b,h1,h2⟩:=z0s h
  obtain⟨q,h3,h4⟩:=z0s h2
  cases h4
  obtain⟨g1,g2,g3⟩:=hg _ _ _ _ h3
  refine⟨?_,by show c<=q.2.2;omega,g3⟩
  unfold PV.sm
  exact⟨by decide,hz,by show 1<4611686018427387904;decide,by decide,λk h=>(by cases h),z5n.2 λv hv=>by simp at hv;subst hv;exact g1⟩
 split at h
 ·obtain⟨q,h1,h2⟩:=z0s h
  cases h2
  obtain⟨⟨i1,i2,i3,i4⟩,i5,i6⟩:=zwe hD (λn c r=>hg _ n c r) _ _ _ _ _ h1 ⟨Nat.zero_le _,Nat.zero_le _,λv hv=>(by cases hv),λk hk=>(by cases hk)⟩ hc
  refine⟨?_,i5,i6⟩
  unfold PV.sm
  exact⟨by decide,hz,by omega,by omega,i4,z5n.2 i3⟩
 ·obtain⟨q,h1,h2⟩:=z0s h
  cases h2
  exact⟨j4y ha hD h1,Nat.le_refl _,hc⟩
def zwq{S:List AT} {D:ByteArray} (hS:small S) (hD:D.size<100000):∀(f:Nat) (t:Int) (n c:Nat) (r:PV×Nat×Nat),dvX S D f t n c= .ok r->okG r c
  |0,t,n,c,r,h=>by cases h
  | f + 1,t,n,c,r,h=>by
    unfold dvX at h
    split at h
    · cases h
    · split at h
      · cases h
      · rename_i a ha
        have hm:a∈S:=List.mem_of_getElem? ha
        obtain⟨h1,h2,h3⟩:=j56 (hS.2 a hm).2.2 hD (zwq hS hD f) h (by omega)
        exact⟨h1,by omega,h3⟩
end
section
variable (x0:RvB) (x1:List AT) (x2:Int) (x3:ByteArray) (x4 x5:SV) (x6:Nat->Option Obj) (x7:DdB) (x8:Prop) (x9:RvS) (x10:(Option Addr×Nat×Nat)×Int)
 def zvs:=True/\z09 x1 x4 x6/\x5.2.1=size x3/\qil x6 x5.1 x5.2.1 x5.2.2 (q1h x3)
 def j7g:= !(decide (0<=x10.2)&&decide (x10.2<(↑x10.1.2.1:Int)))
 def j7f:=GV.n x7.1=0/\GV.s x7.1=mkS []/\(GV.x x7.1).1=noA/\(GV.x x7.1).2.1=0/\(GV.x x7.1).2.2=0/\(GV.y x7.1).1=noA/\(GV.y x7.1).2.1=0/\(GV.y x7.1).2.2=0/\GV.b x7.1=0/\x7.2.1=0/\x8
 def jht:=z09 x9.1 x9.2.1.1 x6/\x9.2.1.2.1.2.1=size x9.2.1.2.2.1/\qil x6 x9.2.1.2.1.1 x9.2.1.2.1.2.1 x9.2.1.2.1.2.2 (q1h x9.2.1.2.2.1)
 def jhs:=AV.sv (int i64 x0.2.2.2)=AV.sv (int i64 x0.2.2.2)/\∃(i0:DdB),j7f i0 (i0.2.2=x0.2.2.2/\z1j x1 x2 x3 i0/\(∀i1,(zvs x1 x3 x4 x5 i1)/\GV.ok x0.1 i1->GV.ok i0.1 i1)/\True)
 def jhr:=AV.sv (int i64 x0.2.1)=AV.sv (int i64 x0.2.1)/\∃(i0:DdB),GV.n i0.1=GV.n x0.1/\GV.s i0.1=GV.s x0.1/\(GV.x i0.1).1=(GV.x x0.1).1/\(GV.x i0.1).2.1=(GV.x x0.1).2.1/\(GV.x i0.1).2.2=(GV.x x0.1).2.2/\(GV.y i0.1).1=(GV.y x0.1).1/\(GV.y i0.1).2.1=(GV.y x0.1).2.1/\(GV.y i0.1).2.2=(GV.y x0.1).2.2/\GV.b i0.1=GV.b x0.1/\i0.2.1=x0.2.1/\i0.2.2=0/\z1j x1 x2 x3 i0/\(∀i1,(zvs x1 x3 x4 x5 i1)/\GV.ok x0.1 i1->GV.ok i0.1 i1)/\True
 def jhq:=((!decide (x0.2.2.2=0))=true->jhs x0 x1 x2 x3 x4 x5)/\((!decide (x0.2.2.2=0))=false->jhr x0 x1 x2 x3 x4 x5)
end
def zgr(S:List AT) (x:SV) (t:Int) (y:SV) (D:ByteArray):qm3 P (qh2 [(30,j3b)]) (qi5 [(31,cRv)]) Go.Proofs.Tryz.f17 znr (λ_=>{}) ⟨S,x,t,y,D⟩=(okS S/\size D<1000000000000->(∃(p:Pub),zvs S D x y p)->∃(s:(Option Addr×Nat×Nat)×Int),s.1.1=x.1/\s.1.2.1=x.2.1/\s.1.2.2=x.2.2/\s.2=t/\True/\((j7g s)=true->∃(b:DdB),j7f b (b.2.2=1/\z1j S t D b/\(∀(p:Pub),zvs S D x y p->GV.ok b.1 p)/\True))/\((j7g s)=false->∃(s:RvS),s.2.2.1=t/\s.2.2.2=1/\s.2.1.1.1=x.1/\s.2.1.1.2.1=x.2.1/\s.2.1.1.2.2=x.2.2/\s.2.1.2.1.1=y.1/\s.2.1.2.1.2.1=y.2.1/\s.2.1.2.1.2.2=y.2.2/\s.2.1.2.2.2.1=0/\s.2.1.2.2.2.2.1=0/\s.2.1.2.2.2.2.2=0/\(okS s.1/\z0x s.2.1.2.2.1 s.2.1.2.2.2.1/\(0<=s.2.1.2.2.2.2.1/\s.2.1.2.2.2.2.1<=2000)/\0<=s.2.1.2.2.2.2.2/\(0<=s.2.2.1/\s.2.2.1<(↑(length s.1):Int))/\1<=s.2.2.2/\s.2.2.2<=21)/\(∀(p:Pub),zvs S D x y p->jht p s)/\∀(b:RvB),z0v (dvX s.1 s.2.1.2.2.1 (toNat ((21:Int)- s.2.2.2)) s.2.2.1 (toNat s.2.1.2.2.2.1) (toNat s.2.1.2.2.2.2.1)) s.2.1.2.2.1 s.2.1.2.2.2.1 (s.2.1.2.2.2.2.1+1) s.2.1.2.2.2.2.2 b->(∃(p:Pub),(zvs S D x y p)/\GV.ok b.1 p)->jhq b S t D x y)):=by kernel_rfl
def zo2:=λS x t y D=>Eq.trans (zgr S x t y D) (by delta zvs j7g j7f jht jhs jhr jhq;exact rfl)
def zo3:q22 P 17 znr:=by
 refine qlb mixed (qee (qih zct qlq)) (qf7 (qig zxk qlp)) (W:=λ_=>{}) Go.Proofs.Tryz.func17 (by kernel_rfl) (show 1<=1 by decide) (show 1<=1 by decide) (λs=>by kernel_rfl) λ⟨S,(x:SV),(t:Int),(y:SV),D⟩=>(zo2 S x t y D).mpr ?_
 rintro⟨hok,hD⟩ ⟨p,_,hx,hyl,hy⟩
 have xs:x.2.1=S.length:=hx.1.1
 refine⟨⟨x,t⟩,?_⟩
 simp only[sbS,exists_const,forall_const,Int.toNat_natCast,Bool.and_eq_false_iff,Bool.and_eq_true,xs]
 refine⟨λhno=>⟨⟨zV,0,1⟩,rfl,rfl,rfl,rfl,rfl,rfl,rfl,rfl,rfl,rfl,rfl,⟨λh=>by omega,λ_=>⟨rfl,rfl,rfl⟩,Int.le_refl _,by show(0:Int)<=D.size;omega⟩,λq _=>z17 q⟩,λhin=>⟨⟨S,⟨x,y,D,0,0,0⟩,t,1⟩,rfl,rfl,rfl,xs,rfl,rfl,rfl,rfl,rfl,rfl,rfl,⟨hok,⟨Int.le_refl _,by show(0:Int)<=D.size;omega,hD⟩,⟨by show(0:Int)<=0;decide,by show(0:Int)<=2000;decide⟩,by show(0:Int)<=0;decide,hin,by show(1:Int)<=1;decide,by show(1:Int)<=21;decide⟩,λq hq=>hq,?_⟩⟩
 rintro⟨r,n',all',e'⟩ ⟨h1,h2,h3,h4,h6⟩ _
 rw[if_pos rfl]at h1
 have h1:agD (dvX S D 20 t 0 0) r.pv n' all' e':=h1
 refine⟨λhne=>⟨⟨zV,0,e'⟩,rfl,rfl,rfl,rfl,rfl,rfl,rfl,rfl,rfl,rfl,rfl,⟨λ_=> ?_,λh=>absurd hin h,Int.le_refl _,by show(0:Int)<=D.size;omega⟩,λq _=>z17 q⟩,λhe=>⟨⟨r,n',0⟩,rfl,rfl,rfl,rfl,rfl,rfl,rfl,rfl,rfl,rfl,rfl,⟨λ_=> ?_,λh=>absurd hin h,h2.1,h2.2.1⟩,λq hq=>hq.2⟩⟩
 ·show agT (dvX S D 20 t 0 0) zV.pv 0 e'
  cases hR:dvX S D 20 t 0 0 with
  |no k=>rw[hR]at h1;exact⟨h1,rfl,rfl⟩
  |ok w=>rw[hR]at h1;exact absurd h1.1 hne
 ·show agT (dvX S D 20 t 0 0) r.pv n' 0
  cases hR:dvX S D 20 t 0 0 with
  |no k=>rw[hR]at h1;have h1:e'=k+1:=h1;have he:e'=0:=he;omega
  |ok w=>rw[hR]at h1;exact⟨rfl,h1.2.1,h1.2.2.1⟩
def muV:GV->Nat:=λv=>SizeOf.sizeOf v
def znx:Ct:=ctP (GV×GV) (λ⟨v,w⟩=>[v.av,w.av]) (λ⟨v,w⟩=>v.pv.sm/\w.pv.sm) (λ⟨v,w⟩=>vwM v w) λ⟨v,w⟩=> .sv (.bool (PV.same v.pv w.pv))
def j7t:GV×GV->WayF:=λ⟨v,w⟩=>{
 ann:=λid _ _=>match id with
  |0=>some {σ:=Nat,pre:=λj=>j<=v.ks.length/\v.n=w.n/\v.s=w.s/\v.b=w.b/\v.l.length=w.l.length/\v.ks.length=w.ks.length/\v.ks.take j=w.ks.take j,t:=λj=>[(5, .sv (.int .i64 (j:Int)))],h:=λ_=>[],more:=0,μ:=λj=>v.ks.length- j,keep:=[0,1,2,3]}
  |_=>some {σ:=Nat,pre:=λj=>j<=v.l.length/\v.n=w.n/\v.s=w.s/\v.b=w.b/\v.l.length=w.l.length/\v.ks=w.ks/\PV.sames ((GV.pvs v.l).drop j) ((GV.pvs w.l).drop j)=PV.sames (GV.pvs v.l) (GV.pvs w.l),t:=λj=>[(6, .sv (.int .i64 (j:Int)))],h:=λ_=>[],more:=0,μ:=λj=>v.l.length- j,keep:=[0,1,2,3]}}
section
variable (x0 x1:GV) (x2 x3:Nat) (x4:Prop) (x5:Nat->Option Obj)
 abbrev z6b:=True/\GV.ok x0 x5/\GV.ok x1 x5
 def z76:=PV.same (GV.pv x0) (GV.pv x1)=false/\True
 abbrev z77:=(↑(GV.x x0).2.1:Int)
 abbrev z78:=(↑(GV.y x0).2.1:Int)
 def z79:=GV.n x0=GV.n x0/\GV.s x0=GV.s x0/\(GV.x x0).1=(GV.x x0).1/\(GV.x x0).2.1=(GV.x x0).2.1/\(GV.x x0).2.2=(GV.x x0).2.2/\(GV.y x0).1=(GV.y x0).1/\(GV.y x0).2.1=(GV.y x0).2.1/\(GV.y x0).2.2=(GV.y x0).2.2/\GV.b x0=GV.b x0/\x4
 def zgc:=(∀i0,z6b x0 x1 i0->z6b x0 x1 i0)
 def zvu:=GV.n x0=GV.n x1/\GV.s x0=GV.s x1/\GV.b x0=GV.b x1/\length (GV.l x0)=length (GV.l x1)/\x4
 def zlx:=x2<=length (GV.ks x0)/\zvu x0 x1 (length (GV.ks x0)=length (GV.ks x1)/\take x2 (GV.ks x0)=take x2 (GV.ks x1))
 abbrev zvt:=Jb ((↑x2:Int)+1)
 def j38:=zvt x2/\∃(i0:Nat),z79 x0 (z79 x1 ((↑i0:Int)=(↑x2:Int)+1/\z79 x0 (z79 x1 (zgc x0 x1/\(zlx x0 x1 i0)/\length (GV.ks x0)- i0<length (GV.ks x0)- x2/\True))))
 def j36:=(0<=(↑x2:Int)/\(↑x2:Int)<(z78 x0))/\(GV.y x0).1≠noA/\∃i0,(∀i1,z6b x0 x1 i1->q3p i1 (adr (GV.y x0).1 (toNat (↑x2:Int)*1)) [string i0])/\(0<=(↑x2:Int)/\(↑x2:Int)<(z78 x1))/\(GV.y x1).1≠noA/\∃i2,(∀i3,z6b x0 x1 i3->q3p i3 (adr (GV.y x1).1 (toNat (↑x2:Int)*1)) [string i2])/\((!decide (i0=i2))=true->z76 x0 x1)/\((!decide (i0=i2))=false->j38 x0 x1 x2)
 def zlw:=x2<=length (GV.l x0)/\zvu x0 x1 (GV.ks x0=GV.ks x1/\PV.sames (drop x2 (GV.pvs (GV.l x0))) (drop x2 (GV.pvs (GV.l x1)))=PV.sames (GV.pvs (GV.l x0)) (GV.pvs (GV.l x1)))
 def j37:=zvt x2/\∃(i0:Nat),z79 x0 (z79 x1 ((↑i0:Int)=(↑x2:Int)+1/\z79 x0 (z79 x1 (zgc x0 x1/\(zlw x0 x1 i0)/\length (GV.l x0)- i0<length (GV.l x0)- x2/\True))))
 def j35:=(0<=(↑x2:Int)/\(↑x2:Int)<(z77 x0))/\(GV.x x0).1≠noA/\∃(i0:Int),∃i1,∃i2,∃(i3:Nat),∃(i4:Nat),∃i5,∃(i6:Nat),∃(i7:Nat),∃(i8:Int),(∀i9,z6b x0 x1 i9->q3p i9 (adr (GV.x x0).1 (toNat (↑x2:Int)*5)) [int u64 i0,string i1,slice i2 i3 i4,slice i5 i6 i7,int i64 i8])/\(0<=(↑x2:Int)/\(↑x2:Int)<(z77 x1))/\(GV.x x1).1≠noA/\∃(i10:Int),∃i11,∃i12,∃(i13:Nat),∃(i14:Nat),∃i15,∃(i16:Nat),∃(i17:Nat),∃(i18:Int),(∀i19,z6b x0 x1 i19->q3p i19 (adr (GV.x x1).1 (toNat (↑x2:Int)*5)) [int u64 i10,string i11,slice i12 i13 i14,slice i15 i16 i17,int i64 i18])/\∃(i20:GV×GV),GV.n i20.1=i0/\GV.s i20.1=i1/\(GV.x i20.1).1=i2/\(GV.x i20.1).2.1=i3/\(GV.x i20.1).2.2=i4/\(GV.y i20.1).1=i5/\(GV.y i20.1).2.1=i6/\(GV.y i20.1).2.2=i7/\GV.b i20.1=i8/\GV.n i20.2=i10/\GV.s i20.2=i11/\(GV.x i20.2).1=i12/\(GV.x i20.2).2.1=i13/\(GV.x i20.2).2.2=i14/\(GV.y i20.2).1=i15/\(GV.y i20.2).2.1=i16/\(GV.y i20.2).2.2=i17/\GV.b i20.2=i18/\(zov i20<x3/\PV.sm (GV.pv i20.1)/\PV.sm (GV.pv i20.2))/\(∀i21,z6b x0 x1 i21->GV.ok i20.1 i21/\GV.ok i20.2 i21)/\((!PV.same (GV.pv i20.1) (GV.pv i20.2))=true->z76 x0 x1)/\((!PV.same (GV.pv i20.1) (GV.pv i20.2))=false->j37 x0 x1 x2)
 def ji2:=Ji ((↑x2:Int)<(z77 x0)) (j35 x0 x1 x2 x3) (PV.same (GV.pv x0) (GV.pv x1)=true/\True)
 def ji1:=(∃(i0:Nat),z79 x0 (z79 x1 ((↑i0:Int)=0/\z79 x0 (z79 x1 (zgc x0 x1/\(zlw x0 x1 i0)/\True)))))/\∀(i2:Nat),zlw x0 x1 i2->ji2 x0 x1 i2 x2
 def ji0:=Ji ((↑x2:Int)<(z78 x0)) (j36 x0 x1 x2) (ji1 x0 x1 x3)
 def jhz:=(∃(i0:Nat),z79 x0 (z79 x1 ((↑i0:Int)=0/\z79 x0 (z79 x1 (zgc x0 x1/\(zlx x0 x1 i0)/\True)))))/\∀(i2:Nat),zlx x0 x1 i2->ji0 x0 x1 i2 x2
 def jhy:=((!decide ((z78 x0)=(z78 x1)))=true->z76 x0 x1)/\((!decide ((z78 x0)=(z78 x1)))=false->jhz x0 x1 x2)
 def jhx:=((!decide ((z77 x0)=(z77 x1)))=true->z76 x0 x1)/\((!decide ((z77 x0)=(z77 x1)))=false->jhy x0 x1 x2)
 def jhw:=((!decide (GV.b x0=GV.b x1))=true->z76 x0 x1)/\((!decide (GV.b x0=GV.b x1))=false->jhx x0 x1 x2)
 def jhv:=((!decide (GV.s x0=GV.s x1))=true->z76 x0 x1)/\((!decide (GV.s x0=GV.s x1))=false->jhw x0 x1 x2)
 def jhu:=((!decide (GV.n x0=GV.n x1))=true->z76 x0 x1)/\((!decide (GV.n x0=GV.n x1))=false->jhv x0 x1 x2)
end
def zpp(n:Nat) (v w:GV):qm2 P (qh2 [(14,znx.below zov n)]) Go.Proofs.Tryz.f14 (znx.below zov (n+1)) (j7t) ⟨v,w⟩=(zov (v,w)<n+1/\PV.sm (GV.pv v)/\PV.sm (GV.pv w)->(∃(p:Pub),z6b v w p)->jhu v w n):=by kernel_rfl
def zxo:=λn v w=>Eq.trans (zpp n v w) (by delta Ji Jb Jt Jf z6b z76 z77 z78 z79 zgc zvu zlx zvt j38 j36 zlw j37 j35 ji2 ji1 ji0 jhz jhy jhx jhw jhv jhu;exact rfl)
section
variable {v:GV} {j:Nat}
def zhd(hj:j<v.l.length) {q:Pub} (h:v.ok q):v.x.1≠noA/\q3p q (adr v.x.1 (j*5)) (v.l[j]).cells:=z0z z0c (by decide) (by rw[GV.ok_eq]at h;exact h.1) hj
def zma(hj:j<v.l.length) {q:Pub} (h:v.ok q):(v.l[j]).ok q:=GV.oks_at (by rw[GV.ok_eq]at h;exact h.2.2) hj
def z99(hj:j<v.ks.length) {q:Pub} (h:v.ok q):v.y.1≠noA/\q3p q (adr v.y.1 (j*1)) [.string v.ks[j]]:=z0z z0t (by decide) (by rw[GV.ok_eq]at h;exact h.2.1) hj
def zco{q:Pub} (h:v.ok q):v.x.2.1=v.l.length/\v.y.2.1=v.ks.length:=by
 rw[GV.ok_eq]at h;exact⟨h.1.1,h.2.1.1⟩
def zdn(hj:j<v.l.length):j<(GV.pvs v.l).length:=by rw[GV.pvs_len];exact hj
def zx6(hj:j<v.l.length):muV v.l[j]<muV v:=by
 have h1:=zpo hj
 have h2:SizeOf.sizeOf v.l<SizeOf.sizeOf v:=by cases v;simp[GV.l];omega
 exact Nat.lt_trans h1 h2
def zmp(h:v.pv.sm) {j:Nat} (hj:j<v.l.length):(v.l[j]).pv.sm:=by
 rw[GV.sm_eq]at h
 have:=PV.sms_at h.2.2.2.2.2 (zdn hj)
 rw[zdm hj]at this;exact this
end
def zxp(n:Nat) (hc:q5k P 14 (znx.below zov n)):q5k P 14 (znx.below zov (n+1)):=by
 refine qm5 mixed (qee (qih hc qlq)) (W:=j7t) Go.Proofs.Tryz.func14 (by kernel_rfl) (show 1<=1 by decide) (show 1<=1 by decide) (λs=>by kernel_rfl) λ⟨v,w⟩=>(zxo n v w).mpr ?_
 rintro⟨hmu,hv,hw⟩ ⟨p,_,hp,hq⟩
 have hmu:SizeOf.sizeOf v<n+1:=hmu
 obtain⟨hxl,hyl⟩:=zco hp
 obtain⟨hxl2,hyl2⟩:=zco hq
 have hl:=hv
 have hl2:=hw
 rw[GV.sm_eq]at hl hl2
 have hsame:PV.same v.pv w.pv=(decide (v.n=w.n)&&decide (v.s=w.s)&&decide (v.b=w.b)&&decide (v.ks=w.ks)&&PV.sames (GV.pvs v.l) (GV.pvs w.l)):=by rw[GV.pv_eq v,GV.pv_eq w,PV.same]
 simp only[sbS,Int.toNat_natCast]
 rw[hsame]
 refine⟨λh=>by rw[decide_eq_false h];rfl,λh1=>⟨λh=>by rw[decide_eq_false h];simp,λh2=>⟨λh=>by rw[decide_eq_false h];simp,λh3=>⟨λh=> ?_,λh4=>⟨λh=> ?_,λh5=>⟨⟨0,rfl,by omega,h1,h2,h3,by omega,by omega,by simp⟩,?_⟩⟩⟩⟩⟩⟩
 ·rw[z6s (l:=GV.pvs v.l) (m:=GV.pvs w.l) (by rw[GV.pvs_len,GV.pvs_len];omega)];simp
 ·rw[decide_eq_false (p:=v.ks=w.ks) (λe=>h (by rw[hyl,hyl2,e]))];simp
 rintro j ⟨hj, -, -, -,hll,hkl,ht⟩
 refine⟨λhlt=> ?_,λhge=> ?_⟩
 ·have hj1:j<v.ks.length:=by omega
  have hj2:j<w.ks.length:=by omega
  refine⟨by omega,(z99 hj1 hp).1,v.ks[j],λq hq=>(z99 hj1 hq.1).2,by omega,(z99 hj2 hq).1,w.ks[j],λq hq=>(z99 hj2 hq.2).2,λhne=> ?_,λhe=>⟨by omega,j+1,rfl,⟨by omega,h1,h2,h3,hll,hkl,?_⟩,by omega⟩⟩
  ·rw[decide_eq_false (p:=v.ks=w.ks) (λe=>hne (by simp only[e]))];simp
  ·rw[List.take_succ_eq_append_getElem hj1,List.take_succ_eq_append_getElem hj2,ht,he]
 ·obtain rfl:j=v.ks.length:=by omega
  have hks:v.ks=w.ks:=by
   rw[List.take_length,hkl,List.take_length]at ht;exact ht
  refine⟨⟨0,rfl,by omega,h1,h2,h3,hll,hks,by simp⟩,?_⟩
  rintro i ⟨hi, -, -, -, -, -,hs⟩
  refine⟨λhlt=> ?_,λhge=> ?_⟩
  ·have hi1:i<v.l.length:=by omega
   have hi2:i<w.l.length:=by omega
   have hd:=zaz (zdn hi1) (zdn hi2)
   rw[zdm hi1,zdm hi2]at hd
   refine⟨by omega,(zhd hi1 hp).1,v.l[i].n,v.l[i].s,v.l[i].x.1,v.l[i].x.2.1,v.l[i].x.2.2,v.l[i].y.1,v.l[i].y.2.1,v.l[i].y.2.2,v.l[i].b,λq hq=>(zhd hi1 hq.1).2,by omega,(zhd hi2 hq).1,w.l[i].n,w.l[i].s,w.l[i].x.1,w.l[i].x.2.1,w.l[i].x.2.2,w.l[i].y.1,w.l[i].y.2.1,w.l[i].y.2.2,w.l[i].b,λq hq=>(zhd hi2 hq.2).2,⟨v.l[i],w.l[i]⟩,?_⟩
   simp only[true_and,eq_self]
   refine⟨⟨?_,zmp hv hi1,zmp hw hi2⟩,λq hq=>⟨zma hi1 hq.1,zma hi2 hq.2⟩,λhb=> ?_,λhb=>⟨by omega,i+1,rfl,⟨by omega,h1,h2,h3,hll,hks,?_⟩,by omega⟩⟩
   ·show SizeOf.sizeOf v.l[i]<n
    have:=zx6 hi1
    have:SizeOf.sizeOf v.l[i]<SizeOf.sizeOf v:=this
    omega
   ·rw[←hs,hd,hb];simp
   ·rw[←hs,hd,hb];rfl
  ·obtain rfl:i=v.l.length:=by omega
   rw[List.drop_of_length_le (by rw[GV.pvs_len];exact Nat.le_refl _),List.drop_of_length_le (by rw[GV.pvs_len];omega)]at hs
   rw[←hs,decide_eq_true h1,decide_eq_true h2,decide_eq_true h3,decide_eq_true hks,PV.sames];rfl
def zdu:∀n,q5k P 14 (znx.below zov n)
 |0=>Ct.below_zero (by decide) (by decide) (Sen.enters_of Go.Proofs.Tryz.func14 (by kernel_rfl)) λs=>⟨rfl,rfl⟩
 |n+1=>zxp n (zdu n)
def zpq:q5k P 14 znx:=Ct.of_below zdu
def cMd:Ct where
 σ:=SV
 args:=λx=>[svA x]
 h:=λ_=>[]
 m:=1
 r:=λ_=> .ptr 1 0
 h':=λx=>pkO x 0
 m':=2
 g:=λ_=>none
def z3t:Ct where
 σ:=Unit
 args:=λ_=>[]
 h:=λ_=>[]
 m:=1
 r:=λ_=> .sv (.bool true)
 h':=λ_=>[]
 m':=1
 g:=λ_=>none
def za1:z3t.σ->WayF:=λ_=>{pub:=λi k=>match i,k with
 |2,2=>[10,14]
 |_,_=>[]}
def zby:Ct:=ctP DdS (λ⟨S,x,t,y,D⟩=>[scA x, .sv (.int .i64 t),svA y]) (λ⟨S,x,t,y,D⟩=>okS S/\D.size<100000) (λ⟨S,x,t,y,D⟩=>rvM S x y D) λ_=> .sv (.bool true)
abbrev LdS:=SV×List Int×SV×ByteArray×Int
def ldM(x:SV) (L:List Int) (y:SV) (D:ByteArray):PF:=⟨true,λp=>slP byV x L p/\(y.2.1=D.size/\qil p y.1 y.2.1 y.2.2 (q1h D)),λ_ _ h e=>⟨z0e h e.1,e.2.1,q5g h e.2.2⟩⟩
def zwj(L:List Int):Prop:=L.length<9223372036854775808/\∀b∈L,0<=b/\b<256
def zm4:Ct:=ctP LdS (λ⟨x,L,y,D,t⟩=>[svA x,svA y, .sv (.int .i64 t)]) (λ⟨x,L,y,D,t⟩=>zwj L) (λ⟨x,L,y,D,t⟩=>ldM x L y D) λ_=> .sv (.bool true)
def zmx:LdS->WayF:=λ⟨x,L,y,D,t0⟩=>{
 ann:=λ_ t _=>match t.get 7 with
  |some (.ptr k _)=>some {σ:=Nat×List AT×SV,pre:=λ⟨j,S,z⟩=>z0w S/\j<=S.length,mem:=λ⟨j,S,z⟩=>sM S z,t:=λ⟨j,S,z⟩=>[(9, .sv (.int .i64 (j:Nat)))],h:=λ⟨j,S,z⟩=>[(k, .cells 27 (some 0) false [svA z])],more:=0,μ:=λ⟨j,S,z⟩=>S.length- j,keep:=[0,1,2,7]}
  |_=>none}
def zht(x:SV):qm2 P (λ_=>none) Go.Proofs.Tryz.f8 cMd (λ_=>{}) x=(True->Prod.fst x=Prod.fst x/\Prod.fst (Prod.snd x)=Prod.fst (Prod.snd x)/\Prod.snd (Prod.snd x)=Prod.snd (Prod.snd x)/\(0:Int)=(0:Int)/\True):=by kernel_rfl
section
variable (x0:Nat->Option Obj) (x1 x2 x3 x4:Nat) (x5 x6:DdB) (x7:DdS) (x8:Int) (x9:Prop)
 abbrev j7h:=True/\q3p x0 (Addr.mk x1 x2 none) [int i64 4,string (mkS []),slice noA 0 0,int i64 0,slice noA 0 0,bool false,string (mkS []),int i64 0,slice noA 0 0,slice noA 0 0,int i64 12,string (mkS []),slice noA 0 0,int i64 0,slice noA 0 0,bool false,string (mkS []),int i64 0,slice noA 0 0,slice noA 0 0]
 def zvv:=(j7h x0 x1 x2)/\q3p x0 (Addr.mk x3 x4 none) [int u8 2,int u8 10,int u8 0,int u8 9]
 def j7j:=x7.2.1.1=some (Addr.mk x1 (x2+nat_lit 0) none)/\x7.2.1.2.1=nat_lit 2/\x7.2.1.2.2=nat_lit 2/\x7.2.2.1=x8/\x9
 def j7i:=z09 x7.1 x7.2.1 x0/\x7.2.2.2.1.2.1=size x7.2.2.2.2/\qil x0 x7.2.2.2.1.1 x7.2.2.2.1.2.1 x7.2.2.2.1.2.2 (q1h x7.2.2.2.2)
 def ji6:=((0:Int)<=0/\0<(↑(GV.x x5.1).2.1:Int))/\(GV.x x5.1).1≠noA/\∃(i0:Int),(∀i1,((zvv i1 x1 x2 x3 x4)/\GV.ok x5.1 i1)/\GV.ok x6.1 i1->q3p i1 (Addr.add (adr (GV.x x5.1).1 ((0:Nat)*5)) 0) [int u64 i0])/\Ji (i0=5) (true=decide (x6.2.2=2)/\True) (true=false/\True)
 def ji5:=Ji ((↑(GV.x x5.1).2.1:Int)=1) (ji6 x1 x2 x3 x4 x5 x6) (true=false/\True)
 def ji4:=Ji (x5.2.1=3) (ji5 x1 x2 x3 x4 x5 x6) (true=false/\True)
 def ji3:=Ji (x5.2.2=0) (ji4 x1 x2 x3 x4 x5 x6) (true=false/\True)
end
def z7c(u:Unit):qm4 P (qh2 []) (qi5 [(13,zgn)]) Go.Proofs.Tryz.f7 z3t (za1) u=(True->∀(b s u:Nat),(∃(p:Pub),j7h p b s)->∀(b_1 s_1 u:Nat),(∃(p:Pub),zvv p b s b_1 s_1)->∃(s_2:DdS),j7j b s s_2 1 (s_2.2.2.2.1.1=some (Addr.mk b_1 (s_1+nat_lit 0) none)/\s_2.2.2.2.1.2.1=nat_lit 4/\s_2.2.2.2.1.2.2=nat_lit 4/\(okS s_2.1/\size s_2.2.2.2.2<100000)/\(∀(p:Pub),zvv p b s b_1 s_1->j7i p s_2)/\∀(b_2:DdB),z1j s_2.1 s_2.2.2.1 s_2.2.2.2.2 b_2->(∃(p:Pub),(zvv p b s b_1 s_1)/\GV.ok b_2.1 p)->∃(s_3:DdS),j7j b s s_3 0 (s_3.2.2.2.1.1=noA/\s_3.2.2.2.1.2.1=0/\s_3.2.2.2.1.2.2=0/\(okS s_3.1/\size s_3.2.2.2.2<100000)/\(∀(p:Pub),(zvv p b s b_1 s_1)/\GV.ok b_2.1 p->j7i p s_3)/\∀(b_3:DdB),z1j s_3.1 s_3.2.2.1 s_3.2.2.2.2 b_3->(∃(p:Pub),((zvv p b s b_1 s_1)/\GV.ok b_2.1 p)/\GV.ok b_3.1 p)->ji3 b s b_1 s_1 b_2 b_3))):=by kernel_rfl
def za8:=λu=>Eq.trans (z7c u) (by delta Ji Jt Jf j7h zvv j7j j7i ji6 ji5 ji4 ji3;exact rfl)
section
variable (x0 x1:DdB) (x2:List AT) (x3 x4:SV) (x5:ByteArray) (x6:Nat->Option Obj) (x7:DdS) (x8:Int) (x9:Prop)
 abbrev zvw:=True/\z09 x2 x3 x6/\x4.2.1=size x5/\qil x6 x4.1 x4.2.1 x4.2.2 (q1h x5)
 def j7l:=x7.2.1.1=x3.1/\x7.2.1.2.1=x3.2.1/\x7.2.1.2.2=x3.2.2/\x7.2.2.1=x8/\x7.2.2.2.1.1=x4.1/\x7.2.2.2.1.2.1=x4.2.1/\x7.2.2.2.1.2.2=x4.2.2/\x9
 def j7k:=z09 x7.1 x7.2.1 x6/\x7.2.2.2.1.2.1=size x7.2.2.2.2/\qil x6 x7.2.2.2.1.1 x7.2.2.2.1.2.1 x7.2.2.2.1.2.2 (q1h x7.2.2.2.2)
 def ji8:=Ji (x0.2.1=x1.2.1) (∃(i0:GV×GV),GV.n i0.1=GV.n x0.1/\GV.s i0.1=GV.s x0.1/\(GV.x i0.1).1=(GV.x x0.1).1/\(GV.x i0.1).2.1=(GV.x x0.1).2.1/\(GV.x i0.1).2.2=(GV.x x0.1).2.2/\(GV.y i0.1).1=(GV.y x0.1).1/\(GV.y i0.1).2.1=(GV.y x0.1).2.1/\(GV.y i0.1).2.2=(GV.y x0.1).2.2/\GV.b i0.1=GV.b x0.1/\GV.n i0.2=GV.n x1.1/\GV.s i0.2=GV.s x1.1/\(GV.x i0.2).1=(GV.x x1.1).1/\(GV.x i0.2).2.1=(GV.x x1.1).2.1/\(GV.x i0.2).2.2=(GV.x x1.1).2.2/\(GV.y i0.2).1=(GV.y x1.1).1/\(GV.y i0.2).2.1=(GV.y x1.1).2.1/\(GV.y i0.2).2.2=(GV.y x1.1).2.2/\GV.b i0.2=GV.b x1.1/\(PV.sm (GV.pv i0.1)/\PV.sm (GV.pv i0.2))/\(∀i1,((zvw x2 x3 x4 x5 i1)/\GV.ok x0.1 i1)/\GV.ok x1.1 i1->GV.ok i0.1 i1/\GV.ok i0.2 i1)/\true=PV.same (GV.pv i0.1) (GV.pv i0.2)/\True) (true=false/\True)
 def ji7:=Ji (x0.2.2=x1.2.2) (ji8 x0 x1 x2 x3 x4 x5) (true=false/\True)
end
def zbu(S:List AT) (x:SV) (t:Int) (y:SV) (D:ByteArray):qm4 P (qh2 [(14,znx)]) (qi5 [(13,zgn),(17,znr)]) Go.Proofs.Tryz.f12 zby (λ_=>{}) ⟨S,x,t,y,D⟩=(okS S/\size D<100000->(∃(p:Pub),zvw S x y D p)->∃(s:DdS),j7l x y s t ((okS s.1/\size s.2.2.2.2<100000)/\(∀(p:Pub),zvw S x y D p->j7k p s)/\∀(b:DdB),z1j s.1 s.2.2.1 s.2.2.2.2 b->(∃(p:Pub),(zvw S x y D p)/\GV.ok b.1 p)->∃(s:DdS),j7l x y s t ((okS s.1/\size s.2.2.2.2<1000000000000)/\(∀(p:Pub),(zvw S x y D p)/\GV.ok b.1 p->j7k p s)/\∀(b_1:DdB),z1j s.1 s.2.2.1 s.2.2.2.2 b_1->(∃(p:Pub),((zvw S x y D p)/\GV.ok b.1 p)/\GV.ok b_1.1 p)->ji7 b b_1 S x y D))):=by kernel_rfl
def zgj:=λS x t y D=>Eq.trans (zbu S x t y D) (by delta Ji Jt Jf zvw j7l j7k ji8 ji7;exact rfl)
section
variable (x0 x1:SV) (x2:List Int) (x3:ByteArray) (x4:Int) (x5:List AT×(Option Addr×Nat×Nat)×Bool×Int) (x6:Nat×List AT×Option Addr×Nat×Nat) (x7:Nat->Option Obj) (x8:DdS) (x9:Prop)
 abbrev zly:=True/\slP byV x0 x2 x7/\x1.2.1=size x3/\qil x7 x1.1 x1.2.1 x1.2.2 (q1h x3)
 abbrev zvy:=x4<(↑x0.2.1:Int)
 def zgh:=(zly x0 x1 x2 x3 x7)/\z09 x5.1 x5.2.1 x7
 def j39:=x0.1=x0.1/\x0.2.1=x0.2.1/\x0.2.2=x0.2.2/\x9
 def zlz:=z0w x6.2.1/\x6.1<=length x6.2.1
 def zvx:=x8.2.1.1=x6.2.2.1/\x8.2.1.2.1=x6.2.2.2.1/\x8.2.1.2.2=x6.2.2.2.2/\x9
 def jif:=z09 x8.1 x8.2.1 x7/\x8.2.2.2.1.2.1=size x8.2.2.2.2/\qil x7 x8.2.2.2.1.1 x8.2.2.2.1.2.1 x8.2.2.2.1.2.2 (q1h x8.2.2.2.2)
 def j7m:=x8.2.2.2.1.1=x0.1/\x8.2.2.2.1.2.1=x0.2.1/\x8.2.2.2.1.2.2=x0.2.2/\(okS x8.1/\size x8.2.2.2.2<100000)/\(∀i0,(zgh x1 x0 x2 x3 x5 i0)/\z09 x6.2.1 x6.2.2 i0->jif i0 x8)/\x9
 def jie:=Jb ((↑x6.1:Int)+1)/\∃(i0:Nat×List AT×Option Addr×Nat×Nat),j39 x0 (j39 x1 ((↑i0.1:Int)=(↑x6.1:Int)+1/\x4=x4/\i0.2.2.1=x6.2.2.1/\i0.2.2.2.1=x6.2.2.2.1/\i0.2.2.2.2=x6.2.2.2.2/\(∀i1,(zgh x0 x1 x2 x3 x5 i1)/\z09 x6.2.1 x6.2.2 i1->zgh x0 x1 x2 x3 x5 i1)/\(∀i2,(zgh x0 x1 x2 x3 x5 i2)/\z09 x6.2.1 x6.2.2 i2->z09 i0.2.1 i0.2.2 i2)/\(zlz i0)/\length i0.2.1- i0.1<length x6.2.1- x6.1/\True))
 def jid:=Ji ((↑x6.1:Int)<(↑x6.2.2.2.1:Int)) (∃(i0:DdS),zvx x6 i0 (i0.2.2.1=(↑x6.1:Int)/\j7m x0 x1 x2 x3 x5 x6 i0 (((!true)=true->true=false/\True)/\((!true)=false->jie x1 x0 x2 x3 x4 x5 x6)))) (∃(i5:DdS),zvx x6 i5 (i5.2.2.1=x4/\j7m x0 x1 x2 x3 x5 x6 i5 (true=true/\True)))
 def jic:=(∃(i0:Nat×List AT×Option Addr×Nat×Nat),j39 x0 (j39 x1 ((↑i0.1:Int)=0/\x4=x4/\i0.2.2.1=x5.2.1.1/\i0.2.2.2.1=x5.2.1.2.1/\i0.2.2.2.2=x5.2.1.2.2/\(∀i1,zgh x0 x1 x2 x3 x5 i1->zgh x0 x1 x2 x3 x5 i1)/\(∀i2,zgh x0 x1 x2 x3 x5 i2->z09 i0.2.1 i0.2.2 i2)/\(zlz i0)/\True)))/\∀(i3:Nat×List AT×Option Addr×Nat×Nat),zlz i3->(∃i4,(zgh x0 x1 x2 x3 x5 i4)/\z09 i3.2.1 i3.2.2 i4)->jid x1 x0 x2 x3 x4 x5 i3
 def jib:=((!x5.2.2.1)=true->true=true/\True)/\((!x5.2.2.1)=false->jic x0 x1 x2 x3 x4 x5)
 def jia:=Ji (zvy x0 60) (true=true/\True) (∃(i0:Option Addr×Nat×Nat),i0.1=x1.1/\i0.2.1=x1.2.1/\i0.2.2=x1.2.2/\True/\∃(i1:RcS),i1.1.1=i0.1/\i1.1.2.1=i0.2.1/\i1.1.2.2=i0.2.2/\i1.2.2=0/\zav i1/\(∀i2,zly x1 x0 x2 x3 i2->slP byV i1.1 i1.2.1 i2)/\∀(i3:List AT×(Option Addr×Nat×Nat)×Bool×Int),z0w i3.1/\(i3.2.2.1=true->i3.1≠[])/\i1.2.2<=i3.2.2.2/\i3.2.2.2<=(↑(length i1.2.1):Int)->(∃i4,zgh x1 x0 x2 x3 i3 i4)->jib x1 x0 x2 x3 x4 i3)
 def ji9:=Ji (zvy x0 120) (true=true/\True) (jia x1 x0 x2 x3 x4)
end
def zd0(x:SV) (L:List Int) (y:SV) (D:ByteArray) (t:Int):qm4 P (qh2 [(7,z3t),(8,cMd),(12,zby)]) (qi5 [(9,znq)]) Go.Proofs.Tryz.f4 zm4 (zmx) ⟨x,L,y,D,t⟩=(zwj L->(∃(p:Pub),zly x y L D p)->∃(s:Unit),True/\((!true)=true->true=false/\True)/\((!true)=false->ji9 x y L D t)):=by kernel_rfl
def zhj:=λx L y D t=>Eq.trans (zd0 x L y D t) (by delta Ji Jb Jt Jf zly zvy zgh j39 zlz zvx jif j7m jie jid jic jib jia ji9;exact rfl)
section
def zhu:q5k P 8 cMd:=by
 refine qm5 mixed z0p (W:=λ_=>{}) Go.Proofs.Tryz.func8 (by kernel_rfl) (by decide) (by decide) (λs=>by kernel_rfl) λ(x:SV)=>(zht x).mpr ?_
 simp only[true_and,and_true,eq_self,imp_self,implies_true]
variable {S:List AT}
def zoa(h:z0w S):okS S:=⟨⟨by have:=h.1;omega,λe he=>by have:=(h.2 e he).2.2.2.2.2.2.2;omega⟩,λe he=>(h.2 e he).1,λa ha=>⟨λf hf=>((h.2 a ha).2.2.2.2.1 f hf).1,(h.2 a ha).2.2.1,(h.2 a ha).2.1,λk=>by have:=(h.2 a ha).2.2.2.2.2.2.1 k;omega⟩⟩
def zyg:zV.pv.sm:=by
 unfold zV GV.pv GV.pvs
 exact z1c (by decide) (by decide)
def zwo{t:Int} {D:ByteArray} {b b':DdB} (hS:small S) (hD:D.size<100000) (h:z1j S t D b) (h':z1j S t D b'):b.2.2=b'.2.2/\b.2.1=b'.2.1/\b.1.pv=b'.1.pv/\b.1.pv.sm:=by
  by_cases ht:0<=t/\t<S.length
  · have g:=h.1 ht
    have g':=h'.1 ht
    cases hR:dvX S D 20 t 0 0 with
    | no k=>
      rw[hR]at g g'
      obtain⟨a1,a2,a3⟩:=g
      obtain⟨b1,b2,b3⟩:=g'
      exact⟨a1.trans b1.symm,a2.trans b2.symm,a3.trans b3.symm,a3 ▸ zyg⟩
    | ok r=>
      have hs:=(zwq hS hD 20 t 0 0 r hR).1
      rw[hR]at g g'
      obtain⟨a1,a2,a3⟩:=g
      obtain⟨b1,b2,b3⟩:=g'
      exact⟨a1.trans b1.symm,a3.trans b3.symm,a2.trans b2.symm,a2 ▸ hs⟩
  · obtain⟨a1,a2,a3⟩:=h.2.1 ht
    obtain⟨b1,b2,b3⟩:=h'.2.1 ht
    exact⟨a1.trans b1.symm,a2.trans b2.symm,a3.trans b3.symm,a3 ▸ zyg⟩
def zgk:q5k P 12 zby:=by
 refine qlc mixed (qee (qih zpq qlq)) (qf7 (qig zcd (qig zo3 qlp))) (W:=λ_=>{}) Go.Proofs.Tryz.func12 (by kernel_rfl) (show 1<=1 by decide) (show 1<=1 by decide) (λs=>by kernel_rfl) λ⟨S,(x:SV),(t:Int),(y:SV),D⟩=>(zgj S x t y D).mpr ?_
 rintro⟨hok,hD⟩ _
 refine⟨⟨S,x,t,y,D⟩,rfl,rfl,rfl,rfl,rfl,rfl,rfl,⟨hok,hD⟩,λq hq=>hq.2,?_⟩
 rintro⟨v,n,e⟩ hv _
 refine⟨⟨S,x,t,y,D⟩,rfl,rfl,rfl,rfl,rfl,rfl,rfl,⟨hok,by show D.size<1000000000000;omega⟩,λq hq=>hq.1.2,?_⟩
 rintro⟨w,m,f⟩ hw _
 obtain⟨h1,h2,h3,h4⟩:=zwo hok.1 hD hv hw
 simp only[decide_eq_true_eq,decide_eq_false_iff_not]at h1 h2 h3 h4⊢
 refine⟨λ_=>⟨λ_=>⟨(v,w),rfl,rfl,rfl,rfl,rfl,rfl,rfl,rfl,rfl,rfl,rfl,rfl,rfl,rfl,rfl,rfl,rfl,rfl,⟨h4,h3 ▸ h4⟩,λq hq=>⟨hq.1.2,hq.2⟩,?_,trivial⟩,λg=>absurd h2 g⟩,λg=>absurd h1 g⟩
 show true=PV.same v.pv w.pv
 rw[←h3]
 exact(z6r _).symm
def tD(k it:Int):AT:=⟨k,mkS [],(none,0,0),[],it,(none,0,0),[],false,mkS [],0,(none,0,0),[],(none,0,0),[]⟩
def SD:List AT:=[tD 4 0,tD 12 0]
def dP:PV:= .mk 0 (mkS []) [.mk 5 (mkS []) [] [] 0] [] 0
def j54(k it:Int) (p:Pub):(tD k it).ok p:=⟨z05,z05,z05,z05,λf hf=>absurd hf (by simp[tD])⟩
def zm0{p:Pub} {b s:Nat} (h:q3p p ⟨b,s,none⟩ (z00 AT.cells SD)):z09 SD (some ⟨b,s+0,none⟩,2,2) p:=
 ⟨⟨rfl,Nat.le_refl _, .inr ⟨_,rfl,rfl,h⟩⟩,λe he=>by simp[SD]at he;rcases he with rfl|rfl<;>exact j54 _ _ _⟩
def zwc:okS SD:=by
 refine⟨⟨by decide,λe he=> ?_⟩,λe he=> ?_,λe he=> ?_⟩
 all_goals simp[SD]at he;rcases he with rfl|rfl
 all_goals first|decide|exact⟨λf hf=>absurd hf (by simp[tD]),λf hf=>absurd hf (by simp[tD]),by decide,by decide⟩
def jii:dvX SD (mkS [2,10,0,9]) 20 1 0 0= .ok (dP,3,2):=by kernel_rfl
def jij:dvX SD (mkS []) 20 0 0 0= .no 1:=by kernel_rfl
def za9:q5k P 7 z3t:=by
  refine qlc mixed (qee qlq) (qf7 (qig zcd qlp)) (W:=za1) Go.Proofs.Tryz.func7 (by kernel_rfl) (show 1<=1 by decide) (show 1<=1 by decide) (λs=>by kernel_rfl) λ(u:Unit)=>(za8 u).mpr ?_
  intro _ b s _ _ b1 s1 _ _
  refine⟨⟨SD,(some ⟨b,s+0,none⟩,2,2),1,(some ⟨b1,s1+0,none⟩,4,4),mkS [2,10,0,9]⟩,rfl,rfl,rfl,rfl,rfl,rfl,rfl,⟨zwc,by show 4<100000;decide⟩,λp h=>⟨zm0 h.1.2,rfl,Nat.le_refl _, .inr ⟨_,rfl,rfl,h.2⟩⟩,?_⟩
  rintro⟨v,n,e⟩ hv ⟨p,hp⟩
  refine⟨⟨SD,(some ⟨b,s+0,none⟩,2,2),0,(none,0,0),mkS []⟩,rfl,rfl,rfl,rfl,rfl,rfl,rfl,⟨zwc,by show 0<100000;decide⟩,λp h=>⟨zm0 h.1.1.2,rfl,Nat.le_refl _, .inl ⟨rfl,trivial⟩⟩,?_⟩
  rintro⟨w,m,f⟩ hw _
  have hv:=hv.1 ⟨by show(0:Int)<=1;decide,by show(1:Int)<2;decide⟩
  have hw:=hw.1 ⟨by show(0:Int)<=0;decide,by show(0:Int)<2;decide⟩
  have hv:agT (dvX SD (mkS [2,10,0,9]) 20 1 0 0) v.pv n e:=hv
  have hw:agT (dvX SD (mkS []) 20 0 0 0) w.pv m f:=hw
  rw[jii]at hv
  rw[jij]at hw
  obtain⟨v1,v2,v3⟩:=hv
  obtain⟨w1,w2,w3⟩:=hw
  have v2:v.pv=dP:=v2
  have v3:n=3:=v3
  have w1:f=2:=w1
  subst v1 v3 w1
  have hok:v.ok p:=hp.2
  have hl:∃h,v.l=[h]/\h.n=5:=by
    obtain⟨vn,vs,vx,vl,vy,vk,vb⟩:=v
    rw[GV.pv]at v2
    unfold dP at v2
    injection v2 with _ _ q _ _
    rw[GV.pvs_map]at q
    cases vl with
    |nil=>cases q
    | cons h l=>
      cases l with
      |cons _ _=>have:=congrArg List.length q;simp at this
      | nil=>
        refine⟨h,rfl,?_⟩
        obtain⟨hn,hs,hx,hl,hy,hk,hb⟩:=h
        rw[List.map_cons,GV.pv]at q
        injection q with q _
        injection q with q
  obtain⟨h,hl,hn⟩:=hl
  have hlen:v.l.length=1:=by rw[hl];rfl
  have hx:=GV.x_len hok
  have h0:0<v.l.length:=by omega
  have hca:=λq (hq:v.ok q)=>GV.cells_at hq h0
  have he:v.l[0]=h:=by simp only[hl];rfl
  rw[he]at hca
  simp only[decide_eq_true_eq,decide_eq_false_iff_not]
  refine⟨λ_=>⟨λ_=>⟨λ_=>⟨⟨by decide,by omega⟩,(hca p hok).1,h.n,λq hq=> ?_,λ_=>⟨by decide,trivial⟩,λg=>absurd hn g⟩,λg=>absurd (by omega) g⟩,λg=>absurd trivial g⟩,λg=>absurd trivial g⟩
  have c:=(hca q hq.1.2).2
  intro j z hj
  cases j with
  |succ j=>simp at hj
  | zero=>
    have e0:Addr.add (adr v.x.1 (0*5)) 0=adr v.x.1 (0*5):=by unfold Addr.add;rw[if_pos rfl]
    rw[e0]
    exact c 0 z hj
end
section
 open Go.ChangeShapes Go.WideShapes Go.ChangeAt Go.Joins Go.Deep
abbrev j3e(w:World):Pub:=q19 (λ_ b=>b<w.heap.size) w
variable {w:World} {a:Addr}
def z92{v:Value} (h:w.cell? a=some v):q6r (j3e w) a=some v/\a.spot=none:=by
  unfold World.cell? at h
  cases ho:w.heap[a.block]? with
  |none=>rw[ho]at h;cases h
  | some o=>
    have hlt:a.block<w.heap.size:=(Array.getElem?_eq_some_iff.1 ho).1
    have hp:j3e w a.block=some o:=q04.2 ⟨hlt,ho⟩
    rw[ho]at h
    unfold q6r
    rw[hp]
    cases o<;>simp only at h<;>first|cases h|skip
    cases hs:a.spot with
    |none=>rw[hs]at h;simp[qc0,hs]at h⊢;exact h
    |some k=>rw[hs]at h;simp at h
def zae{p:Pub} {x y:List Value} (h1:q3p p a x) (h2:q3p p (a.add x.length) y):q3p p a (x++y):=λj v hj=>by
 by_cases hx:j<x.length
 ·rw[List.getElem?_append_left hx]at hj;exact h1 j v hj
 ·rw[List.getElem?_append_right (by omega)]at hj
  have:=h2 _ v hj
  rw[Addr.add_add,show x.length+(j- x.length)=j by omega]at this;exact this
def z6p{α:Type} {f:α->List Value} {p:Pub} {k:Nat}:∀(l:List α) (a:Addr),(∀g∈l,(f g).length=k)->(∀(i:Nat) (h:i<l.length),q3p p (a.add (i*k)) (f l[i]))->q3p p a (z00 f l)
  | [],a,_,_=>λj v hj=>by simp[z00]at hj
  | g::l,a,hf,h=>by
    have h0:=h 0 (by simp)
    have e:a.add (0*k)=a:=by unfold Addr.add;rw[if_pos (by omega)]
    rw[e]at h0
    show q3p p a (f g++z00 f l)
    refine zae h0 ?_
    rw[hf g List.mem_cons_self]
    refine z6p l (a.add k) (λg hg=>hf g (List.mem_cons_of_mem _ hg)) λi hi=> ?_
    have:=h (i+1) (by simp;omega)
    rw[Addr.add_add,show k+i*k=(i+1)*k by rw[Nat.succ_mul];omega]
    simpa using this
def zol{f:Nat} {C:Ct} (h:q5k P f C) (s:C.σ) (vs:List Value) (ha:∀I,VRs I (C.args s) vs) (hh:C.h s=[]) (r:Value) (hr:C.r s= .sv r) (w:World) (hp:C.pre s) (hm:(C.mem s).ok (j3e w)):
  Calls P f ⟨vs⟩ w λe w'=>e= .returned r/\Below w.heap.size w w':=by
 obtain⟨h1,h2,_,h4⟩:=h
 obtain⟨h0,h1',e1,e2,h5⟩:=h4 s
 rw[hh]at e1
 cases e1
 refine(h5 (λ_ b=>b<w.heap.size) (λi=>if i=0 then some (0,0,0)else none) w vs (ha _) ⟨λid o b t h=> ?_,λid id' o o' b t t' h=> ?_,λid o b t h=> ?_⟩ (λ_ h=>h) (λ_ h=>h) hp hm (λi hi=>if_neg (by omega)) (if_pos rfl)).mono λe w' he=> ?_
 ·rw[T.get_e]at h;cases h
 ·rw[T.get_e]at h;cases h
 ·rw[T.get_e]at h;cases h
 obtain⟨z,I',rfl,hz,hg,_⟩:=he
 rw[hr]at hz
 cases hz
 exact⟨rfl,⟨hg.same.1,hg.same.2,hg.same.3,hg.size,λk hk=>hg.fr k hk⟩⟩
def znc(w:World) (a:Option Addr) (len cap:Nat) (z:List Int):Prop:=(a=none/\len=0/\cap=0/\z=[])\/∃x,a=some x/\len<=cap/\cap<=maxLen/\z.length=cap/\(∀i,i<z.length->w.cell? (x.add i)=some (.int .u8 (z.getD i 0)))/\∀n∈z,(Lit.int .u8 n).wf=true
def zmo{a:Option Addr} {len cap:Nat} {z:List Int} (h:znc w a len cap z):∃L:List Int,slP byV (a,len,cap) L (j3e w)/\L.length<9223372036854775808/\∀b∈L,0<=b/\b<256:=by
  rcases h with⟨rfl,rfl,rfl,rfl⟩|⟨x,rfl,hl,hm,hz,hc,hw⟩
  · exact⟨[],⟨rfl,Nat.le_refl _, .inl ⟨rfl,trivial⟩⟩,by simp,λb hb=>by cases hb⟩
  have hlen:(z.take len).length=len:=by rw[List.length_take];omega
  have hat:∀(i:Nat) (hi:i<(z.take len).length),w.cell? (x.add i)=some (.int .u8 (z.take len)[i]):=λi hi=>by
    have hiz:i<z.length:=by omega
    have:=hc i hiz
    rw[List.getD_eq_getElem?_getD,List.getElem?_eq_getElem hiz]at this
    simpa using this
  refine⟨z.take len,⟨hlen.symm,hl,?_⟩,by unfold maxLen at hm;omega,λb hb=> ?_⟩
  · by_cases h0:z.take len=[]
    · rw[h0];exact .inl ⟨rfl,trivial⟩
    · have hpos:0<(z.take len).length:=List.length_pos_iff.2 h0
      have e0:x.add 0=x:=by unfold Addr.add;rw[if_pos rfl]
      have hp0:=z92 (hat 0 hpos)
      rw[e0]at hp0
      refine .inr ⟨x,rfl,hp0.2,z6p (k:=1) _ x (λg _=>rfl) λi hi j v hj=> ?_⟩
      cases j with
      |succ j=>simp[byV]at hj
      | zero=>
        have:=(z92 (hat i hi)).1
        rw[Addr.add_add,show i*1+0=i by omega,this,←hj];rfl
  · have hw:=hw b (List.mem_of_mem_take hb)
    simp only[Lit.wf,Bool.and_eq_true,decide_eq_true_eq]at hw
    have h1:IntKind.min .u8=0:=by decide
    have h2:IntKind.max .u8=255:=by decide
    omega
end
def zhk:q5k P 4 zm4:=by
 refine qlc mixed (qee (qih za9 (qih zhu (qih zgk qlq)))) (qf7 (qig znk qlp)) (W:=zmx) Go.Proofs.Tryz.func4 (by kernel_rfl) (show 1<=1 by decide) (show 1<=1 by decide) (λs=>by kernel_rfl) λ⟨(x:SV),L,(y:SV),D,(t:Int)⟩=>(zhj x L y D t).mpr ?_
 rintro⟨hL,hLb⟩ ⟨p,_,hx,hyl,hy⟩
 have hxl:x.2.1=L.length:=hx.1
 simp only[sbS,exists_const,forall_const,Int.toNat_natCast,hxl,hyl]
 refineλh120 h60=>⟨x,rfl,hxl,rfl,⟨x,L,0⟩,rfl,rfl,rfl,rfl,⟨by show(0:Int)<=0;decide,by show(0:Int)<=(L.length:Int);omega,by omega,hLb⟩,λq hq=>hq.1,?_⟩
 rintro⟨S,z,b,n'⟩ ⟨hS,hne, -, -⟩ ⟨p2,hp2,hz⟩
 have hD:D.size<100000:=by omega
 intro hb
 refine⟨⟨(0,S,z),rfl,rfl,rfl,rfl,λq hq=>hq.2,hS,Nat.zero_le _⟩,?_⟩
 rintro⟨j,T,v⟩ ⟨hT,hj⟩ ⟨p3,hp3,hv⟩
 have hvl:v.2.1=T.length:=hv.1.1
 simp only[hvl]
 have hok:=zoa hT
 have hj:j<=T.length:=hj
 have hT:z0w T:=hT
 have hT60:=hT.1
 have hmem:∀q,((slP byV x L q/\qil q y.1 D.size y.2.2 (q1h D))/\z09 S z q)/\z09 T v q->z09 T v q/\y.2.1=D.size/\qil q y.1 y.2.1 y.2.2 (q1h D):=λq hq=>⟨hq.2,hyl,by rw[hyl];exact hq.1.1.2⟩
 refine⟨λhlt=>⟨⟨T,v,(j:Nat),y,D⟩,rfl,hvl,rfl,rfl,rfl,hyl,rfl,⟨hok,hD⟩,hmem,⟨by omega,by omega⟩,⟨j+1,T,v⟩,by show((j+1:Nat):Int)=_;omega,rfl,hvl,rfl,λq hq=>hq.1,λq hq=>hq.2,⟨hT,by show j+1<=T.length;omega⟩,by show T.length- (j+1)<T.length- j;omega⟩,λ_=>⟨⟨T,v,t,y,D⟩,rfl,hvl,rfl,rfl,rfl,hyl,rfl,⟨hok,hD⟩,hmem⟩⟩
def zwg:∀{L:List Int},(∀b∈L,0<=b/\b<256)->z00 byV L=q1h (mkS (L.map Int.toNat))/\(mkS (L.map Int.toNat)).size=L.length
  | [],_=>⟨rfl,rfl⟩
  | b::l,h=>by
    obtain⟨i1,i2⟩:=zwg (L:=l) λx hx=>h x (List.mem_cons_of_mem _ hx)
    obtain⟨h0,h1⟩:=h b List.mem_cons_self
    refine⟨?_,by rw[q0l];simp⟩
    rw[z00,i1]
    unfold q1h mkS byV
    simp
    omega
def adecAny_law_wf(a0:Option Addr) (len0 cap0:Nat) (z0:List Int) (a1:Option Addr) (len1 cap1:Nat) (z1:List Int) (a2:Int) (w:World) (w0:znc w a0 len0 cap0 z0) (w1:znc w a1 len1 cap1 z1) (w2:(Lit.int .i64 a2).wf=true):Calls P 4 #[.slice a0 len0 cap0, .slice a1 len1 cap1, .int .i64 a2] w λe w'=>e= .returned (.bool true)/\Below w.heap.size w w':=by
 obtain⟨L,hx,hL⟩:=zmo w0
 obtain⟨M,hy,hM⟩:=zmo w1
 obtain⟨e1,e2⟩:=zwg hM.2
 have hy2:len1=M.length:=hy.1
 have hy3:=hy.2
 rw[e1]at hy3
 exact zol zhk ⟨(a0,len0,cap0),L,(a1,len1,cap1),mkS (M.map Int.toNat),a2⟩ [.slice a0 len0 cap0, .slice a1 len1 cap1, .int .i64 a2] (λI=> .cons (.sv _) (.cons (.sv _) (.cons (.sv _) .nil))) rfl (.bool true) rfl w hL ⟨hx,by show len1=_;rw[hy2,e2],hy3⟩
end
end Go.Proofs.YtniogjgfomaicaaGreat.Wd
