/-
  What the functions do: contracts, and their questions answered. No condition but what its theorems ask.
-/
import Derived.Test.YtpdddmchffpcfaaT2
import Derived.WalkKit
import Derived.ProofKit
import Derived.OpenShut
import Derived.ShutString
import Derived.ChangeOld
import Derived.Lib.SmallJoins
namespace Go.Proofs.Ytpdddmchffpcfaa.Wd
open Go.Proofs.Ytpdddmchffpcfaa.Eng Go.Proofs.Ytpdddmchffpcfaa.Sen Go.RowKit
set_option linter.defProp false
set_option linter.unusedVariables false
set_option linter.unusedSimpArgs false
set_option maxRecDepth 1000000
open Go.Value (int string slice bool)
open Go.IntKind (i64 u64 u8 u32 i32)
open _root_.List (length take drop)
open _root_.ByteArray (size)
open _root_.Int (toNat)
noncomputable section
def z6o:∀{l m:List GJ} {p:Pub},GJ.oks l p->GJ.oks m p->GJ.oks (l++m) p
  | [],m,p,h1,h2=>h2
  | g::l,m,p,h1,h2=>by
    rw[GJ.oks]at h1
    exact z02 h1.1 (z6o h1.2 h2)
def z6q:∀{l m:List GJ},GJ.wfs l->GJ.wfs m->GJ.wfs (l++m)
  | [],m,h1,h2=>h2
  | g::l,m,h1,h2=>by
    rw[GJ.wfs]at h1
    exact z03 h1.1 (z6q h1.2 h2)
def zbk(c:Nat) (ht:q1v P 52 (z3z.below z42 c)):q1v P 29 (z1e.below zjo (c+1)):=by
 refine qkh mixed (qdw (qhr z7z (qhr z4y (qhr z86 (qhr zix qkx))))) (qen (qhq ht qkw)) (W:=z8g) Try.func29 (by kernel_rfl) (show 1<=5 by decide) (show 5<=7 by decide) (λs=>by kernel_rfl) λ⟨s,(x:SV),(L:List Int),(n:Int),(d:Int),N⟩=>(zk1 c s x L n d N).mpr ?_
 rintro⟨hmu,hss,hn0,hn1,hL,hd0,hd1,hN,hNs⟩ ⟨p,_,hp⟩
 have hmu:(10- d).toNat<c+1:=hmu
 simp only[sbS,Int.toNat_natCast,exists_const]
 have nb:=z1g hn1
 have hLl:=hL.1
 have hr5:=z19 (n:=n) (m:=5) hL (by omega)
 refine⟨L,⟨hn0,hn1,by omega,by omega,hL⟩,λq hq=>hq,⟨⟨0,z06 L n,N,[]⟩,rfl,rfl,rfl,rfl,rfl,λq hq=>z0m,by omega,by omega,by omega,rfl,z0n,nb.1,nb.2.1,Nat.le_refl _,by omega,hNs⟩,?_⟩
 rintro⟨i,n1,N1,fs⟩ ⟨i0,i1,i2,hfl,hfw,q1,q2,q3,q4,q5⟩ _
 simp only at i0 i1 i2 hfl hfw q1 q2 q3 q4 q5⊢
 refine⟨λhlt=>⟨by omega,⟨x,L,n1,d+1,N1⟩,rfl,rfl,rfl,rfl,rfl,rfl,rfl,⟨?_,by omega,q2,hL,by omega,by omega,by omega,q5⟩,λq hq=>hq.1,?_⟩,λhge=> ?_⟩
 ·show(10- (d+1)).toNat<c;omega
 ·rintro⟨g,n2,N2⟩ ⟨hw,p1,p2,p3,p4,p5⟩ _
  simp only at p1 p2 p3 p4
  have hr3:=z19 (n:=n2) (m:=3) hL (by omega)
  have nb2:=z1g p2
  have dfb:=ziv (g:=g) (L:=L) (n:=z06 L n2) hL nb2.2.1
  obtain⟨e,rfl⟩:=Int.eq_ofNat_of_zero_le i0
  have hz:(mkS [97+e]).size=1:=rfl
  have hsz:(mkS [102]++mkS [97+e]).size=2:=by rw[ByteArray.size_append,hz];rfl
  refine⟨by omega,mkS [97+e],rfl,?_,by rw[hz];decide,L,⟨by show 0<=n2;omega,p2,by omega,by omega,hL⟩,λq hq=>hq.1.1,λh0=>⟨by decide,⟨L,g⟩,rfl,rfl,rfl,rfl,rfl,rfl,rfl,rfl,rfl,⟨by show 0<=z06 L n2;omega,nb2.2.1,hL,hw⟩,λq hq=>⟨hq.1.1,hq.2⟩,by decide,λ_ _ _ a _ cc _ _ _ _ a2 _ cc2 _=>⟨z01 z2o fs,by omega,by omega,⟨(e:Int)+1,(z20 g L (z06 L n2)).2.2.2,N2,fs++[tbJ (a,3,cc) [leaf 4 0 (mkS [102]++mkS [97+e]),g,leaf (z20 g L (z06 L n2)).1 (z20 g L (z06 L n2)).2.1 (z20 g L (z06 L n2)).2.2.1] (a2,3,cc2) [mkS [110,97,109,101],mkS [116,121,112,101],mkS [100,101,102,97,117,108,116]]]⟩,rfl,rfl,rfl,rfl,rfl,?_,rfl,rfl,by simp,λq hq=>hq.1.1.1.1,λq hq=> ?_,?_,?_⟩⟩,λh0 b3 s3 _ _ b4 s4 _ _=>⟨z01 z2o fs,by omega,by omega,⟨(e:Int)+1,z06 L n2,N2,fs++[tbJ (some ⟨b3,s3+0,none⟩,2,2) [leaf 4 0 (mkS [102]++mkS [97+e]),g] (some ⟨b4,s4+0,none⟩,2,2) [mkS [110,97,109,101],mkS [116,121,112,101]]]⟩,rfl,rfl,rfl,rfl,rfl,?_,rfl,rfl,by simp,λq hq=>hq.1.1.1.1,λq hq=> ?_,?_,?_⟩⟩
  ·intro j v hj
   rw[zho _ (by omega)]at hj
   rw[show IntKind.wrap .u8 (97+(e:Int))=((97+e:Nat):Int)by rw[zg0];omega,Nat.zero_add];exact hj
  ·rw[z05];rfl
  ·exact z6o hq.1.1.1.2 (z02 (z2r (z2q rfl hq.1.2) (z2q rfl hq.2) (z02 z07 (z02 hq.1.1.2 (z02 z07 z0m)))) z0m)
  ·refine⟨by omega,by omega,i2,by rw[List.length_append];show((fs.length+1:Nat):Int)=_;omega,z6q hfw (z03 (z2s (by simp) rfl (by decide) (z03 (z08 (by omega) (by omega) (by omega)) (z03 hw (z03 (z08 (by omega) (by omega) (by omega)) z0n)))) z0n),by omega,dfb.1.2,by omega,by omega,p5⟩
  ·show(z0r L n 5- ((e:Int)+1)).toNat<_;omega
  ·rw[z05];rfl
  ·exact z6o hq.1.1.1.2 (z02 (z2r (z0k rfl (Nat.le_refl _) hq.1.2) (z0k rfl (Nat.le_refl _) hq.2) (z02 z07 (z02 hq.1.1.2 z0m))) z0m)
  ·refine⟨by omega,by omega,i2,by rw[List.length_append];show((fs.length+1:Nat):Int)=_;omega,z6q hfw (z03 (z2s (by simp) rfl (by decide) (z03 (z08 (by omega) (by omega) (by omega)) (z03 hw z0n))) z0n),by omega,nb2.2.1,by omega,by omega,p5⟩
  ·show(z0r L n 5- ((e:Int)+1)).toNat<_;omega
 ·intro _ _ _ a _ cc _ b3 s3 _ _ b4 s4 _ _
  refine⟨⟨tbJ (some ⟨b3,s3+0,none⟩,4,4) [leaf 4 0 (mkS [114,101,99,111,114,100]),leaf 4 0 s,leaf 4 0 (mkS [115]),lsJ (a,fs.length,cc) fs] (some ⟨b4,s4+0,none⟩,4,4) [mkS [116,121,112,101],mkS [110,97,109,101],mkS [110,97,109,101,115,112,97,99,101],mkS [102,105,101,108,100,115]],n1,N1⟩,rfl,rfl,rfl,rfl,rfl,rfl,rfl,rfl,rfl,rfl,rfl,rfl,⟨?_,q1,q2,q3,q4,q5⟩,λq hq=> ?_⟩
  ·exact z2s (by simp) rfl (by decide) (z03 (z08 (by decide) (by omega) (by omega)) (z03 (z08 (by omega) (by omega) (by omega)) (z03 (z08 (by decide) (by omega) (by omega)) (z03 (z3n (by omega) hfw) z0n))))
  ·have e1:List.take (fs.length*5) (z00 GJ.cells fs)=z00 GJ.cells fs:=List.take_of_length_le (by rw[z01 z2o];exact Nat.le_refl _)
   have e2:=hq.1.1.2
   rw[e1]at e2
   exact z2r (z0k rfl (Nat.le_refl _) hq.1.2) (z0k rfl (Nat.le_refl _) hq.2) (z02 z07 (z02 z07 (z02 z07 (z02 (z3m (z2q rfl e2) hq.1.1.1.2) z0m))))
def z26:∀c,q1v P 52 (z3z.below z42 c)/\q1v P 29 (z1e.below zjo c)
 |0=>⟨CtR.below_zero (by decide) (by decide) (Sen.enters_of Try.func52 (by kernel_rfl)) λs=>rfl,CtR.below_zero (by decide) (by decide) (Sen.enters_of Try.func29 (by kernel_rfl)) λs=>rfl⟩
 |c+1=>⟨zkg c (z26 c).1 (zft c (z26 c).1) (zbk c (z26 c).1),zbk c (z26 c).1⟩
def zf9:q1v P 29 z1e:=CtR.of_below λc=>(z26 c).2
def z6g:CtR:=ctN (List AT×SV×Int×GJ) (λ⟨S,x,t,g⟩=>[scA x, .sv (.int .i64 t),g.av]) (λ⟨S,x,t,g⟩=>z0c S/\g.wf) (λ⟨S,x,t,g⟩=>sgM S x g) (Int×GV) (λ_ _=>True) (λ_ ⟨e,v⟩=>vM v) λ_ ⟨e,v⟩=> .tup [v.av, .sv (.int .i64 e)]
def sM(S:List AT) (x:SV):PF:=⟨true,z09 S x,λ_ _ h e=>z0t h e⟩
def z4o:CtR:=ctN (List AT×SV) (λ⟨S,x⟩=>[scA x]) (λ⟨S,x⟩=>z0c S) (λ⟨S,x⟩=>sM S x) (Int×Int×Int) (λ_ _=>True) (λ_ _=>{}) λ_ ⟨e,t,i⟩=> .tup [.sv (.int .i64 e), .sv (.int .i64 t), .sv (.int .i64 i)]
def zcb:z4o.σ->WayF:=λ⟨S,x⟩=>{
 ann:=λid t _=>match id with
  |0=>some {σ:=Nat,pre:=λj=>j<=S.length,t:=λj=>[(5, .sv (.int .i64 (j:Int)))],h:=λ_=>[],more:=0,μ:=λj=>S.length- j,keep:=[1]}
  |_=>some {σ:=Nat,t:=λk=>[(6, .sv (.int .i64 (k:Int)))],h:=λ_=>[],more:=0,μ:=λk=>100- k,keep:=[1,5]}}
abbrev RcS:=SV×List Int×Int
def z92:RcS->Prop:=λ⟨x,L,n⟩=>0<=n/\n<=L.length/\z0p L
def z4q:CtR where
 σ:=RcS
 args:=λ⟨x,L,n⟩=>[.ptr 1 0]
 h:=λ⟨x,L,n⟩=>pkO x n
 m:=2
 pre:=z92
 mem:=λ⟨x,L,n⟩=>byM x L
 β:=λ_=>GJ×Int
 post:=λ⟨x,L,n⟩ ⟨g,n'⟩=>g.wf/\n<=n'/\n'<=L.length
 pm:=λ_ ⟨g,n'⟩=>gM g
 r:=λ_ ⟨g,n'⟩=>g.av
 h':=λ⟨x,L,n⟩ ⟨g,n'⟩=>pkO x n'
 m':=2
def ziq:CtR where
 σ:=RcS
 args:=λ⟨x,L,n⟩=>[.ptr 1 0]
 h:=λ⟨x,L,n⟩=>pkO x n
 m:=2
 pre:=z92
 mem:=λ⟨x,L,n⟩=>byM x L
 β:=λ_=>List AT×SV×Bool×Int
 post:=λ⟨x,L,n⟩ ⟨S,y,b,n'⟩=>z0c S/\(b=true->S≠[])/\n<=n'/\n'<=L.length
 pm:=λ_ ⟨S,y,b,n'⟩=>sM S y
 r:=λ_ ⟨S,y,b,n'⟩=> .tup [scA y, .sv (.bool b)]
 h':=λ⟨x,L,n⟩ ⟨S,y,b,n'⟩=>pkO x n'
 m':=2
def z39:Ct:=ctP Unit (λ_=>[]) (λ_=>True) (λ_=>{}) λ_=> .sv (.bool true)
def z8c:z39.σ->WayF:=λ_=>{pub:=λi k=>match i,k with
 |1,2=>[8]
 |1,5=>[11]
 |_,_=>[]}
def z6f:Ct where
 σ:=SV
 args:=λx=>[svA x]
 h:=λ_=>[]
 m:=1
 r:=λ_=> .ptr 1 0
 h':=λx=>pkO x 0
 m':=2
 g:=λ_=>none
def zxd(L:List Int):Prop:=L.length<9223372036854775808/\∀b∈L,0<=b/\b<256
def zir:Ct:=ctP (SV×List Int) (λ⟨x,L⟩=>[svA x]) (λ⟨x,L⟩=>zxd L) (λ⟨x,L⟩=>byM x L) λ_=> .sv (.bool true)
def lbM(S:List AT) (y:SV) (bs:List Bool) (z:SV):PF:=⟨true,λp=>z09 S y p/\slP boV z bs p,λ_ _ h e=>⟨z0t h e.1,z0a h e.2⟩⟩
def lbI(S:List AT) (bs:List Bool) (i:Nat):Prop:=z0c S/\i<=S.length/\bs.length=S.length/\∃l,rkE S l/\hasB l bs S.length
def zq7:zir.σ->WayF:=λ⟨x,L⟩=>{
 ann:=λ_ tt _=>match zvf tt 3 with
  |some kb=>some {σ:=Nat×List AT×SV×List Bool×SV,pre:=λ⟨i,S,y,bs,z⟩=>lbI S bs i,mem:=λ⟨i,S,y,bs,z⟩=>lbM S y bs z,t:=λ⟨i,S,y,bs,z⟩=>[(6, .sv (.int .i64 (i:Nat))),(5,svA z)],h:=λ⟨i,S,y,bs,z⟩=>[(kb, .cells 26 (some 0) false [svA y])],more:=0,μ:=λ⟨i,S,y,bs,z⟩=>S.length- i,keep:=[0,3]}
  |none=>none}
def zb4(x:SV):qla P (λ_=>none) Try.f6 z6f (λ_=>{}) x=(True->Prod.fst x=Prod.fst x/\Prod.fst (Prod.snd x)=Prod.fst (Prod.snd x)/\Prod.snd (Prod.snd x)=Prod.snd (Prod.snd x)/\(0:Int)=(0:Int)/\True):=by kernel_rfl
section
variable (x0:Nat->Option Obj) (x1 x2 x3 x4:Nat) (x5:List Bool×Option Addr×Nat×Nat) (x6 x7:GV×Bool) (x8:List AT×(Option Addr×Nat×Nat)×Int) (x9:Int) (x10:Prop)
 abbrev zx3:=(True/\∀(i0:Nat) (i1:Value),[string (mkS [97]),slice noA 0 0,int i64 0,bool false,int i64 0,int i64 0,string (mkS []),slice noA 0 0,slice noA 0 0][i0]? =some i1->q6f x0 (Addr.add (Addr.mk x1 x2 none) i0)=some i1)
 def zhk:=zx3 x0 x1 x2/\∀(i2:Nat) (i3:Value),[int i64 9,string (mkS [82]),slice noA 0 0,int i64 0,slice noA 0 0,bool false,string (mkS []),int i64 0,slice (some (Addr.mk x1 (x2+nat_lit 0) none)) (nat_lit 1) (nat_lit 1),slice noA 0 0,int i64 3,string (mkS []),slice noA 0 0,int i64 0,slice noA 0 0,bool false,string (mkS []),int i64 0,slice noA 0 0,slice noA 0 0][i2]? =some i3->q6f x0 (Addr.add (Addr.mk x3 x4 none) i2)=some i3
 def zx4:=x8.2.1.1=some (Addr.mk x1 (x2+nat_lit 0) none)/\x8.2.1.2.1=nat_lit 2/\x8.2.1.2.2=nat_lit 2/\x8.2.2=x9/\(z0c x8.1/\0<=x8.2.2/\x8.2.2<(↑(length x8.1):Int))/\x10
 def zx5:=(0<=x9/\x9<(↑x5.2.2.1:Int))/\x5.2.1≠noA/\x10
 def j5r:=(x6.2=true->true=decide (GV.n x6.1=0)/\True)/\(x6.2=false->true=false/\True)
 def j5q:=((!x6.2)=true->j5r x7)/\((!x6.2)=false->true=false/\True)
 def j5p:=zx5 x5 1 (∃(i0:Bool),(∀i1,(((zhk i1 x1 x2 x3 x4)/\slP boV x5.2 x5.1 i1)/\GV.ok x6.1 i1)/\GV.ok x7.1 i1->q3i i1 (adr x5.2.1 ((1:Nat)*1)) [bool i0])/\(i0=true->j5q x6 x7)/\(i0=false->true=false/\True))
 def j5o:=zx5 x5 0 (∃(i0:Bool),(∀i1,(((zhk i1 x1 x2 x3 x4)/\slP boV x5.2 x5.1 i1)/\GV.ok x6.1 i1)/\GV.ok x7.1 i1->q3i i1 (adr x5.2.1 ((0:Nat)*1)) [bool i0])/\((!i0)=true->j5p x1 x2 x3 x4 x5 x6 x7)/\((!i0)=false->true=false/\True))
 def j5n:=Ji ((↑x5.2.2.1:Int)=2) (j5o x1 x2 x3 x4 x5 x6 x7) (true=false/\True)
end
def z6b(u:Unit):qlc P (λ_=>none) (qhg [(8,zp8),(9,z5m)]) Try.f5 z39 (z8c) u=(True->∀(b s u:Nat),(∃(p:Pub),True/\q3i p (Addr.mk b s none) [string (mkS [97]),slice noA 0 0,int i64 0,bool false,int i64 0,int i64 0,string (mkS []),slice noA 0 0,slice noA 0 0])->∀(b_1 s_1 u:Nat),(∃(p:Pub),zx3 p b s/\q3i p (Addr.mk b_1 s_1 none) [int i64 9,string (mkS [82]),slice noA 0 0,int i64 0,slice noA 0 0,bool false,string (mkS []),int i64 0,slice (some (Addr.mk b (s+nat_lit 0) none)) (nat_lit 1) (nat_lit 1),slice noA 0 0,int i64 3,string (mkS []),slice noA 0 0,int i64 0,slice noA 0 0,bool false,string (mkS []),int i64 0,slice noA 0 0,slice noA 0 0])->∃(s_2:List AT×Option Addr×Nat×Nat),s_2.2.1=some (Addr.mk b_1 (s_1+nat_lit 0) none)/\s_2.2.2.1=nat_lit 2/\s_2.2.2.2=nat_lit 2/\z0c s_2.1/\(∀(p:Pub),(zhk p b s b_1 s_1)->z09 s_2.1 s_2.2 p)/\∀(b_2:List Bool×Option Addr×Nat×Nat),(length b_2.1=length s_2.1/\∃(l:List Int),rkE s_2.1 l/\hasB l b_2.1 (length s_2.1))->(∃(p:Pub),(zhk p b s b_1 s_1)/\slP boV b_2.2 b_2.1 p)->∃(s_3:List AT×(Option Addr×Nat×Nat)×Int),zx4 b_1 s_1 s_3 0 ((∀(p:Pub),(zhk p b s b_1 s_1)/\slP boV b_2.2 b_2.1 p->z09 s_3.1 s_3.2.1 p)/\∀(b_3:GV×Bool),leQ s_3.1 s_3.2.2 b_3.1 b_3.2->(∃(p:Pub),((zhk p b s b_1 s_1)/\slP boV b_2.2 b_2.1 p)/\GV.ok b_3.1 p)->∃(s_4:List AT×(Option Addr×Nat×Nat)×Int),zx4 b_1 s_1 s_4 1 ((∀(p:Pub),((zhk p b s b_1 s_1)/\slP boV b_2.2 b_2.1 p)/\GV.ok b_3.1 p->z09 s_4.1 s_4.2.1 p)/\∀(b_4:GV×Bool),leQ s_4.1 s_4.2.2 b_4.1 b_4.2->(∃(p:Pub),(((zhk p b s b_1 s_1)/\slP boV b_2.2 b_2.1 p)/\GV.ok b_3.1 p)/\GV.ok b_4.1 p)->j5n b s b_1 s_1 b_2 b_3 b_4))):=by kernel_rfl
def z8k:=λu=>Eq.trans (z6b u) (by delta Ji Jt Jf zx3 zhk zx4 zx5 j5r j5q j5p j5o j5n;exact rfl)
section
variable (x0:SV) (x1:List Int) (x2:List AT×(Option Addr×Nat×Nat)×Bool×Int) (x3:List Bool×Option Addr×Nat×Nat) (x4:Nat×List AT×(Option Addr×Nat×Nat)×List Bool×Option Addr×Nat×Nat) (x5:GV×Bool) (x6:Nat->Option Obj) (x7:Prop)
 abbrev z7c:=((True/\slP byV x0 x1 x6)/\z09 x2.1 x2.2.1 x6)/\slP boV x3.2 x3.1 x6
 def zom:=x0.1=x0.1/\x0.2.1=x0.2.1/\x0.2.2=x0.2.2/\x7
 def zhl:=z09 x4.2.1 x4.2.2.1 x6/\slP boV x4.2.2.2.2 x4.2.2.2.1 x6
 def zik:=(z7c x0 x1 x2 x3 x6)/\zhl x4 x6
 abbrev zon:=(↑x4.1:Int)<(↑x4.2.2.2.2.2.1:Int)
 def zx6:=Jb ((↑x4.1:Int)+1)/\∃(i0:Nat×List AT×(Option Addr×Nat×Nat)×List Bool×Option Addr×Nat×Nat),zom x0 (i0.2.2.2.2.1=x4.2.2.2.2.1/\i0.2.2.2.2.2.1=x4.2.2.2.2.2.1/\i0.2.2.2.2.2.2=x4.2.2.2.2.2.2/\(↑i0.1:Int)=(↑x4.1:Int)+1/\i0.2.2.1.1=x4.2.2.1.1/\i0.2.2.1.2.1=x4.2.2.1.2.1/\i0.2.2.1.2.2=x4.2.2.1.2.2/\(∀i1,(zik x0 x1 x2 x3 x4 i1)/\GV.ok x5.1 i1->z7c x0 x1 x2 x3 i1)/\(∀i2,(zik x0 x1 x2 x3 x4 i2)/\GV.ok x5.1 i2->zhl i0 i2)/\lbI i0.2.1 i0.2.2.2.1 i0.1/\length i0.2.1- i0.1<length x4.2.1- x4.1/\True)
 def zud:=Ji (0<(↑(GV.x x5.1).2.1:Int)) (true=false/\True) (zx6 x0 x1 x2 x3 x4 x5)
 def zx7:=((!x5.2)=true->zud x0 x1 x2 x3 x4 x5)/\((!x5.2)=false->zx6 x0 x1 x2 x3 x4 x5)
 def j5y:=(0<=(↑x4.1:Int)/\zon x4)/\x4.2.2.2.2.1≠noA/\∃(i0:Bool),(∀i1,(zik x0 x1 x2 x3 x4 i1)/\GV.ok x5.1 i1->q3i i1 (adr x4.2.2.2.2.1 (toNat (↑x4.1:Int)*1)) [bool i0])/\((!i0)=true->true=false/\True)/\((!i0)=false->∃(i2:FtS),i2.2.1.1=x4.2.2.1.1/\i2.2.1.2.1=x4.2.2.1.2.1/\i2.2.1.2.2=x4.2.2.1.2.2/\i2.2.2.1=(↑x4.1:Int)/\GV.n i2.2.2.2=GV.n x5.1/\GV.s i2.2.2.2=GV.s x5.1/\(GV.x i2.2.2.2).1=(GV.x x5.1).1/\(GV.x i2.2.2.2).2.1=(GV.x x5.1).2.1/\(GV.x i2.2.2.2).2.2=(GV.x x5.1).2.2/\(GV.y i2.2.2.2).1=(GV.y x5.1).1/\(GV.y i2.2.2.2).2.1=(GV.y x5.1).2.1/\(GV.y i2.2.2.2).2.2=(GV.y x5.1).2.2/\GV.b i2.2.2.2=GV.b x5.1/\(small i2.1/\z1n i2.1/\PV.sm (GV.pv i2.2.2.2))/\(∀i3,(zik x0 x1 x2 x3 x4 i3)/\GV.ok x5.1 i3->z09 i2.1 i2.2.1 i3/\GV.ok i2.2.2.2 i3)/\((!PV.fits i2.1 i2.2.2.1 (GV.pv i2.2.2.2))=true->true=false/\True)/\((!PV.fits i2.1 i2.2.2.1 (GV.pv i2.2.2.2))=false->zx7 x0 x1 x2 x3 x4 x5))
 def j5x:=(x5.2=true->j5y x0 x1 x2 x3 x4 x5)/\(x5.2=false->zx7 x0 x1 x2 x3 x4 x5)
 def j5w:=Ji (zon x4) (∃(i0:List AT×(Option Addr×Nat×Nat)×Int),i0.2.1.1=x4.2.2.1.1/\i0.2.1.2.1=x4.2.2.1.2.1/\i0.2.1.2.2=x4.2.2.1.2.2/\i0.2.2=(↑x4.1:Int)/\(z0c i0.1/\0<=i0.2.2/\i0.2.2<(↑(length i0.1):Int))/\(∀i1,zik x0 x1 x2 x3 x4 i1->z09 i0.1 i0.2.1 i1)/\∀(i2:GV×Bool),leQ i0.1 i0.2.2 i2.1 i2.2->(∃i3,(zik x0 x1 x2 x3 x4 i3)/\GV.ok i2.1 i3)->j5x x0 x1 x2 x3 x4 i2) (true=true/\True)
 def j5v:=(∃(i0:Nat×List AT×(Option Addr×Nat×Nat)×List Bool×Option Addr×Nat×Nat),zom x0 (i0.2.2.2.2.1=x3.2.1/\i0.2.2.2.2.2.1=x3.2.2.1/\i0.2.2.2.2.2.2=x3.2.2.2/\(↑i0.1:Int)=0/\i0.2.2.1.1=x2.2.1.1/\i0.2.2.1.2.1=x2.2.1.2.1/\i0.2.2.1.2.2=x2.2.1.2.2/\(∀i1,z7c x0 x1 x2 x3 i1->z7c x0 x1 x2 x3 i1)/\(∀i2,z7c x0 x1 x2 x3 i2->zhl i0 i2)/\lbI i0.2.1 i0.2.2.2.1 i0.1/\True))/\∀(i3:Nat×List AT×(Option Addr×Nat×Nat)×List Bool×Option Addr×Nat×Nat),lbI i3.2.1 i3.2.2.2.1 i3.1->(∃i4,zik x0 x1 x2 x3 i3 i4)->j5w x0 x1 x2 x3 i3
 def j5u:=((!decide ((↑x3.2.2.1:Int)=(↑x2.2.1.2.1:Int)))=true->true=false/\True)/\((!decide ((↑x3.2.2.1:Int)=(↑x2.2.1.2.1:Int)))=false->j5v x0 x1 x2 x3)
 def j5t:=((!x2.2.2.1)=true->true=true/\True)/\((!x2.2.2.1)=false->∃(i0:List AT×Option Addr×Nat×Nat),i0.2.1=x2.2.1.1/\i0.2.2.1=x2.2.1.2.1/\i0.2.2.2=x2.2.1.2.2/\z0c i0.1/\(∀i1,(True/\slP byV x0 x1 i1)/\z09 x2.1 x2.2.1 i1->z09 i0.1 i0.2 i1)/\∀(i2:List Bool×Option Addr×Nat×Nat),(length i2.1=length i0.1/\∃(i3:List Int),rkE i0.1 i3/\hasB i3 i2.1 (length i0.1))->(∃i4,z7c x0 x1 x2 i2 i4)->j5u x0 x1 x2 i2)
 def j5s:=Ji (120<(↑x0.2.1:Int)) (true=true/\True) (∃(i0:Option Addr×Nat×Nat),i0.1=x0.1/\i0.2.1=x0.2.1/\i0.2.2=x0.2.2/\True/\∃(i1:RcS),i1.1.1=i0.1/\i1.1.2.1=i0.2.1/\i1.1.2.2=i0.2.2/\i1.2.2=0/\z92 i1/\(∀i2,True/\slP byV x0 x1 i2->slP byV i1.1 i1.2.1 i2)/\∀(i3:List AT×(Option Addr×Nat×Nat)×Bool×Int),z0c i3.1/\(i3.2.2.1=true->i3.1≠[])/\i1.2.2<=i3.2.2.2/\i3.2.2.2<=(↑(length i1.2.1):Int)->(∃i4,(True/\slP byV x0 x1 i4)/\z09 i3.1 i3.2.1 i4)->j5t x0 x1 i3)
end
def zem(x:SV) (L:List Int):qlc P (qgc [(5,z39),(6,z6f),(10,z3j)]) (qhg [(7,ziq),(8,zp8),(9,z5m)]) Try.f3 zir (zq7) ⟨x,L⟩=(zxd L->(∃(p:Pub),True/\slP byV x L p)->∃(s:Unit),True/\((!true)=true->true=false/\True)/\((!true)=false->j5s x L)):=by kernel_rfl
def zjd:=λx L=>Eq.trans (zem x L) (by delta Ji Jb Jt Jf z7c zom zhl zik zon zx6 zud zx7 j5y j5x j5w j5v j5u j5t j5s;exact rfl)
section
variable (x0:VlB) (x1:List AT) (x2:SV) (x3:GJ) (x4:Int×GV) (x5:Prop) (x6:(Option Addr×Nat×Nat)×Int)
 def zx9:= !(decide (0<=x6.2)&&decide (x6.2<(↑x6.1.2.1:Int)))
 def zx8:=GV.n x4.2=0/\GV.s x4.2=mkS []/\(GV.x x4.2).1=noA/\(GV.x x4.2).2.1=0/\(GV.x x4.2).2.2=0/\(GV.y x4.2).1=noA/\(GV.y x4.2).2.1=0/\(GV.y x4.2).2.2=0/\GV.b x4.2=0/\x5
 def j5z:=((!decide (x0.2.1=0))=true->∃(i0:Int×GV),zx8 i0 (i0.1=x0.2.1/\True/\(∀i1,(True/\z09 x1 x2 i1/\GJ.ok x3 i1)/\GV.ok x0.2.2 i1->GV.ok i0.2 i1)/\True))/\((!decide (x0.2.1=0))=false->∃(i2:Int×GV),GV.n i2.2=GV.n x0.2.2/\GV.s i2.2=GV.s x0.2.2/\(GV.x i2.2).1=(GV.x x0.2.2).1/\(GV.x i2.2).2.1=(GV.x x0.2.2).2.1/\(GV.x i2.2).2.2=(GV.x x0.2.2).2.2/\(GV.y i2.2).1=(GV.y x0.2.2).1/\(GV.y i2.2).2.1=(GV.y x0.2.2).2.1/\(GV.y i2.2).2.2=(GV.y x0.2.2).2.2/\GV.b i2.2=GV.b x0.2.2/\i2.1=0/\True/\(∀i3,(True/\z09 x1 x2 i3/\GJ.ok x3 i3)/\GV.ok x0.2.2 i3->GV.ok i2.2 i3)/\True)
end
def z97(S:List AT) (x:SV) (t:Int) (g:GJ):qlb P (qgc [(21,zug)]) (qhg [(56,cVl)]) Try.f30 z6g (λ_=>{}) ⟨S,x,t,g⟩=(z0c S/\GJ.wf g->(∃(p:Pub),True/\z09 S x p/\GJ.ok g p)->∃(s:(Option Addr×Nat×Nat)×Int),s.1.1=x.1/\s.1.2.1=x.2.1/\s.1.2.2=x.2.2/\s.2=t/\True/\((zx9 s)=true->∃(b:Int×GV),zx8 b (b.1=1/\True/\(∀(p:Pub),True/\z09 S x p/\GJ.ok g p->GV.ok b.2 p)/\True))/\((zx9 s)=false->∃(s:VlS),s.2.2.2.1=t/\GJ.k s.2.2.2.2.1=GJ.k g/\GJ.n s.2.2.2.2.1=GJ.n g/\GJ.s s.2.2.2.2.1=GJ.s g/\(GJ.y s.2.2.2.2.1).1=(GJ.y g).1/\(GJ.y s.2.2.2.2.1).2.1=(GJ.y g).2.1/\(GJ.y s.2.2.2.2.1).2.2=(GJ.y g).2.2/\(GJ.x s.2.2.2.2.1).1=(GJ.x g).1/\(GJ.x s.2.2.2.2.1).2.1=(GJ.x g).2.1/\(GJ.x s.2.2.2.2.1).2.2=(GJ.x g).2.2/\s.2.2.2.2.2=1/\s.2.1.1=x.1/\s.2.1.2.1=x.2.1/\s.2.1.2.2=x.2.2/\s.2.2.1=0/\(z0c s.1/\(0<=s.2.2.2.1/\s.2.2.2.1<(↑(length s.1):Int))/\GJ.wf s.2.2.2.2.1/\(0<=s.2.2.1/\s.2.2.1<=2000)/\1<=s.2.2.2.2.2/\s.2.2.2.2.2<=21)/\(∀(p:Pub),True/\z09 S x p/\GJ.ok g p->z09 s.1 s.2.1 p/\GJ.ok s.2.2.2.2.1 p)/\∀(b:VlB),z0l s.2.2.1 b->(∃(p:Pub),(True/\z09 S x p/\GJ.ok g p)/\GV.ok b.2.2 p)->j5z b S x g)):=by kernel_rfl
def zc6:=λS x t g=>Eq.trans (z97 S x t g) (by delta zx9 zx8 j5z;exact rfl)
section
variable (x0:SV) (x1:List AT) (x2 x3:Nat) (x4:Int×GV) (x5:Prop) (x6:Option Addr) (x7:Nat)
 abbrev zoo:=x0.1=x0.1/\x0.2.1=x0.2.1/\x0.2.2=x0.2.2/\x5
 def zue:=zoo x0 ((∀i0,True/\z09 x1 x0 i0->True/\z09 x1 x0 i0)/\x5)
 abbrev zhn:=(↑x2:Int)<(↑x0.2.1:Int)
 def zop:=(∀i0,True/\z09 x1 x0 i0->q3i i0 (Addr.add (adr x0.1 (toNat (↑x2:Int)*10)) 8) [slice x6 x3 x7])
 abbrev zhm:=Jb ((↑x2:Int)+1)
 def j68:=zhm x2/\∃(i0:Nat),(↑x3:Int)=(↑x3:Int)/\(↑i0:Int)=(↑x2:Int)+1/\zue x0 x1 (True/\(100:Nat)- i0<100- x2/\True)
 def j66:=zhm x2/\∃(i0:Nat),(↑x3:Int)=(↑x3:Int)/\(↑i0:Int)=(↑x2:Int)+1/\zoo x0 ((∀i1,(True/\z09 x1 x0 i1)/\GV.ok x4.2 i1->True/\z09 x1 x0 i1)/\True/\(100:Nat)- i0<100- x2/\True)
 def j65:=((!decide (x4.1=0))=true->∃(i0:Int×Int×Int),i0.1=x4.1/\i0.2.1=(↑x2:Int)/\i0.2.2=(↑x3:Int)/\True/\True)/\((!decide (x4.1=0))=false->j66 x0 x1 x3 x2 x4)
 def j64:=(0<=(↑x2:Int)/\zhn x0 x2)/\x0.1≠noA/\∃i0,∃(i1:Nat),∃(i2:Nat),zop x0 x1 x2 i1 i0 i2/\(0<=(↑x3:Int)/\(↑x3:Int)<(↑i1:Int))/\i0≠noA/\∃i4,∃i5,∃(i6:Nat),∃(i7:Nat),∃(i8:Int),∃(i9:Bool),∃(i10:Int),∃(i11:Int),∃i12,∃i13,∃(i14:Nat),∃(i15:Nat),∃i16,∃(i17:Nat),∃(i18:Nat),(∀i19,True/\z09 x1 x0 i19->q3i i19 (adr i0 (toNat (↑x3:Int)*9)) [string i4,slice i5 i6 i7,int i64 i8,bool i9,int i64 i10,int i64 i11,string i12,slice i13 i14 i15,slice i16 i17 i18])/\((!i9)=true->j68 x0 x1 x3 x2)/\((!i9)=false->∃(i22:List AT×(Option Addr×Nat×Nat)×Int×GJ),i22.2.1.1=x0.1/\i22.2.1.2.1=x0.2.1/\i22.2.1.2.2=x0.2.2/\i22.2.2.1=i8/\GJ.k i22.2.2.2=i10/\GJ.n i22.2.2.2=i11/\GJ.s i22.2.2.2=i12/\(GJ.y i22.2.2.2).1=i13/\(GJ.y i22.2.2.2).2.1=i14/\(GJ.y i22.2.2.2).2.2=i15/\(GJ.x i22.2.2.2).1=i16/\(GJ.x i22.2.2.2).2.1=i17/\(GJ.x i22.2.2.2).2.2=i18/\(z0c i22.1/\GJ.wf i22.2.2.2)/\(∀i23,True/\z09 x1 x0 i23->z09 i22.1 i22.2.1 i23/\GJ.ok i22.2.2.2 i23)/\∀(i24:Int×GV),True->(∃i25,(True/\z09 x1 x0 i25)/\GV.ok i24.2 i25)->j65 x0 x1 x2 x3 i24)
 def j67:=zhm x2/\∃(i0:Nat),(↑i0:Int)=(↑x2:Int)+1/\zue x0 x1 (i0<=length x1/\length x1- i0<length x1- x2/\True)
 def j63:=(0<=(↑x2:Int)/\zhn x0 x2)/\x0.1≠noA/\∃i0,∃(i1:Nat),∃(i2:Nat),zop x0 x1 x2 i1 i0 i2/\Ji ((↑x3:Int)<(↑i1:Int)) (j64 x0 x1 x2 x3) (j67 x0 x1 x2)
 def j62:=(∃(i0:Nat),(↑x2:Int)=(↑x2:Int)/\(↑i0:Int)=0/\zue x0 x1 (True/\True))/\∀(i2:Nat),True->j63 x0 x1 x2 i2
 def j61:=Ji (zhn x0 x2) (j62 x0 x1 x2) (∃(i38:Int×Int×Int),i38.1=0/\i38.2.1=0/\i38.2.2=0/\True/\True)
 def j60:=(∃(i0:Nat),(↑i0:Int)=0/\zue x0 x1 (i0<=length x1/\True))/\∀(i2:Nat),i2<=length x1->j61 x0 x1 i2
end
def z8p(S:List AT) (x:SV):qlb P (qgc []) (qhg [(30,z6g)]) Try.f16 z4o (zcb) ⟨S,x⟩=(z0c S->(∃(p:Pub),True/\z09 S x p)->j60 x S):=by kernel_rfl
def zaa:=λS x=>Eq.trans (z8p S x) (by delta Ji Jb Jt Jf zoo zue zhn zop zhm j68 j66 j65 j64 j67 j63 j62 j61 j60;exact rfl)
def z93(x:SV) (L:List Int) (n:Int):ql9 P (qgc []) (qhg [(29,z1e)]) Try.f15 z4q (λ_=>{}) ⟨x,L,n⟩=(z92 (x,L,n)->(∃(p:Pub),True/\slP byV x L p)->∃(s:ByteArray×TrS),s.1=mkS [84,111,112]/\s.2.2.2.2.1=0/\s.2.1.1=x.1/\s.2.1.2.1=x.2.1/\s.2.1.2.2=x.2.2/\s.2.2.2.1=n/\z00 txV s.2.2.2.2.2=[string (mkS [84,111,112])]/\length s.2.2.2.2.2=nat_lit 1/\(size s.1<100/\z2g 3 s.2)/\(∀(p:Pub),True/\slP byV x L p->slP byV s.2.1 s.2.2.1 p)/\∀(b:TrB),z0v s.2.2.1 s.2.2.2.1 s.2.2.2.2.2 b->(∃(p:Pub),(True/\slP byV x L p)/\GJ.ok b.1 p)->∃(b_1:GJ×Int),GJ.k b_1.1=GJ.k b.1/\GJ.n b_1.1=GJ.n b.1/\GJ.s b_1.1=GJ.s b.1/\(GJ.y b_1.1).1=(GJ.y b.1).1/\(GJ.y b_1.1).2.1=(GJ.y b.1).2.1/\(GJ.y b_1.1).2.2=(GJ.y b.1).2.2/\(GJ.x b_1.1).1=(GJ.x b.1).1/\(GJ.x b_1.1).2.1=(GJ.x b.1).2.1/\(GJ.x b_1.1).2.2=(GJ.x b.1).2.2/\x.1=s.2.1.1/\x.2.1=s.2.1.2.1/\x.2.2=s.2.1.2.2/\b_1.2=b.2.1/\(GJ.wf b_1.1/\n<=b_1.2/\b_1.2<=(↑(length L):Int))/\(∀(p:Pub),(True/\slP byV x L p)/\GJ.ok b.1 p->GJ.ok b_1.1 p)/\True):=by kernel_rfl
section
variable (x0:List AT×(Option Addr×Nat×Nat)×Int) (x1:SV) (x2:RcS) (x3:GJ×Int) (x4:Int) (x5:List Int) (x6:List AT×(Option Addr×Nat×Nat)×Bool×Int) (x7:Prop)
 def zxb:=x6.2.1.1=x0.2.1.1/\x6.2.1.2.1=x0.2.1.2.1/\x6.2.1.2.2=x0.2.1.2.2/\x7
 def zxa:=x1.1=x2.1.1/\x1.2.1=x2.1.2.1/\x1.2.2=x2.1.2.2/\x6.2.2.2=x3.2/\(z0c x6.1/\(x6.2.2.1=true->x6.1≠[])/\x4<=x6.2.2.2/\x6.2.2.2<=(↑(length x5):Int))/\(∀i0,((True/\slP byV x1 x5 i0)/\GJ.ok x3.1 i0)/\z09 x0.1 x0.2.1 i0->z09 x6.1 x6.2.1 i0)/\True
 def j69:=((!decide (x0.2.2=0))=true->∃(i0:List AT×(Option Addr×Nat×Nat)×Bool×Int),zxb x0 i0 (i0.2.2.1=false/\zxa x0 x1 x2 x3 x4 x5 i0))/\((!decide (x0.2.2=0))=false->∃(i2:List AT×Option Addr×Nat×Nat),i2.2.1=x0.2.1.1/\i2.2.2.1=x0.2.1.2.1/\i2.2.2.2=x0.2.1.2.2/\z0c i2.1/\(∀i3,((True/\slP byV x1 x5 i3)/\GJ.ok x3.1 i3)/\z09 x0.1 x0.2.1 i3->z09 i2.1 i2.2 i3)/\∀(i4:Int×Int×Int),True->∃(i5:List AT×(Option Addr×Nat×Nat)×Bool×Int),zxb x0 i5 (i5.2.2.1=decide (i4.1=0)/\zxa x0 x1 x2 x3 x4 x5 i5))
end
def zds(x:SV) (L:List Int) (n:Int):qlb P (qgc []) (qhg [(15,z4q),(14,za6),(16,z4o)]) Try.f7 ziq (λ_=>{}) ⟨x,L,n⟩=(z92 (x,L,n)->(∃(p:Pub),True/\slP byV x L p)->∃(s:RcS),s.1.1=x.1/\s.1.2.1=x.2.1/\s.1.2.2=x.2.2/\s.2.2=n/\z92 s/\(∀(p:Pub),True/\slP byV x L p->slP byV s.1 s.2.1 p)/\∀(b:GJ×Int),GJ.wf b.1/\s.2.2<=b.2/\b.2<=(↑(length s.2.1):Int)->(∃(p:Pub),(True/\slP byV x L p)/\GJ.ok b.1 p)->∃(s_1:GJ),GJ.k s_1=GJ.k b.1/\GJ.n s_1=GJ.n b.1/\GJ.s s_1=GJ.s b.1/\(GJ.y s_1).1=(GJ.y b.1).1/\(GJ.y s_1).2.1=(GJ.y b.1).2.1/\(GJ.y s_1).2.2=(GJ.y b.1).2.2/\(GJ.x s_1).1=(GJ.x b.1).1/\(GJ.x s_1).2.1=(GJ.x b.1).2.1/\(GJ.x s_1).2.2=(GJ.x b.1).2.2/\GJ.wf s_1/\(∀(p:Pub),(True/\slP byV x L p)/\GJ.ok b.1 p->GJ.ok s_1 p)/\∀(b_1:List AT×(Option Addr×Nat×Nat)×Int),z0c b_1.1/\(b_1.2.2=0->b_1.1≠[])->(∃(p:Pub),((True/\slP byV x L p)/\GJ.ok b.1 p)/\z09 b_1.1 b_1.2.1 p)->j69 b_1 x s b n L):=by kernel_rfl
def zin:=λx L n=>Eq.trans (zds x L n) (by delta zxb zxa j69;exact rfl)
def zc7:q1v P 30 z6g:=by
 refine qkh mixed (qdw (qhr zav qkx)) (qen (qhq zq3 qkw)) (W:=λ_=>{}) Try.func30 (by kernel_rfl) (show 1<=1 by decide) (show 1<=1 by decide) (λs=>by kernel_rfl) λ⟨S,(x:SV),(t:Int),g⟩=>(zc6 S x t g).mpr ?_
 rintro⟨hS,hg⟩ ⟨p,_,hx,hgo⟩
 have sl:x.2.1=S.length:=hx.1.1
 simp only[sbS,exists_const,forall_const,Int.toNat_natCast]
 refine⟨⟨x,t⟩,rfl,rfl,rfl,rfl,λh=>⟨⟨1,zV⟩,rfl,rfl,rfl,rfl,rfl,rfl,rfl,rfl,rfl,rfl,λq hq=>z2z q⟩,λh=> ?_⟩
 simp only[sl,Bool.and_eq_true,decide_eq_true_eq]at h
 refine⟨⟨S,x,0,t,g,1⟩,rfl,rfl,rfl,rfl,rfl,rfl,rfl,rfl,rfl,rfl,rfl,rfl,rfl,rfl,rfl,⟨hS,h,hg,⟨(by show(0:Int)<=0;decide),(by show(0:Int)<=2000;decide)⟩,(by show(1:Int)<=1;decide),(by show(1:Int)<=21;decide)⟩,λq hq=>hq,?_⟩
 rintro⟨a,e,v⟩ _ _
 exact⟨λ_=>⟨⟨e,zV⟩,rfl,rfl,rfl,rfl,rfl,rfl,rfl,rfl,rfl,rfl,λq hq=>z2z q⟩,λ_=>⟨⟨0,v⟩,rfl,rfl,rfl,rfl,rfl,rfl,rfl,rfl,rfl,rfl,λq hq=>hq.2⟩⟩
def zab:q1v P 16 z4o:=by
  refine qkh mixed (qdw qkx) (qen (qhq zc7 qkw)) (W:=zcb) Try.func16 (by kernel_rfl) (show 1<=1 by decide) (show 1<=1 by decide) (λs=>by kernel_rfl) λ⟨S,(x:SV)⟩=>(zaa S x).mpr ?_
  rintro hS ⟨p,_,hx⟩
  have sl:x.2.1=S.length:=hx.1.1
  have h60:=hS.1
  simp only[sbS,exists_const,forall_const,Int.toNat_natCast,sl]
  refine⟨⟨0,rfl,Nat.zero_le _⟩,?_⟩
  rintro j hj
  refine⟨λhlt=>⟨⟨0,rfl⟩,λk=> ?_⟩,λhge=>⟨⟨0,0,0⟩,rfl,rfl,rfl⟩⟩
  have hjl:j<S.length:=by omega
  have hat:=λq (hq:z09 S x q)=>zc1 hq hjl
  have hao:=λq (hq:z09 S x q)=>hq.2 S[j] (List.getElem_mem hjl)
  have hgd:=hS.2 S[j] (List.getElem_mem hjl)
  generalize S[j]=a at*
  obtain⟨_,_,fl,_⟩:=z4k (hao p hx)
  have hf30:=hgd.2.2.2.2.2.2.2.1
  have c8:∀q,z09 S x q->q3i q ((adr x.1 (j*10)).add 8) [.slice a.f.1 a.fs.length a.f.2.2]:=λq hq i v hi=>by
    cases i with
    | zero=>
      rw[←fl]at hi
      have:=(hat q hq).2 8 v hi
      rw[Addr.add_add];exact this
    |succ i=>simp at hi
  refine⟨⟨by omega,by omega⟩,(hat p hx).1,a.f.1,a.fs.length,a.f.2.2,c8,λhk=>⟨⟨by omega,by omega⟩,(hat p hx).1,a.f.1,a.fs.length,a.f.2.2,c8,⟨by omega,by omega⟩,?_⟩,λhk=>⟨⟨by omega,by omega⟩,j+1,by omega,by omega,by omega⟩⟩
  have hkl:k<a.fs.length:=by omega
  have hff:=hgd.2.2.2.2.1 _ (List.getElem_mem hkl)
  have fok:=λq (hq:z09 S x q)=>(hao q hq).2.2.2.2 a.fs[k] (List.getElem_mem hkl)
  have fat:=λq (hq:z09 S x q)=>zap (hao q hq) hkl
  have hk100:k<100:=by omega
  generalize a.fs[k]=f at*
  refine⟨(fat p hx).1,f.nm,f.al.1,f.al.2.1,f.al.2.2,f.ty,f.hd,f.df.k,f.df.n,f.df.s,f.df.y.1,f.df.y.2.1,f.df.y.2.2,f.df.x.1,f.df.x.2.1,f.df.x.2.2,λq hq=>(fat q hq).2,λ_=>⟨⟨by omega,by omega⟩,k+1,by omega,by omega⟩,λ_=>⟨⟨S,x,f.ty,f.df⟩,rfl,sl,rfl,rfl,rfl,rfl,rfl,rfl,rfl,rfl,rfl,rfl,rfl,⟨hS,hff.2⟩,λq hq=>⟨hq,(fok q hq).2⟩,?_⟩⟩
  rintro⟨e,v⟩ _
  exact⟨λ_=>⟨⟨e,j,k⟩,rfl,rfl,rfl⟩,λ_=>⟨⟨by omega,by omega⟩,k+1,by omega,λq hq=>hq.1,by omega⟩⟩
def z94:q1v P 15 z4q:=by
 refine qkg mixed (qdw qkx) (qen (qhq zf9 qkw)) (W:=λ_=>{}) Try.func15 (by kernel_rfl) (show 1<=2 by decide) (show 2<=2 by decide) (λs=>by kernel_rfl) λ⟨(x:SV),L,(n:Int)⟩=>(z93 x L n).mpr ?_
 rintro⟨hn0,hn1,hL⟩ ⟨p,_,hx⟩
 simp only[sbS,exists_const,forall_const,Int.toNat_natCast]
 refine⟨⟨mkS [84,111,112],x,L,n,0,[mkS [84,111,112]]⟩,rfl,rfl,rfl,rfl,rfl,rfl,rfl,rfl,⟨(by show(3:Nat)<100;decide),⟨hn0,hn1,hL,(by show(0:Int)<=0;decide),(by show(0:Int)<=3;decide),(by show((1:Nat):Int)<=n+1;omega),λt ht=>(by simp at ht;subst ht;show 3<100;decide)⟩⟩,λq hq=>hq,?_⟩
 rintro⟨g,n',N'⟩ ⟨hw,h1,h2,_⟩ _
 exact⟨⟨g,n'⟩,rfl,rfl,rfl,rfl,rfl,rfl,rfl,rfl,rfl,rfl,rfl,rfl,rfl,⟨hw,h1,h2⟩,λq hq=>hq.2⟩
def zio:q1v P 7 ziq:=by
 refine qkh mixed (qdw qkx) (qen (qhq z94 (qhq zee (qhq zab qkw)))) (W:=λ_=>{}) Try.func7 (by kernel_rfl) (show 1<=2 by decide) (show 2<=2 by decide) (λs=>by kernel_rfl) λ⟨(x:SV),L,(n:Int)⟩=>(zin x L n).mpr ?_
 rintro⟨hn0,hn1,hL⟩ ⟨p,_,hx⟩
 simp only[sbS,exists_const,forall_const,Int.toNat_natCast]
 refine⟨⟨x,L,n⟩,rfl,rfl,rfl,rfl,⟨hn0,hn1,hL⟩,λq hq=>hq,?_⟩
 rintro⟨g,n'⟩ ⟨hw,h1,h2⟩ _
 refine⟨g,rfl,rfl,rfl,rfl,rfl,rfl,rfl,rfl,rfl,hw,λq hq=>hq.2,?_⟩
 rintro⟨S,y,e⟩ ⟨hS,hne⟩ _
 simp only at hS hne⊢
 refine⟨λhe=>⟨⟨S,y,false,n'⟩,rfl,rfl,rfl,rfl,trivial,trivial,trivial,rfl,⟨hS,λh=>(by cases h),h1,h2⟩,λq hq=>hq.2⟩,λhe=>⟨⟨S,y⟩,rfl,rfl,rfl,hS,λq hq=>hq.2,?_⟩⟩
 rintro⟨e2,t,i⟩
 exact⟨⟨S,y,decide (e2=0),n'⟩,rfl,rfl,rfl,rfl,trivial,trivial,trivial,rfl,⟨hS,λ_=>hne he,h1,h2⟩,λq hq=>hq.2⟩
section
def zb5:q3m P 6 z6f:=by
 refine qld mixed z0o (W:=λ_=>{}) Try.func6 (by kernel_rfl) (by decide) (by decide) (λs=>by kernel_rfl) λ(x:SV)=>(zb4 x).mpr ?_
 simp only[true_and,and_true,eq_self,imp_self,implies_true]
def fA:AF:=⟨mkS [97],(none,0,0),[],0,false,zJ⟩
def rA(x:SV):AT:=⟨9,mkS [82],(none,0,0),[],0,(none,0,0),[],false,mkS [],0,x,[fA],(none,0,0),[]⟩
def iA:AT:=⟨3,mkS [],(none,0,0),[],0,(none,0,0),[],false,mkS [],0,(none,0,0),[],(none,0,0),[]⟩
def S13(x:SV):List AT:=[rA x,iA]
def zdp(x:SV):z0c (S13 x):=by
 refine⟨by show 2<=60;decide,λa ha=> ?_⟩
 rcases List.mem_cons.1 ha with rfl|ha
 ·exact⟨⟨by show(1:Int)<=9;decide,by show(9:Int)<=14;decide⟩,λh=>absurd h (by show¬((9:Int)=12\/(9:Int)=13);decide),λb hb=>(by cases hb),λh=>absurd h (by show¬(9:Int)=14;decide),λf hf=>(by
   rcases List.mem_cons.1 hf with rfl|hf
   ·exact⟨⟨by show(0:Int)<=0;decide,by show(0:Int)<2;decide⟩,zqg⟩
   ·cases hf),λh=>absurd h (by show¬(9:Int)=10;decide),λh=>absurd h (by show¬(9:Int)=11;decide),by show 1<=30;decide,by show 0<=30;decide,by show 0<=30;decide⟩
 ·rw[List.mem_singleton]at ha
  subst ha
  exact⟨⟨by show(1:Int)<=3;decide,by show(3:Int)<=14;decide⟩,λh=>absurd h (by show¬((3:Int)=12\/(3:Int)=13);decide),λb hb=>(by cases hb),λh=>absurd h (by show¬(3:Int)=14;decide),λf hf=>(by cases hf),λh=>absurd h (by show¬(3:Int)=10;decide),λh=>absurd h (by show¬(3:Int)=11;decide),by show 0<=30;decide,by show 0<=30;decide,by show 0<=30;decide⟩
def z9v{x:SV} {l:List Int} (h:rkE (S13 x) l):l.length=2/\l.getD 0 0= -1/\l.getD 1 0≠ -1:=by
 have hl:l.length=2:=h.1.1
 refine⟨hl,?_,λh1=> ?_⟩
 ·by_cases hc:l.getD 0 0= -1
  ·exact hc
  ·obtain⟨_,_,h2,_⟩:=h.1.2.2 0 (rA x) rfl hc
   obtain⟨h3,h4⟩:=h2 rfl fA (List.mem_cons_self)
   have e:z0f l fA.ty=l.getD 0 0:=z2c (t:=0) (by omega)
   rw[e]at h4
   omega
 ·have:=h.2 1 iA rfl h1
  have e:rkF l iA=0:=rfl
  rw[e]at this
  cases this
variable {α:Type} {p:Pub}
def zkb{cells:α->List Value} {b s:Nat} {a:α} (h:q3i p ⟨b,s,none⟩ (cells a)):slP cells (some ⟨b,s+0,none⟩,1,1) [a] p:=
 ⟨rfl,Nat.le_refl _, .inr ⟨⟨b,s,none⟩,rfl,rfl,by show q3i p _ (cells a++[]);rw[List.append_nil];exact h⟩⟩
def zpu{cells:α->List Value} {b s:Nat} {a c:α} (h:q3i p ⟨b,s,none⟩ (cells a++cells c)):slP cells (some ⟨b,s+0,none⟩,2,2) [a,c] p:=
 ⟨rfl,Nat.le_refl _, .inr ⟨⟨b,s,none⟩,rfl,rfl,by show q3i p _ (cells a++(cells c++[]));rw[List.append_nil];exact h⟩⟩
def z6a{b s b1 s1:Nat} (h1:q3i p ⟨b,s,none⟩ fA.cells) (h2:q3i p ⟨b1,s1,none⟩ ((rA (some ⟨b,s+0,none⟩,1,1)).cells++iA.cells)):z09 (S13 (some ⟨b,s+0,none⟩,1,1)) (some ⟨b1,s1+0,none⟩,2,2) p:=by
 refine⟨zpu h2,λe he=> ?_⟩
 rcases List.mem_cons.1 he with rfl|he
 ·exact⟨z04,z04,zkb h1,z04,λf hf=>by
   rw[List.mem_singleton.1 hf]
   exact⟨z04,zqf p⟩⟩
 ·rw[List.mem_singleton.1 he]
  exact⟨z04,z04,z04,z04,λf hf=>by cases hf⟩
def z5k(b:Bool):(boV b).length=1:=rfl
def z8l:q3m P 5 z39:=by
  refine qki mixed z0o (qen (qhq zhs (qhq z7v qkw))) (W:=z8c) Try.func5 (by kernel_rfl) (by decide) (by decide) (λs=>by kernel_rfl) λ(u:Unit)=>(z8k u).mpr ?_
  intro _
  simp only[sbS,Int.toNat_natCast,exists_const]
  rintro b s _ _ b1 s1 _ ⟨p0,q1,q2⟩
  have hS:=zdp (some ⟨b,s+0,none⟩,1,1)
  refine⟨(S13 (some ⟨b,s+0,none⟩,1,1),(some ⟨b1,s1+0,none⟩,2,2)),rfl,rfl,rfl,hS,λq hq=>z6a hq.1 hq.2,?_⟩
  rintro⟨bs,z⟩ ⟨hbl,l,hE,hb⟩ ⟨p1,_,hz⟩
  obtain⟨e0,e1,e2⟩:=z9v hE
  have hbl:bs.length=2:=hbl
  have hzl:z.2.1=bs.length:=hz.1
  have b0:=hb 0 (by show 0<2;decide)
  have b1':=hb 1 (by show 1<2;decide)
  rw[e1]at b0
  rw[decide_eq_true e2]at b1'
  refine⟨(S13 (some ⟨b,s+0,none⟩,1,1),(some ⟨b1,s1+0,none⟩,2,2),0),rfl,rfl,rfl,rfl,⟨hS,by show(0:Int)<=0;decide,by show(0:Int)<2;decide⟩,λq hq=>z6a hq.1.1 hq.1.2,?_⟩
  rintro⟨v,i⟩ hv _
  have hv:leQ (S13 (some ⟨b,s+0,none⟩,1,1)) 0 v i:=hv
  refine⟨(S13 (some ⟨b,s+0,none⟩,1,1),(some ⟨b1,s1+0,none⟩,2,2),1),rfl,rfl,rfl,rfl,⟨hS,by show(0:Int)<=1;decide,by show(1:Int)<2;decide⟩,λq hq=>z6a hq.1.1.1 hq.1.1.2,?_⟩
  rintro⟨v2,i2⟩ hv2 _
  have hv2:leQ (S13 (some ⟨b,s+0,none⟩,1,1)) 1 v2 i2:=hv2
  have hi:i=false:=by
    cases i with
    |false=>rfl
    | true=>
      obtain⟨_,l',hE',hne⟩:=hv.1 rfl
      exact absurd (z9v hE').2.1 hne
  have hi2:i2=true:=by
    cases i2 with
    |true=>rfl
    | false=>
      rcases(hv2.2.1 rfl).2 with⟨l',hE',he⟩|hn
      · exact absurd he (z9v hE').2.2
      · exact absurd ⟨iA,rfl,rfl⟩ hn
  subst hi hi2
  have hn:=(hv2.1 rfl).1.2.2
  have l0:0<bs.length:=by omega
  have l1:1<bs.length:=by omega
  have f0:bs[0]=bs.getD 0 false:=by rw[List.getD_eq_getElem?_getD,List.getElem?_eq_getElem l0];rfl
  have f1:bs[1]=bs.getD 1 false:=by rw[List.getD_eq_getElem?_getD,List.getElem?_eq_getElem l1];rfl
  refine⟨λ_=>⟨⟨Int.le_refl _,by show(0:Int)<(z.2.1:Nat);omega⟩,(z0b z5k (by decide) hz l0).1,bs[0],λq hq=>(z0b z5k (by decide) hq.1.1.2 l0).2,λ_=>⟨⟨by decide,by show(1:Int)<(z.2.1:Nat);omega⟩,(z0b z5k (by decide) hz l1).1,bs[1],λq hq=>(z0b z5k (by decide) hq.1.1.2 l1).2,λ_=>⟨λ_=>⟨λ_=>(decide_eq_true hn).symm,λh=>(by cases h)⟩,λh=>(by cases h)⟩,λh=> ?_⟩,λh=> ?_⟩,λh=>absurd (by show((z.2.1:Nat):Int)=2;omega) h⟩
  · rw[f1,b1']at h;cases h
  · rw[f0,b0]at h;exact absurd h (by decide)
variable {S:List AT}
def z9z(h:z0c S):small S:=⟨by have:=h.1;omega,λe he=>by have:=(h.2 e he).2.2.2.2.2.2.2;omega⟩
def z9y(h:z0c S):z1n S:=λe he=>(h.2 e he).1
def zje:q3m P 3 zir:=by
  refine qki mixed (qdw (qhr z8l (qhr zb5 (qhr zan qkx)))) (qen (qhq zio (qhq zhs (qhq z7v qkw)))) (W:=zq7) Try.func3 (by kernel_rfl) (by decide) (by decide) (λs=>by kernel_rfl) λ⟨(x:SV),L⟩=>(zjd x L).mpr ?_
  rintro⟨hL,hb8⟩ ⟨p0,_,hx⟩
  have hxl:x.2.1=L.length:=hx.1
  simp only[sbS,Int.toNat_natCast,exists_const]
  refineλ_ h120=> ?_
  refine⟨x,rfl,rfl,rfl,(x,L,0),rfl,rfl,rfl,rfl,⟨by show(0:Int)<=0;decide,by show(0:Int)<=_;omega,by show L.length<1000000;omega,hb8⟩,λq hq=>hq,?_⟩
  rintro⟨S,y,b,n'⟩ ⟨hS,hne, -, -⟩ ⟨p1,_,hy⟩
  have hS:z0c S:=hS
  have hyl:y.2.1=S.length:=hy.1.1
  refineλhb=>⟨(S,y),rfl,rfl,rfl,hS,λq hq=>hq.2,?_⟩
  rintro⟨bs,z⟩ ⟨hbl,l,hE,hh⟩ ⟨p2,_,hz⟩
  have hbl:bs.length=S.length:=hbl
  have hzl:z.2.1=bs.length:=hz.1
  refine⟨λh=>absurd (by show((z.2.1:Nat):Int)=(y.2.1:Nat);omega) h,λ_=>⟨⟨(0,S,y,bs,z),rfl,rfl,rfl,rfl,rfl,rfl,rfl,λq hq=>⟨hq.1.2,hq.2⟩,⟨hS,Nat.zero_le _,hbl,l,hE,hh⟩⟩,?_⟩⟩
  rintro⟨i,S1,y1,bs1,z1⟩ ⟨hS1,hi,hbl1,l1,hE1,hh1⟩ ⟨p3,_,hy1,hz1⟩
  have hS1:z0c S1:=hS1
  have h60:S1.length<=60:=hS1.1
  have hi:i<=S1.length:=hi
  have hbl1:bs1.length=S1.length:=hbl1
  have hzl1:z1.2.1=bs1.length:=hz1.1
  intro hlt
  have hlt:(i:Int)<(z1.2.1:Nat):=hlt
  have hi1:i<bs1.length:=by omega
  have hi2:i+1<=S1.length:=by omega
  have hbd: -9223372036854775808<=(i:Int)+1/\(i:Int)+1<=9223372036854775807:=by omega
  have hdec:S1.length- (i+1)<S1.length- i:=by omega
  have hcast:((i+1:Nat):Int)=(i:Int)+1:=by omega
  refine⟨(S1,y1,i),rfl,rfl,rfl,rfl,⟨hS1,by show(0:Int)<=(i:Nat);omega,by show(i:Int)<S1.length;omega⟩,λq hq=>hq.2.1,?_⟩
  rintro⟨v,e⟩ hv _
  have hv:leQ S1 i v e:=hv
  have B:=λ(q:Pub) (hq:slP boV z1 bs1 q)=>z0b z5k (by decide) hq hi1
  have f0:bs1[i]=bs1.getD i false:=by rw[List.getD_eq_getElem?_getD,List.getElem?_eq_getElem hi1];rfl
  cases e with
  | true=>
    obtain⟨hq,l2,hE2,hne2⟩:=hv.1 rfl
    rw[Int.toNat_natCast]at hne2
    have hne1:=z5l hE2 hE1 ((l2.getD i 0).toNat+1) i hi2 hne2 (by omega)
    have hbi:bs1[i]=true:=by rw[f0,hh1 i hi2,decide_eq_true hne1]
    refine⟨λ_=>⟨⟨by show(0:Int)<=(i:Nat);omega,by show(i:Int)<(z1.2.1:Nat);omega⟩,(B p3 hz1).1,bs1[i],λq hq=>(B q hq.1.2.2).2,λh=>absurd (hbi.symm.trans h) (by decide),λ_=> ?_⟩,λh=>(by cases h)⟩
    refine⟨(S1,y1,i,v),rfl,rfl,rfl,rfl,rfl,rfl,rfl,rfl,rfl,rfl,rfl,rfl,rfl,⟨z9z hS1,z9y hS1,hq.2.1⟩,λq hq=>⟨hq.1.2.1,hq.2⟩,λhf=>absurd (hq.1.symm.trans hf) (by decide),λ_=>⟨λh=>(by cases h),λ_=>⟨hbd,(i+1,S1,y1,bs1,z1),rfl,rfl,rfl,hcast,rfl,rfl,rfl,λq hq=>hq.1.1,λq hq=>hq.1.2,⟨hS1,hi2,hbl1,l1,hE1,hh1⟩,hdec⟩⟩⟩
  | false=>
    have hx0:=(hv.2.1 rfl).1
    refine⟨λh=>(by cases h),λ_=>⟨λ_=>⟨λhgt=> ?_,λ_=>⟨hbd,(i+1,S1,y1,bs1,z1),rfl,rfl,rfl,hcast,rfl,rfl,rfl,λq hq=>hq.1.1,λq hq=>hq.1.2,⟨hS1,hi2,hbl1,l1,hE1,hh1⟩,hdec⟩⟩,λh=>(by cases h)⟩⟩
    have hgt:(0:Int)<(v.x.2.1:Nat):=hgt
    omega
end
section
 open Go.ChangeShapes Go.WideShapes Go.ChangeAt Go.Joins Go.Deep
abbrev zum(w:World):Pub:=q13 (λ_ b=>b<w.heap.size) w
variable {w:World} {a:Addr}
def z7j{v:Value} (h:w.cell? a=some v):q6f (zum w) a=some v/\a.spot=none:=by
  unfold World.cell? at h
  cases ho:w.heap[a.block]? with
  |none=>rw[ho]at h;cases h
  | some o=>
    have hlt:a.block<w.heap.size:=(Array.getElem?_eq_some_iff.1 ho).1
    have hp:zum w a.block=some o:=q04.2 ⟨hlt,ho⟩
    rw[ho]at h
    unfold q6f
    rw[hp]
    cases o<;>simp only at h<;>first|cases h|skip
    cases hs:a.spot with
    |none=>rw[hs]at h;simp[qbm,hs]at h⊢;exact h
    |some k=>rw[hs]at h;simp at h
def z8o{p:Pub} {x y:List Value} (h1:q3i p a x) (h2:q3i p (a.add x.length) y):q3i p a (x++y):=λj v hj=>by
 by_cases hx:j<x.length
 ·rw[List.getElem?_append_left hx]at hj;exact h1 j v hj
 ·rw[List.getElem?_append_right (by omega)]at hj
  have:=h2 _ v hj
  rw[Addr.add_add,show x.length+(j- x.length)=j by omega]at this;exact this
def z5w{α:Type} {f:α->List Value} {p:Pub} {k:Nat}:∀(l:List α) (a:Addr),(∀g∈l,(f g).length=k)->(∀(i:Nat) (h:i<l.length),q3i p (a.add (i*k)) (f l[i]))->q3i p a (z00 f l)
  | [],a,_,_=>λj v hj=>by simp[z00]at hj
  | g::l,a,hf,h=>by
    have h0:=h 0 (by simp)
    have e:a.add (0*k)=a:=by unfold Addr.add;rw[if_pos (by omega)]
    rw[e]at h0
    show q3i p a (f g++z00 f l)
    refine z8o h0 ?_
    rw[hf g List.mem_cons_self]
    refine z5w l (a.add k) (λg hg=>hf g (List.mem_cons_of_mem _ hg)) λi hi=> ?_
    have:=h (i+1) (by simp;omega)
    rw[Addr.add_add,show k+i*k=(i+1)*k by rw[Nat.succ_mul];omega]
    simpa using this
def zjf{f:Nat} {C:Ct} (h:q3m P f C) (s:C.σ) (vs:List Value) (ha:∀I,VRs I (C.args s) vs) (hh:C.h s=[]) (r:Value) (hr:C.r s= .sv r) (w:World) (hp:C.pre s) (hm:(C.mem s).ok (zum w)):
  Calls P f ⟨vs⟩ w λe w'=>e= .returned r/\Below w.heap.size w w':=by
 obtain⟨h1,h2,_,h4⟩:=h
 obtain⟨h0,h1',e1,e2,h5⟩:=h4 s
 rw[hh]at e1
 cases e1
 refine(h5 (λ_ b=>b<w.heap.size) (λi=>if i=0 then some (0,0,0)else none) w vs (ha _) ⟨λid o b t h=> ?_,λid id' o o' b t t' h=> ?_,λid o b t h=> ?_⟩ (λ_ h=>h) (λ_ h=>h) hp hm (λi hi=>if_neg (by omega)) (if_pos rfl)).mono λe w' he=> ?_
 ·rw[T.get_e]at h;cases h
 ·rw[T.get_e]at h;cases h
 ·rw[T.get_e]at h;cases h
 obtain⟨z,I',rfl,hz,hg,_⟩:=he
 rw[hr]at hz
 cases hz
 exact⟨rfl,⟨hg.same.1,hg.same.2,hg.same.3,hg.size,λk hk=>hg.fr k hk⟩⟩
def zp0(w:World) (a:Option Addr) (len cap:Nat) (z:List Int):Prop:=(a=none/\len=0/\cap=0/\z=[])\/∃x,a=some x/\len<=cap/\cap<=maxLen/\z.length=cap/\(∀i,i<z.length->w.cell? (x.add i)=some (.int .u8 (z.getD i 0)))/\∀n∈z,(Lit.int .u8 n).wf=true
def zpr{a:Option Addr} {len cap:Nat} {z:List Int} (h:zp0 w a len cap z):∃L:List Int,slP byV (a,len,cap) L (zum w)/\L.length<9223372036854775808/\∀b∈L,0<=b/\b<256:=by
  rcases h with⟨rfl,rfl,rfl,rfl⟩|⟨x,rfl,hl,hm,hz,hc,hw⟩
  · exact⟨[],⟨rfl,Nat.le_refl _, .inl ⟨rfl,trivial⟩⟩,by simp,λb hb=>by cases hb⟩
  have hlen:(z.take len).length=len:=by rw[List.length_take];omega
  have hat:∀(i:Nat) (hi:i<(z.take len).length),w.cell? (x.add i)=some (.int .u8 (z.take len)[i]):=λi hi=>by
    have hiz:i<z.length:=by omega
    have:=hc i hiz
    rw[List.getD_eq_getElem?_getD,List.getElem?_eq_getElem hiz]at this
    simpa using this
  refine⟨z.take len,⟨hlen.symm,hl,?_⟩,by unfold maxLen at hm;omega,λb hb=> ?_⟩
  · by_cases h0:z.take len=[]
    · rw[h0];exact .inl ⟨rfl,trivial⟩
    · have hpos:0<(z.take len).length:=List.length_pos_iff.2 h0
      have e0:x.add 0=x:=by unfold Addr.add;rw[if_pos rfl]
      have hp0:=z7j (hat 0 hpos)
      rw[e0]at hp0
      refine .inr ⟨x,rfl,hp0.2,z5w (k:=1) _ x (λg _=>rfl) λi hi j v hj=> ?_⟩
      cases j with
      |succ j=>simp[byV]at hj
      | zero=>
        have:=(z7j (hat i hi)).1
        rw[Addr.add_add,show i*1+0=i by omega,this,←hj];rfl
  · have hw:=hw b (List.mem_of_mem_take hb)
    simp only[Lit.wf,Bool.and_eq_true,decide_eq_true_eq]at hw
    have h1:IntKind.min .u8=0:=by decide
    have h2:IntKind.max .u8=255:=by decide
    omega
end
def born_law_wf(a0:Option Addr) (len0 cap0:Nat) (z0:List Int) (w:World) (w0:zp0 w a0 len0 cap0 z0):Calls P 3 #[.slice a0 len0 cap0] w λe w'=>e= .returned (.bool true)/\Below w.heap.size w w':=by
 obtain⟨L,hx,hL⟩:=zpr w0
 exact zjf zje ⟨(a0,len0,cap0),L⟩ [.slice a0 len0 cap0] (λI=> .cons (.sv _) .nil) rfl (.bool true) rfl w hL hx
end
end Go.Proofs.Ytpdddmchffpcfaa.Wd
