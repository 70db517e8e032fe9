/-
  What the functions do: contracts, and their questions answered. No condition but what its theorems ask.
-/
import Derived.Test.YtniogjgfomaicaaGreatT3
import Derived.WalkKit
import Derived.ProofKit
import Derived.OpenShut
import Derived.ShutString
import Derived.ChangeOld
import Derived.Lib.SmallJoins
namespace Go.Proofs.YtniogjgfomaicaaGreat.Wd
open Go.Proofs.YtniogjgfomaicaaGreat.Eng Go.Proofs.YtniogjgfomaicaaGreat.Sen Go.RowKit
set_option linter.defProp false
set_option linter.unusedVariables false
set_option linter.unusedSimpArgs false
set_option maxRecDepth 1000000
open Go.Value (int string slice bool)
open Go.IntKind (i64 u64 u8 u32 i32)
open _root_.List (length take drop)
open _root_.ByteArray (size)
open _root_.Int (toNat)
noncomputable section
open AT renaming ok->qqu
open CtR renaming below_zero->qqf,of_below->qqj
open GV renaming b->ψ,cells->Ι,ks->Ω,l->qqg,n->τ,ok->η,ok_eq->qqd,oks->Γ,pv->υ,pv_eq->qqb,pvs->ε,pvs_len->ξ,pvs_map->qq9,s->π,sm_eq->qzg,x->ζ,y->θ
open PV renaming fb->qqw,fits->qq1,fitz->Φ,same->qql,sames->qqm,sm->qq5,wts->Υ
open _root_.Bool renaming and_eq_false_iff->qqe,and_eq_true->φ,false->ς,true->ι
open _root_.ByteArray renaming mk->qqq
open _root_.Eq renaming trans->Ν
open _root_.Go.Addr renaming add->Ο,add_add->Ψ,mk->Κ
open _root_.Go.IntKind renaming max->qzd,min->qzc,wrap->Δ
open _root_.Go.Value renaming int->qqk,string->qzf
open _root_.Int renaming eq_ofNat_of_zero_le->Λ,le_refl->ω,natCast_nonneg->qq8,tmod->qqs,tmod_eq_emod_of_nonneg->qqt,toNat->qzb,toNat_natCast->γ,toNat_of_nonneg->Χ
open _root_.List renaming append_assoc->qq7,drop_eq_getElem_cons->Ξ,drop_of_length_le->Μ,getD_eq_getElem?_getD->Η,getElem?_eq_getElem->ν,getElem?_map->qqi,getElem_append_left->qqv,getElem_append_right->qqr,getElem_cons_zero->qqx,getElem_mem->δ,length_append->qqa,length_set->qqp,length_singleton->Τ,length_take->qza,map_cons->qze,mem_cons_of_mem->qq2,mem_cons_self->qq6,mem_of_mem_take->qq3,replicate->Β,take->qqn,take_length->qqc,take_of_length_le->Ζ,take_succ_eq_append_getElem->Ε,toArray->qzh
open _root_.Nat renaming add_zero->qqy,le_refl->Α,le_trans->qqz,mul_le_mul_right->qq4,mul_one->qqo,sub_self->qzi,zero_add->Ρ,zero_le->Θ
open _root_.Option renaming none->ρ,some->χ
open _root_.Prod renaming fst->qq0,snd->qqh
section
variable {α:Type} {q:Prop}
def z20{u:Rs α} {e:Int} {k:Nat} (h:u= .no k) (he:e=k+1):vA u e q:= .inr ⟨k,he,h⟩
def xR{u:Rs α} {e:Int} (he:e=0) (h:q):vA u e q:= .inl ⟨he,h⟩
variable {D:Ck}
def zw2{S:List AT} {a:AT} {A:Int} {n all:Int} {r:GV} {n' u e':Int} (st:zH) (hr:r.pv= .mk 0 (mkS []) st.2 st.1 0) (B:qD D n') (C:all<=u) (G:u<=2001) (H:e'=0->u<=2000) (O:0<=all) (J:n<=n') (h:vA (zr S a A D n all) e' (zr S a A D n all= .ok (st,n'.toNat,u.toNat))):z17 (ko (qu S D A) D a n.toNat all.toNat) D n all 0 (r,n',u,e'):=by
 refine⟨?_,B,⟨C,G⟩,H,J⟩;rw[if_pos rfl];show jJ ((zr S a A D n all).bind _) _ _ _ _;rcases h with⟨rfl,h⟩|⟨k,rfl,h⟩
 ·rw[h,zb];have:=B.1;exact⟨rfl,hr,by show n'=((n'.toNat:Nat):Int);omega,by show u=((u.toNat:Nat):Int);omega⟩
 ·rw[h,jl];rfl
structure HdR(D:Ck) (n:Int) (v n1 e:Int):Prop where
 ok:qD D n1
 le:n<=n1
 up:e=0->n<n1
 lo: -9223372036854775808<=v
 hi:v<9223372036854775808
 en:0<=e
def LM{n:Int} (h:qD D n):HdR D n (qb D n.toNat).1 ((qb D n.toNat).2.2:Nat) ((qb D n.toNat).2.1:Nat):=by have f:=yu D n.toNat (by have:=h.1;have:=h.2.1;omega);exact⟨⟨by omega,by omega,h.2.2⟩,by have:=h.1;omega,λhe=>by have:=h.1;omega,f.1,f.2.1,by omega⟩
def CN{v:Int} (u: -9223372036854775808<=v) (h:v≠ -9223372036854775808): -v<=9223372036854775807:=by omega
def CG{d f n:Nat} (h:d<f+n):(d:Int)<(f:Int)+((n:Nat):Int):=by omega
def LN{e:Nat} (h:e≠0):((e:Nat):Int)=((e- 1:Nat):Int)+1:=by omega
set_option maxHeartbeats 1000000 in
def j9v (c:Nat) (hv0:q1p P 31 (wB.below yz c)):q1p P 62 ((Jj Az).below x8 (c+1)):=by
 refine zh (qcl (qgj z37 (qgj z40 (qgj Ph (qgj z45 qjq))))) (qdd (qgi hv0 (qgi z78 qjp))) (W:=Hu ι) Tryz.func62 λ⟨S,⟨(x:SV),(y:SV),D,(n:Int),(all:Int),(e:Int)⟩,a,(C:Int)⟩=>(j9u c S x y D n all e a C).mpr ?_;rintro⟨hmu,hok,haS,hk,hd,⟨ha0,ha1⟩,he,hp1,hp2⟩ ⟨p,_,hx,hao,hyl,hy⟩;subst he;have hmu:(25- C).toNat<c+1:=hmu;have hk:a.k=12:=hk;have O:decide (a.k=13)=false:=decide_eq_false (by omega);have hit:=(hok.2.2 a haS).2.2.1 (.inl hk);simp only[qB,exists_const,forall_const,γ,hk];refine⟨⟨⟨D.size+1- n.toNat,n,all,0,[]⟩,rfl,rfl,rfl,rfl,λq _=>GV.oks_iff.2 λw hw=>(by cases hw),⟨⟨hd,ω _⟩,⟨ω _,by show all<=2001;omega⟩,λ_=>ha1,by show((0:Nat):Int)<=all;omega⟩,(by have:=hd.1;have:=hd.2.1;show(D.size:Int)<((D.size+1- n.toNat:Nat):Int)+n;omega), .inl ⟨rfl,rfl⟩⟩,?_⟩;rintro⟨F,n1,u,e1,fs⟩ ⟨⟨⟨c1,c0⟩,⟨c2,c3⟩,c4,c5⟩,cF,cT⟩ ⟨p1,hp1',hfs⟩;simp only at c0 c1 c2 c3 c4 c5 cF cT hfs⊢;have c5:(fs.length:Int)<=u:=by rw[ξ]at c5;exact c5
 have ret:∀(Z:Option Addr) (cc:Nat) (n' B e':Int),qD D n'->n<=n'->all<=B->B<=2001->(e'=0->B<=2000)->vA (zr S a C D n all) e' (zr S a C D n all= .ok (([],ε fs),n'.toNat,B.toNat))->z17 (ko (qu S D C) D a n.toNat all.toNat) D n all 0 (.mk 0 (mkS []) (Z,fs.length,cc) fs (ρ,0,0) [] 0,n',B,e'):=λZ cc n' B e' h1 hn h2 h3 h4 h5=>zw2 ([],ε fs) (by rw[υ]) h1 h2 h3 h4 ha0 hn h5;refine⟨λhz=> ?_,λhnz=> ?_⟩
 ·subst hz;have hB:vH (qu S D C a.it) D ς F ([],ε fs) n1.toNat u.toNat=zr S a C D n all:=by
   rcases cT with⟨_,q⟩|⟨k,q,_⟩
   ·rw[O]at q;exact q
   ·omega
  have c4':=c4 rfl;have hh:=P' (show n1.toNat<=D.size by have:=c1.1;have:=c1.2.1;omega) (show D.size<F+n1.toNat by have:=c1.1;omega) hB;have hl:=LM c1;refine⟨⟨x,y,D,n1,u,0⟩,rfl,rfl,rfl,rfl,rfl,rfl,rfl,rfl,rfl,c1,λq hq=>hq.1.2.2,?_⟩;simp only[Kh c1,true_and,and_true,eq_self];have hl2:=LM hl.ok;have hg2:=Kh hl.ok;rw[γ]at hl2 hg2;generalize qb D n1.toNat=T at*;obtain⟨v,er,n2⟩:=T;simp only at hh hl hl2 hg2⊢;obtain⟨l1,l0,l2,l3,l4,l5⟩:=hl;obtain⟨m1,m0,m2,m3,m4,m5⟩:=hl2;refine⟨λhe Z cc _=> ?_,λhe=>⟨λhv Z cc _=> ?_,λhv=>⟨⟨λhv0=> ?_,λhv0=> ?_⟩,?_⟩⟩⟩
  ·refine⟨⟨.mk 0 (mkS []) (Z,fs.length,cc) fs (ρ,0,0) [] 0,n2,u,er⟩,rfl,rfl,rfl,rfl,rfl,rfl,rfl,rfl,rfl,rfl,rfl,rfl,ret Z cc n2 u er l1 (by omega) c2 c3 (λh=>absurd h he) (z20 (hh.1 (by omega)) (by omega)),λq hq=>z60 hq.1.2 hq.2.1 hq.2.2⟩
  ·have he0:er=0:=(by omega);subst he0;refine⟨⟨.mk 0 (mkS []) (Z,fs.length,cc) fs (ρ,0,0) [] 0,n2,u,0⟩,rfl,rfl,rfl,rfl,rfl,rfl,rfl,rfl,rfl,rfl,rfl,rfl,ret Z cc n2 u 0 l1 (by omega) c2 c3 (λ_=>c4') (xR rfl (by rw[hh.2.1 rfl hv,γ])),λq hq=>z60 hq.1.2 hq.2.1 hq.2.2⟩
  ·have er0:er=0:=(by omega);subst er0;refine⟨_,rfl,λhneg=> ?_,λhnn=> ?_⟩
   ·have hvm:v= -9223372036854775808:=by
     by_cases h:v= -9223372036854775808
     ·exact h
     ·rw[Yf (by omega) l4]at hneg;omega
    subst hvm;refine⟨⟨x,y,n2,u,0,2⟩,rfl,rfl,rfl,rfl,rfl,rfl,rfl,rfl,rfl,rfl,⟨x,y,D,n2,u,2⟩,rfl,rfl,rfl,rfl,rfl,rfl,rfl,rfl,rfl,l1,λq hq=>hq.1.2.2,?_⟩;have hbad:qN D n2 2=((0:Int),((n2:Nat):Int),(2:Int)):=(by unfold qN;rw[if_pos (by decide)]);simp only[hbad,true_and,and_true,eq_self];refine⟨λh=>absurd h (by decide),λ_=>⟨⟨D.size+1,_,0,n2,2,fs⟩,rfl,rfl,rfl,rfl,rfl,rfl,λq hq=>hq.2,⟨⟨⟨l1,by show n<=((n2:Nat):Int);omega⟩,⟨c2,c3⟩,λh=>absurd h (by show¬(2:Int)=0;decide),by rw[ξ];exact c5⟩,by show Δ .i64 (0 - -9223372036854775808)<=_;rw[HL];decide,by show(D.size:Int)<((D.size+1:Nat):Int)+n2;omega,z20 (hh.2.2.2.1 rfl rfl) rfl⟩⟩⟩
   ·have hvm:v≠ -9223372036854775808:=λh=>(by subst h;rw[HL]at hnn;exact hnn (by decide));have hh5:=hh.2.2.2.2 rfl hv0 hvm;rw[Yf (by omega) l4];refine⟨⟨x,y,D,n2,u,0⟩,rfl,rfl,rfl,rfl,rfl,rfl,rfl,rfl,rfl,l1,λq hq=>hq.1.2.2,?_⟩;simp only[hg2,true_and,and_true,eq_self];have hm0:n<=(((qb D n2).2.2:Nat):Int):=(by omega);generalize qb D n2=U at*;obtain⟨z,G,J⟩:=U;simp only at hm0 hh5 m1 m2 m3 m4 m5⊢;have cut:∀(F':Nat) (e2:Int),D.size<F'+J->vA (zr S a C D n all) e2 (1<= -v/\(jR (qu S D C a.it) D (decide (a.k=13)) (-v).toNat ([],ε fs) ((J:Nat):Int).toNat u.toNat).bind (jy S a C D F' J z)=zr S a C D n all)->J1 S a C D n all F' (-v) z J u e2 ([],ε fs):=λF' e2 h1 h2=>⟨⟨⟨m1,hm0⟩,⟨c2,c3⟩,λ_=>c4',by rw[ξ];exact c5⟩,CN l3 hvm,CG h1,h2⟩;refine⟨λhz=>⟨⟨x,y,J,u,G,2⟩,rfl,rfl,rfl,rfl,rfl,rfl,rfl,rfl,rfl,rfl,⟨D.size+1,_,_,J,(if((G:Nat):Int)=0 then 2 else((G:Nat):Int)),fs⟩,rfl,rfl,rfl,rfl,rfl,rfl,rfl,rfl,rfl,rfl,rfl,rfl,rfl,λq hq=>hq.2,?_⟩,λhz=> ?_⟩
    ·refine cut _ _ (by omega) ?_;show vA _ (if((G:Nat):Int)=0 then(2:Int)else((G:Nat):Int)) _;by_cases h:G=0
     ·rw[h];exact z20 (hh5.2.1 h hz) rfl
     ·have h9:(if((G:Nat):Int)=0 then(2:Int)else((G:Nat):Int))=((G:Nat):Int):=if_neg (λq=>h (Int.natCast_eq_zero.1 q));rw[h9];exact z20 (hh5.1 h) (LN h)
    ·by_cases h:G=0
     ·obtain⟨F',f1,f2⟩:=hh5.2.2 h (by omega);refine⟨⟨F',_,_,J,_,fs⟩,rfl,rfl,rfl,rfl,rfl,rfl,λq hq=>hq.2,cut _ _ f1 (xR (Int.natCast_eq_zero.2 h) ⟨by omega,?_⟩)⟩;rw[O,γ,←f2];unfold jy Zf;rw[O,γ]
     ·exact⟨⟨D.size+1,_,_,J,_,fs⟩,rfl,rfl,rfl,rfl,rfl,rfl,λq hq=>hq.2,cut _ _ (by omega) (z20 (hh5.1 h) (LN h))⟩
  ·have er0:er=0:=(by omega);obtain⟨F',f1,f2⟩:=hh.2.2.1 er0 (by omega);refine⟨⟨F',_,_,n2,_,fs⟩,rfl,rfl,rfl,rfl,rfl,rfl,λq hq=>hq.2,⟨⟨⟨l1,by show n<=((n2:Nat):Int);omega⟩,⟨c2,c3⟩,λ_=>c4',by rw[ξ];exact c5⟩,by show v<=_;omega,by show(D.size:Int)<F'+((n2:Nat):Int);omega,xR he ⟨by show 1<=v;omega,?_⟩⟩⟩;rw[O,γ,←f2];unfold jy Zf;rw[O,γ]
  clear hh hg2 m0 m1 m2 m3 m4 m5 l0 l1 l2 l3 l4 l5;rintro⟨F2,cnt,sz,J,e3,gs⟩ ⟨⟨⟨d1,d0⟩,⟨d2,d3⟩,d4,d5⟩,dC,dF,dT⟩ ⟨p3,hp3,hgs⟩;simp only at d0 d1 d2 d3 d4 d5 dC dF dT hgs⊢;refine⟨⟨⟨F2,0,J,u,e3,gs⟩,rfl,rfl,rfl,rfl,rfl,rfl,λq hq=>hq.2,⟨⟨.inl rfl,ω _,λ_=>by show u+((0:Nat):Int)<=u;omega⟩,⟨⟨d1,d0⟩,⟨d2,d3⟩,d4,d5⟩,⟨d1.1,ω _⟩,dF,?_⟩⟩,?_⟩
  ·rcases dT with⟨q1,q2,Y⟩|q
   ·refine .inl ⟨q1,q2,?_⟩;show(jR _ _ _ (cnt- ((0:Nat):Int)).toNat _ _ _).bind _=_;rw[show(cnt- ((0:Nat):Int))=cnt by omega];exact Y
   ·exact .inr q
  rintro⟨F3,i,V,A,e4,us⟩ ⟨⟨e1,e2,e2'⟩,⟨⟨g1,g0⟩,⟨g2,g3⟩,g4,g5⟩,⟨e5,e6⟩,eF,eT⟩ ⟨p4,hp4,hus⟩;simp only at e1 e2 e2' g0 g1 g2 g3 g4 g5 e5 e6 eF eT hus⊢;have g5:(us.length:Int)<=A:=by rw[ξ]at g5;exact g5
  have nx:∀e':Int,(e'=0->A<=2000)->(e'=0->u<A)->vA (zr S a C D n all) e' (vH (qu S D C a.it) D (decide (a.k=13)) F3 ([],ε us) V.toNat A.toNat=zr S a C D n all)->Zy S a C D n all F3 V A e' ([],ε us)/\(2*(2001- A).toNat+if e'=0 then 1 else 0)<2*(2001- u).toNat+if True then 1 else 0:=λe' h1 h2 h3=>by
   refine⟨⟨⟨⟨g1,g0⟩,⟨g2,g3⟩,h1,by rw[ξ];exact g5⟩,by omega,h3⟩,?_⟩;rw[if_pos trivial];split
   ·rename_i h;have:=h2 h;have:=h1 h;omega
   ·omega
  have h64: -9223372036854775808<=V- J/\V- J<=9223372036854775807:=by have:=g1.1;have:=g1.2.1;have:=g1.2.2;have:=d1.1;omega
  have bad:e4≠0->_:=λH=>nx e4 (λh=>absurd h H) (λh=>absurd h H) (by
   rcases eT with⟨q,_⟩|q
   ·exact absurd q H
   ·exact .inr q)
  have good:¬(i:Int)<cnt->e4=0->u<A/\jy S a C D F3 J sz (([],ε us),V.toNat,A.toNat)=zr S a C D n all:=λh h0=>by
   rcases eT with⟨_,q2,Y⟩|⟨k,q,_⟩
   ·rw[show(cnt- (i:Int)).toNat=0 by omega,jR,zb]at Y;exact⟨by have:=e2' h0;omega,Y⟩
   ·omega
  have bke:Qh J.toNat sz V.toNat=ι↔0<=sz/\V- J≠sz:=by unfold Qh;have:=g1.1;have:=d1.1;rw[φ,decide_eq_true_eq,decide_eq_true_eq,Χ (by omega),Χ (by omega)]
  refine⟨λhlt=>⟨λh0=> ?_,λH=>⟨λh=>absurd h H,λ_=>⟨⟨F3,V,A,e4,us⟩,rfl,rfl,rfl,rfl,rfl,λq hq=>hq.1.1.1,λq hq=>hq.2,bad H⟩⟩⟩,λhge=>⟨λh0=>⟨λhs=>⟨h64,λhn=>⟨⟨F3,V,A,2,us⟩,rfl,rfl,rfl,rfl,rfl,λq hq=>hq.1.1.1,λq hq=>hq.2,?_⟩,λhn=>⟨⟨F3,V,A,e4,us⟩,rfl,rfl,rfl,rfl,rfl,λq hq=>hq.1.1.1,λq hq=>hq.2,?_⟩⟩,λhs=>⟨⟨F3,V,A,e4,us⟩,rfl,rfl,rfl,rfl,rfl,λq hq=>hq.1.1.1,λq hq=>hq.2,?_⟩⟩,λH=>⟨⟨F3,V,A,e4,us⟩,rfl,rfl,rfl,rfl,rfl,λq hq=>hq.1.1.1,λq hq=>hq.2,bad H⟩⟩⟩
  ·subst h0;obtain⟨q2,Y⟩:1<=cnt/\(jR (qu S D C a.it) D ς (cnt- (i:Int)).toNat ([],ε us) V.toNat A.toNat).bind (jy S a C D F3 J sz)=zr S a C D n all:=by
    rcases eT with⟨_,q2,Y⟩|⟨k,q,_⟩
    ·rw[O]at Y;exact⟨q2,Y⟩
    ·omega
   rw[P2 (by omega)]at Y;unfold yi at Y;rw[if_neg (by decide),LP]at Y;have g4':=g4 rfl;have e2'':=e2' rfl;refine⟨⟨?ra,?rb,?rc⟩,λh=>absurd trivial h⟩;case ra|rb|rc=>
    refine⟨⟨by omega,by omega⟩,⟨S,⟨x,y,D,V,A,0⟩,a.it,C+1⟩,rfl,rfl,rfl,rfl,rfl,rfl,rfl,rfl,rfl,rfl,rfl,⟨by show(25- (C+1)).toNat<c;omega,hok,g1,⟨by show 0<=A;omega,g4'⟩,ω _,hit,by show 1<=C+1;omega,by show C+1<=21;omega⟩,λq hq=>⟨hq.1.1.1.1,hq.1.1.1.2.2⟩,?_⟩;rintro⟨r,n',B,e'⟩ ⟨h1,h2,h3,h4,h6⟩ _;have h6:V<=n':=h6;have h3:A+1<=B/\B<=2001:=h3;rw[if_pos rfl,show(21- (C+1)).toNat=(20- C).toNat by omega]at h1;have hag:=HO h1 Y;simp only[zb]at hag;have hk1:(cnt- (i:Int)).toNat- 1=(cnt- ((i+1:Nat):Int)).toNat:=(by omega);rw[hk1]at hag;refine⟨qv zn us,by omega,⟨by omega,by omega⟩,⟨F3,i+1,n',B,e',us++[r]⟩,by show((i+1:Nat):Int)=_;omega,?_⟩;simp only[true_and,and_true,eq_self];refine⟨by simp,by rw[zu];rfl,λq hq=>hq.1.1,λq hq=>uJ hq.1.2 (vQ hq.2),⟨⟨.inr (by omega),by omega,λ_=>by omega⟩,⟨⟨h2,by show n<=n';omega⟩,⟨by omega,by omega⟩,h4,by show((ε (us++[r])).length:Int)<=B;rw[ξ,qqa];show((us.length+1:Nat):Int)<=B;omega⟩,⟨by omega,by show J<=n';omega⟩,by omega,?_⟩,by omega⟩;rw[O,Wg];rcases hag with⟨w1,X⟩|w
    ·exact .inl ⟨w1,q2,X⟩
    ·exact .inr w
  ·obtain⟨w1,X⟩:=good hge h0;unfold jy at X;rw[if_pos (bke.2 ⟨hs,hn⟩)]at X;exact nx 2 (λh=>absurd h (by decide)) (λh=>absurd h (by decide)) (z20 X.symm rfl)
  ·obtain⟨w1,X⟩:=good hge h0;unfold jy at X;rw[if_neg (λh=>(bke.1 h).2 hn)]at X;exact nx e4 g4 (λ_=>w1) (xR h0 X)
  ·obtain⟨w1,X⟩:=good hge h0;unfold jy at X;rw[if_neg (λh=>hs (bke.1 h).1)]at X;exact nx e4 g4 (λ_=>w1) (xR h0 X)
 ·exactλZ cc _=>⟨⟨.mk 0 (mkS []) (Z,fs.length,cc) fs (ρ,0,0) [] 0,n1,u,e1⟩,rfl,rfl,rfl,rfl,rfl,rfl,rfl,rfl,rfl,rfl,rfl,rfl,ret Z cc n1 u e1 c1 c0 c2 c3 c4 (by
   rcases cT with⟨q,_⟩|⟨k,q1,q2⟩
   ·exact absurd q hnz
   ·exact z20 q2 q1),λq hq=>z60 hq.1.2 hq.2.1 hq.2.2⟩
end
section
variable (q:Int) (i j:SV) (u v V:Int) (h:AT) (p:List AT) (o:Ck) (J:Nat) (a:Nat×Int×Int×Int×GV) (d:zi) (c:Nat×Int×Int×Int×Int×GV) (e:Nat×Nat×Int×Int×Int×GV) (t:zD) (m:vG) (I:zi) (H:Prop) (C:Nat->Option Obj) (M:Nat×Int×Int×Int×GV) (D:GV) (F:(Option Addr×Nat×Nat)×(Option Addr×Nat×Nat)×Int×Int×Int×Int) (U:Nat×Nat×Int×Int×Int×GV)
 abbrev KO:=True/\qd p i C/\qqu h C/\j.2.1=size o/\qgn C j.1 j.2.1 j.2.2 (q18 o)
 def uX:=i.1=i.1/\i.2.1=i.2.1/\i.2.2=i.2.2/\H
 def KN:=AT.k h=AT.k h/\AT.nm h=AT.nm h/\(AT.al h).1=(AT.al h).1/\(AT.al h).2.1=(AT.al h).2.1/\(AT.al h).2.2=(AT.al h).2.2/\AT.it h=AT.it h/\(AT.sy h).1=(AT.sy h).1/\(AT.sy h).2.1=(AT.sy h).2.1/\(AT.sy h).2.2=(AT.sy h).2.2/\AT.hd h=AT.hd h/\AT.df h=AT.df h/\AT.sz h=AT.sz h/\(AT.f h).1=(AT.f h).1/\(AT.f h).2.1=(AT.f h).2.1/\(AT.f h).2.2=(AT.f h).2.2/\(AT.br h).1=(AT.br h).1/\(AT.br h).2.1=(AT.br h).2.1/\(AT.br h).2.2=(AT.br h).2.2/\H
 def Rz:=uK a.2.2.2.2/\Zy p h q o u v a.1 a.2.1 a.2.2.1 a.2.2.2.1 (Ω a.2.2.2.2,ε (qqg a.2.2.2.2))
 def v8:=(KO i j h p o C)/\η a.2.2.2.2 C
 def EJ:=d.1.1=i.1/\d.1.2.1=i.2.1/\d.1.2.2=i.2.2/\d.2.1.1=j.1/\d.2.1.2.1=j.2.1/\d.2.1.2.2=j.2.2/\H
 def Rw:=d.2.1.2.1=size d.2.2.1/\qgn C d.2.1.1 d.2.1.2.1 d.2.1.2.2 (q18 d.2.2.1)
 abbrev km:=qN d.2.2.1 d.2.2.2.1 d.2.2.2.2.2
 def EG:=τ t.1=τ a.2.2.2.2/\π t.1=π a.2.2.2.2/\(ζ t.1).1=(ζ a.2.2.2.2).1/\(ζ t.1).2.1=(ζ a.2.2.2.2).2.1/\(ζ t.1).2.2=(ζ a.2.2.2.2).2.2/\(θ t.1).1=(θ a.2.2.2.2).1/\(θ t.1).2.1=(θ a.2.2.2.2).2.1/\(θ t.1).2.2=(θ a.2.2.2.2).2.2/\ψ t.1=ψ a.2.2.2.2/\H
 def Ry:=i.1=d.1.1/\i.2.1=d.1.2.1/\i.2.2=d.1.2.2/\j.1=d.2.1.1/\j.2.1=d.2.1.2.1/\j.2.2=d.2.1.2.2/\H
 def EF:=∃(g:zD),EG a g (Ry i j d (g.2.1=(km d).2.1/\g.2.2.1=d.2.2.2.2.1/\g.2.2.2=(km d).2.2/\z17 (ko (qu p o q) o h (toNat u) (toNat v)) o u v 0 g/\(∀r,v8 i j h p o a r->η g.1 r)/\True))
 def Rx:=F.2.2.2.2.2=2/\F.1.1=d.1.1/\F.1.2.1=d.1.2.1/\F.1.2.2=d.1.2.2/\F.2.1.1=d.2.1.1/\F.2.1.2.1=d.2.1.2.1/\F.2.1.2.2=d.2.1.2.2/\H
 def EM:=F.2.2.1=(km d).2.1/\F.2.2.2.1=d.2.2.2.2.1/\F.2.2.2.2.1=(km d).2.2/\True/\H
 def EL:=uK c.2.2.2.2.2/\J1 p h q o u v c.1 c.2.1 c.2.2.1 c.2.2.2.1 d.2.2.2.2.1 c.2.2.2.2.1 (Ω c.2.2.2.2.2,ε (qqg c.2.2.2.2.2))
 def Ru:=KN h (τ c.2.2.2.2.2=τ a.2.2.2.2/\π c.2.2.2.2.2=π a.2.2.2.2/\(ζ c.2.2.2.2.2).1=(ζ a.2.2.2.2).1/\(ζ c.2.2.2.2.2).2.1=(ζ a.2.2.2.2).2.1/\(ζ c.2.2.2.2.2).2.2=(ζ a.2.2.2.2).2.2/\(θ c.2.2.2.2.2).1=(θ a.2.2.2.2).1/\(θ c.2.2.2.2.2).2.1=(θ a.2.2.2.2).2.1/\(θ c.2.2.2.2.2).2.2=(θ a.2.2.2.2).2.2/\ψ c.2.2.2.2.2=ψ a.2.2.2.2/\(∀g,v8 i j h p o a g->v8 i j h p o a g)/\(∀r,v8 i j h p o a r->η c.2.2.2.2.2 r)/\(EL q u v h p o d c)/\True)
 abbrev ED:=qD d.2.2.1 d.2.2.2.1/\(∀g,v8 i j h p o a g->Rw d g)/\Ji ((km d).1<0) (∃(r:(Option Addr×Nat×Nat)×(Option Addr×Nat×Nat)×Int×Int×Int×Int),Rx d (EM d (∃(w:Nat×Int×Int×Int×Int×GV),w.2.2.1=(km d).1/\q=q/\w.2.1=u/\i.1=r.1.1/\i.2.1=r.1.2.1/\i.2.2=r.1.2.2/\j.1=r.2.1.1/\j.2.1=r.2.1.2.1/\j.2.2=r.2.1.2.2/\w.2.2.2.1=r.2.2.1/\I.2.2.2.2.1=r.2.2.2.1/\(w.2.2.2.2.1=if r.2.2.2.2.1=0 then r.2.2.2.2.2 else r.2.2.2.2.1)/\Ru q i j v V h p o a I w) r) r) (∃(S:Nat×Int×Int×Int×Int×GV),S.2.2.1=(km d).1/\q=q/\S.2.1=u/\Ry i j d (S.2.2.2.1=(km d).2.1/\I.2.2.2.2.1=d.2.2.2.2.1/\S.2.2.2.2.1=(km d).2.2/\Ru q i j v V h p o a I S))
 abbrev wm:=(ζ e.2.2.2.2.2).2
 abbrev wo:=(θ e.2.2.2.2.2).2
 def Xr:=uK e.2.2.2.2.2/\V7 p h q o u v e.1 d.2.2.2.2.1 c.2.1 c.2.2.1 c.2.2.2.1 e.2.1 e.2.2.1 e.2.2.2.1 e.2.2.2.2.1 (Ω e.2.2.2.2.2,ε (qqg e.2.2.2.2.2))
 def z49:=((v8 i j h p o a C)/\η c.2.2.2.2.2 C)/\η e.2.2.2.2.2 C
 abbrev RB:=Jb (q+1)
 def ey:=qd m.1 m.2.1.1 C/\m.2.1.2.1.2.1=size m.2.1.2.2.1/\qgn C m.2.1.2.1.1 m.2.1.2.1.2.1 m.2.1.2.1.2.2 (q18 m.2.1.2.2.1)
 def EE:=(yz m<J/\zp m.1/\qD m.2.1.2.2.1 m.2.1.2.2.2.1/\(0<=m.2.1.2.2.2.2.1/\m.2.1.2.2.2.2.1<=2000)/\0<=m.2.1.2.2.2.2.2/\(0<=m.2.2.1/\m.2.2.1<(↑(length m.1):Int))/\1<=m.2.2.2/\m.2.2.2<=21)/\(∀g,z49 i j h p o a c e g->ey m g)/\H
 abbrev EI:=qM m.1 m.2.1.2.2.1 (toNat ((21:Int)- m.2.2.2)) m.2.2.1 (toNat m.2.1.2.2.2.1) (toNat m.2.1.2.2.2.2.1)
 def Rt:=RB q/\∃(g:vG),g.2.2.1=AT.it h/\g.2.2.2=q+1/\g.2.1.1.1=i.1/\g.2.1.1.2.1=i.2.1/\g.2.1.1.2.2=i.2.2/\g.2.1.2.1.1=j.1/\g.2.1.2.1.2.1=j.2.1/\g.2.1.2.1.2.2=j.2.2/\g.2.1.2.2.2.1=e.2.2.1/\g.2.1.2.2.2.2.1=e.2.2.2.1/\g.2.1.2.2.2.2.2=e.2.2.2.2.1/\EE i j h p o J a c e g (∀(w:zD),z17 (EI g) g.2.1.2.2.1 g.2.1.2.2.2.1 (g.2.1.2.2.2.2.1+1) g.2.1.2.2.2.2.2 w->(∃K,(z49 i j h p o a c e K)/\η w.1 K)->False)
 def eg:=(Rt q i j h p o J a c e)/\(Rt q i j h p o J a c e)/\Rt q i j h p o J a c e
 abbrev uY:=kO d.2.2.1 d.2.2.2.1 d.2.2.2.2.2
 abbrev EN:=Jb ((↑e.2.1:Int)+1)
 def EH:=(↑e.2.1:Int)=(↑U.2.1:Int)+1/\c.2.2.1=c.2.2.1/\q=q/\c.2.1=c.2.1/\c.2.2.2.1=c.2.2.2.1/\i.1=m.2.1.1.1/\i.2.1=m.2.1.1.2.1/\i.2.2=m.2.1.1.2.2/\j.1=m.2.1.2.1.1/\j.2.1=m.2.1.2.1.2.1/\j.2.2=m.2.1.2.1.2.2/\e.2.2.1=t.2.1/\e.2.2.2.1=t.2.2.1/\e.2.2.2.2.1=t.2.2.2/\H
 def eo:=EN e/\∃(g:Nat×Nat×Int×Int×Int×GV),EH q i j c g t m (KN h (τ g.2.2.2.2.2=τ D/\π g.2.2.2.2.2=π D/\(ζ g.2.2.2.2.2).1=(ζ D).1/\(wm g).1=(ζ D).2.1/\(wm g).2=(ζ D).2.2/\(θ g.2.2.2.2.2).1=(θ D).1/\(wo g).1=(θ D).2.1/\(wo g).2=(θ D).2.2/\ψ g.2.2.2.2.2=ψ D/\(∀r,((z49 i j h p o a c e r)/\η t.1 r)/\η D r->(v8 i j h p o a r)/\η c.2.2.2.2.2 r)/\(∀w,((z49 i j h p o a c e w)/\η t.1 w)/\η D w->η g.2.2.2.2.2 w)/\(Xr q u v h p o d c g)/\toNat c.2.1- g.2.1<toNat c.2.1- e.2.1/\True)) e
 def eh:=EN e/\∃(g:Nat×Nat×Int×Int×Int×GV),EH q i j c g t m (KN h (τ g.2.2.2.2.2=τ e.2.2.2.2.2/\π g.2.2.2.2.2=π e.2.2.2.2.2/\(ζ g.2.2.2.2.2).1=(ζ e.2.2.2.2.2).1/\(wm g).1=(wm e).1/\(wm g).2=(wm e).2/\(θ g.2.2.2.2.2).1=(θ e.2.2.2.2.2).1/\(wo g).1=(wo e).1/\(wo g).2=(wo e).2/\ψ g.2.2.2.2.2=ψ e.2.2.2.2.2/\(∀r,(z49 i j h p o a c e r)/\η t.1 r->(v8 i j h p o a r)/\η c.2.2.2.2.2 r)/\(∀w,(z49 i j h p o a c e w)/\η t.1 w->η g.2.2.2.2.2 w)/\(Xr q u v h p o d c g)/\toNat c.2.1- g.2.1<toNat c.2.1- e.2.1/\True)) e
 def sV:=Ji (t.2.2.2=0) (∃(g:GV×Ck×GV),τ g.1=τ e.2.2.2.2.2/\π g.1=π e.2.2.2.2.2/\(ζ g.1).1=(ζ e.2.2.2.2.2).1/\(ζ g.1).2.1=(wm e).1/\(ζ g.1).2.2=(wm e).2/\(θ g.1).1=(θ e.2.2.2.2.2).1/\(θ g.1).2.1=(wo e).1/\(θ g.1).2.2=(wo e).2/\ψ g.1=ψ e.2.2.2.2.2/\g.2.1=(uY d).1/\τ g.2.2=τ t.1/\π g.2.2=π t.1/\(ζ g.2.2).1=(ζ t.1).1/\(ζ g.2.2).2.1=(ζ t.1).2.1/\(ζ g.2.2).2.2=(ζ t.1).2.2/\(θ g.2.2).1=(θ t.1).1/\(θ g.2.2).2.1=(θ t.1).2.1/\(θ g.2.2).2.2=(θ t.1).2.2/\ψ g.2.2=ψ t.1/\(length (Ω g.1)=length (qqg g.1)/\length (qqg g.1)<1000000)/\(∀r,(z49 i j h p o a c e r)/\η t.1 r->η g.1 r/\η g.2.2 r)/\∀(w:GV),υ w=PV.mk (τ g.1) (π g.1) (zC g.2.1 (Ω g.1) (ε (qqg g.1)) (υ g.2.2)) (qO g.2.1 (Ω g.1)) (ψ g.1)->(∃K,((z49 i j h p o a c e K)/\η t.1 K)/\η w K)->eo q i j u v h p o a I c e t m w) (eh q i j u v h p o a I c e t m)
 def EK:=EE i j h p o J a c e m (∀(g:zD),z17 (EI m) m.2.1.2.2.1 m.2.1.2.2.2.1 (m.2.1.2.2.2.2.1+1) m.2.1.2.2.2.2.2 g->(∃r,(z49 i j h p o a c e r)/\η g.1 r)->sV q i j u v h p o a d c e g m I)
 def eu:=RB q/\∃(g:vG),g.2.2.1=AT.it h/\g.2.2.2=q+1/\g.2.1.1.1=d.1.1/\g.2.1.1.2.1=d.1.2.1/\g.2.1.1.2.2=d.1.2.2/\g.2.1.2.1.1=d.2.1.1/\g.2.1.2.1.2.1=d.2.1.2.1/\g.2.1.2.1.2.2=d.2.1.2.2/\g.2.1.2.2.2.1=(uY d).2.1/\g.2.1.2.2.2.2.1=d.2.2.2.2.1/\g.2.1.2.2.2.2.2=(uY d).2.2/\EK q i j u v h p o J a d c e g I
 abbrev sU:=Ji (AT.k h=12) (eg q i j h p o J a c e) (∃(z:zi),EJ i j z (z.2.2.2.1=e.2.2.1/\z.2.2.2.2.1=e.2.2.2.1/\z.2.2.2.2.2=e.2.2.2.2.1/\qD z.2.2.1 z.2.2.2.1/\(∀Q,z49 i j h p o a c e Q->Rw z Q)/\(uY z).1=(uY z).1/\size (uY z).1<9223372036854775808/\((!qP (uY z).1)=ι->∃(A:(Option Addr×Nat×Nat)×(Option Addr×Nat×Nat)×Int×Int×Int×Int),Rx z (A.2.2.1=(uY z).2.1/\A.2.2.2.1=z.2.2.2.2.1/\A.2.2.2.2.1=(uY z).2.2/\True/\RB q/\∃(B:vG),B.2.2.1=AT.it h/\B.2.2.2=q+1/\B.2.1.1.1=A.1.1/\B.2.1.1.2.1=A.1.2.1/\B.2.1.1.2.2=A.1.2.2/\B.2.1.2.1.1=A.2.1.1/\B.2.1.2.1.2.1=A.2.1.2.1/\B.2.1.2.1.2.2=A.2.1.2.2/\B.2.1.2.2.2.1=A.2.2.1/\B.2.1.2.2.2.2.1=A.2.2.2.1/\(B.2.1.2.2.2.2.2=if A.2.2.2.2.1=0 then A.2.2.2.2.2 else A.2.2.2.2.1)/\EK q i j u v h p o J a z c e B d) A)/\((!qP (uY z).1)=ς->eu q i j u v h p o J a z c e d)))
 abbrev EC:=KN h (τ a.2.2.2.2=τ e.2.2.2.2.2/\π a.2.2.2.2=π e.2.2.2.2.2/\(ζ a.2.2.2.2).1=(ζ e.2.2.2.2.2).1/\(ζ a.2.2.2.2).2.1=(wm e).1/\(ζ a.2.2.2.2).2.2=(wm e).2/\(θ a.2.2.2.2).1=(θ e.2.2.2.2.2).1/\(θ a.2.2.2.2).2.1=(wo e).1/\(θ a.2.2.2.2).2.2=(wo e).2/\ψ a.2.2.2.2=ψ e.2.2.2.2.2/\(∀g,z49 i j h p o M c e g->KO i j h p o g)/\(∀r,z49 i j h p o M c e r->η a.2.2.2.2 r)/\(Rz q u v h p o a)/\(((2:Nat)*toNat ((2001:Int)- a.2.2.1)+if a.2.2.2.1=0 then 1 else 0)<2*toNat ((2001:Int)- M.2.2.1)+if M.2.2.2.1=0 then 1 else 0)/\True)
 def RA:=∃(g:Nat×Int×Int×Int×GV),q=q/\uX i (uX j (g.2.1=e.2.2.1/\g.2.2.1=e.2.2.2.1/\g.2.2.2.1=e.2.2.2.2.1/\EC q i j u v h p o g c e a))
 def ew:=Jb (e.2.2.1- c.2.2.2.1)/\((!decide (e.2.2.1- c.2.2.2.1=c.2.2.1))=ι->∃(g:Nat×Int×Int×Int×GV),q=q/\uX i (uX j (g.2.1=e.2.2.1/\g.2.2.1=e.2.2.2.1/\g.2.2.2.1=2/\EC q i j u v h p o g c e a)))/\((!decide (e.2.2.1- c.2.2.2.1=c.2.2.1))=ς->RA q i j u v h p o a c e)
 def ed:=Ji (0<=c.2.2.1) (ew q i j u v h p o a c e) (RA q i j u v h p o a c e)
 def S6:=Ji (e.2.2.2.2.1=0) (ed q i j u v h p o a c e) (RA q i j u v h p o a c e)
 def sS:=Ji (e.2.2.2.2.1=0) (sU q i j u v h p o J a d c e) (S6 q i j u v h p o a c e)
 def sR:=Ji ((↑e.2.1:Int)<c.2.1) (sS q i j u v h p o J a d c e) (S6 q i j u v h p o a c e)
 def sQ:=(∃(g:Nat×Nat×Int×Int×Int×GV),(↑g.2.1:Int)=0/\c.2.2.1=c.2.2.1/\q=q/\c.2.1=c.2.1/\c.2.2.2.1=c.2.2.2.1/\uX i (uX j (g.2.2.1=c.2.2.2.1/\g.2.2.2.1=d.2.2.2.2.1/\g.2.2.2.2.1=c.2.2.2.2.1/\KN h (τ g.2.2.2.2.2=τ c.2.2.2.2.2/\π g.2.2.2.2.2=π c.2.2.2.2.2/\(ζ g.2.2.2.2.2).1=(ζ c.2.2.2.2.2).1/\(wm g).1=(ζ c.2.2.2.2.2).2.1/\(wm g).2=(ζ c.2.2.2.2.2).2.2/\(θ g.2.2.2.2.2).1=(θ c.2.2.2.2.2).1/\(wo g).1=(θ c.2.2.2.2.2).2.1/\(wo g).2=(θ c.2.2.2.2.2).2.2/\ψ g.2.2.2.2.2=ψ c.2.2.2.2.2/\(∀r,(v8 i j h p o a r)/\η c.2.2.2.2.2 r->(v8 i j h p o a r)/\η c.2.2.2.2.2 r)/\(∀w,(v8 i j h p o a w)/\η c.2.2.2.2.2 w->η g.2.2.2.2.2 w)/\(Xr q u v h p o d c g)/\True))))/\∀(K:Nat×Nat×Int×Int×Int×GV),Xr q u v h p o d c K->(∃T,z49 i j h p o a c K T)->sR q i j u v h p o J a d c K
 abbrev sP:=(Ji ((km d).1<0) (∃(g:Int),g=Δ i64 ((0:Int)- (km d).1)/\Ji (g<0) (∃(r:(Option Addr×Nat×Nat)×(Option Addr×Nat×Nat)×Int×Int×Int×Int),Rx d (EM d (∃(w:zi),w.1.1=r.1.1/\w.1.2.1=r.1.2.1/\w.1.2.2=r.1.2.2/\w.2.1.1=r.2.1.1/\w.2.1.2.1=r.2.1.2.1/\w.2.1.2.2=r.2.1.2.2/\w.2.2.2.1=r.2.2.1/\w.2.2.2.2.1=r.2.2.2.1/\(w.2.2.2.2.2=if r.2.2.2.2.1=0 then r.2.2.2.2.2 else r.2.2.2.2.1)/\ED q i j g u v h p o a w d) r) r) (∃(E:zi),E.1.1=d.1.1/\E.1.2.1=d.1.2.1/\E.1.2.2=d.1.2.2/\E.2.1.1=d.2.1.1/\E.2.1.2.1=d.2.1.2.1/\E.2.1.2.2=d.2.1.2.2/\E.2.2.2.1=(km d).2.1/\E.2.2.2.2.1=d.2.2.2.2.1/\E.2.2.2.2.2=(km d).2.2/\ED q i j g u v h p o a E d)) (∃(L:Nat×Int×Int×Int×Int×GV),L.2.2.1= -1/\q=q/\L.2.1=(km d).1/\Ry i j d (L.2.2.2.1=(km d).2.1/\d.2.2.2.2.1=d.2.2.2.2.1/\L.2.2.2.2.1=(km d).2.2/\Ru q i j u v h p o a d L)))/\∀(O:Nat×Int×Int×Int×Int×GV),EL q u v h p o d O->(∃R,(v8 i j h p o a R)/\η O.2.2.2.2.2 R)->sQ q i j u v h p o J a d O
 def sO:=Ji ((km d).1=0) (EF q i j u v h p o a d) (sP q i j u v h p o J a d)
 def sN:=Ji (a.2.2.2.1=0) (∃(g:zi),EJ i j g (g.2.2.2.1=a.2.1/\g.2.2.2.2.1=a.2.2.1/\g.2.2.2.2.2=a.2.2.2.1/\qD g.2.2.1 g.2.2.2.1/\(∀r,v8 i j h p o a r->Rw g r)/\((!decide ((km g).2.2=0))=ι->EF q i j u v h p o a g)/\((!decide ((km g).2.2=0))=ς->sO q i j u v h p o J a g))) (∃(G:zD),EG a G (uX i (uX j (G.2.1=a.2.1/\G.2.2.1=a.2.2.1/\G.2.2.2=a.2.2.2.1/\z17 (ko (qu p o q) o h (toNat u) (toNat v)) o u v 0 G/\(∀N,v8 i j h p o a N->η G.1 N)/\True))))
 def sL:=(∃(g:Nat×Int×Int×Int×GV),q=q/\uX i (uX j (g.2.1=u/\g.2.2.1=v/\g.2.2.2.1=V/\KN h (τ g.2.2.2.2=0/\π g.2.2.2.2=mkS []/\(ζ g.2.2.2.2).1=noA/\(ζ g.2.2.2.2).2.1=0/\(ζ g.2.2.2.2).2.2=0/\(θ g.2.2.2.2).1=noA/\(θ g.2.2.2.2).2.1=0/\(θ g.2.2.2.2).2.2=0/\ψ g.2.2.2.2=0/\(∀r,KO i j h p o r->KO i j h p o r)/\(∀w,KO i j h p o w->η g.2.2.2.2 w)/\(Rz q u v h p o g)/\True))))/\∀(K:Nat×Int×Int×Int×GV),Rz q u v h p o K->(∃T,v8 i j h p o K T)->sN q i j u v h p o J K
end
def zjt(c:Nat) (S:List AT) (x y:SV) (D:Ck) (n all e:Int) (a:AT) (h:Int):qk3 P (qf5 [(55,ZF),(57,Kc),(58,Uw),(59,uP)]) (qg7 [(31,wB.below yz c),(24,Q5)]) Tryz.f62 ((Jj AA).below x8 (c+1)) (Hu ς) ⟨S,⟨x,y,D,n,all,e⟩,a,h⟩=(x8 (S,(x,y,D,n,all,e),a,h)<c+1/\zp S/\a∈S/\AA a/\qD D n/\(0<=all/\all<=2000)/\e=0/\1<=h/\h<=20->(∃(p:Pub),KO x y a S D p)->sL h x y n all e a S D c):=by kernel_rfl
def zqe:=λc S x y D n all e a h=>Ν (zjt c S x y D n all e a h) (by delta Ji Jb Jt Jf KO uX KN Rz v8 EJ Rw km EG Ry EF Rx EM EL Ru ED wm wo Xr z49 RB ey EE EI Rt eg uY EN EH eo eh sV EK eu sU EC RA ew ed S6 sS sR sQ sP sO sN sL;exact rfl)
def Hd(p:Prop):Prop:=p
set_option maxHeartbeats 8000000 in
def j9w (c:Nat) (hv0:q1p P 31 (wB.below yz c)):q1p P 62 ((Jj AA).below x8 (c+1)):=by
 refine zh (qcl (qgj z37 (qgj z40 (qgj Ph (qgj z45 qjq))))) (qdd (qgi hv0 (qgi z78 qjp))) (W:=Hu ς) Tryz.func62 λ⟨S,⟨(x:SV),(y:SV),D,(n:Int),(all:Int),(e:Int)⟩,a,(G:Int)⟩=>(zqe c S x y D n all e a G).mpr ?_;rintro⟨hmu,hok,haS,hk,hd,⟨ha0,ha1⟩,he,hp1,hp2⟩ ⟨p,_,hx,hao,hyl,hy⟩;subst he;have hmu:(25- G).toNat<c+1:=hmu;have hk:a.k=13:=hk;have hmp:decide (a.k=13)=true:=decide_eq_true hk;have hit:=(hok.2.2 a haS).2.2.1 (.inr hk);simp only[qB,exists_const,forall_const,γ,hk];refine⟨⟨⟨D.size+1- n.toNat,n,all,0,zV⟩,rfl,rfl,rfl,rfl,rfl,rfl,rfl,rfl,rfl,rfl,rfl,rfl,λq _=>jc q,⟨rfl,rfl,rfl,rfl⟩,⟨⟨hd,ω _⟩,⟨ω _,by show all<=2001;omega⟩,λ_=>ha1,by show((0:Nat):Int)<=all;omega⟩,(by have:=hd.1;have:=hd.2.1;show(D.size:Int)<((D.size+1- n.toNat:Nat):Int)+n;omega), .inl ⟨rfl,rfl⟩⟩,?_⟩;rintro⟨F,n1,C,e1,u⟩ ⟨⟨u1,u2,u3,u4⟩,⟨⟨c1,c0⟩,⟨c2,c3⟩,c4,c5⟩,cF,cT⟩ ⟨p1,hp1',hfs⟩;simp only at u1 u2 u3 u4 c0 c1 c2 c3 c4 c5 cF cT hfs⊢;have c5:(u.l.length:Int)<=C:=by rw[ξ]at c5;exact c5
 have ret:∀(n' A e':Int),qD D n'->n<=n'->all<=A->A<=2001->(e'=0->A<=2000)->vA (zr S a G D n all) e' (zr S a G D n all= .ok ((u.ks,ε u.l),n'.toNat,A.toNat))->z17 (ko (qu S D G) D a n.toNat all.toNat) D n all 0 (u,n',A,e'):=λn' A e' J hn h2 h3 h4 h5=>zw2 (u.ks,ε u.l) (by rw[qqb,u1,u2,u3]) J h2 h3 h4 ha0 hn h5;refine⟨λhz=> ?_,λhnz=> ?_⟩
 ·subst hz;have hB:vH (qu S D G a.it) D ι F (u.ks,ε u.l) n1.toNat C.toNat=zr S a G D n all:=by
   rcases cT with⟨_,q⟩|⟨k,q,_⟩
   ·rw[hmp]at q;exact q
   ·omega
  have c4':=c4 rfl;have hh:=P' (show n1.toNat<=D.size by have:=c1.1;have:=c1.2.1;omega) (show D.size<F+n1.toNat by have:=c1.1;omega) hB;have hl:=LM c1;refine⟨⟨x,y,D,n1,C,0⟩,rfl,rfl,rfl,rfl,rfl,rfl,rfl,rfl,rfl,c1,λq hq=>hq.1.2.2,?_⟩;simp only[Kh c1,true_and,and_true,eq_self];have hl2:=LM hl.ok;have hg2:=Kh hl.ok;rw[γ]at hl2 hg2;generalize qb D n1.toNat=T at*;obtain⟨v,H,n2⟩:=T;simp only at hh hl hl2 hg2⊢;obtain⟨l1,l0,l2,l3,l4,l5⟩:=hl;obtain⟨m1,m0,m2,m3,m4,m5⟩:=hl2;refine⟨λhe=> ?_,λhe=>⟨λhv=> ?_,λhv=>⟨⟨λhv0=> ?_,λhv0=> ?_⟩,?_⟩⟩⟩
  ·refine⟨⟨u,n2,C,H⟩,rfl,rfl,rfl,rfl,rfl,rfl,rfl,rfl,rfl,rfl,rfl,rfl,ret n2 C H l1 (by omega) c2 c3 (λh=>absurd h he) (z20 (hh.1 (by omega)) (by omega)),λq hq=>hq.2⟩
  ·have he0:H=0:=(by omega);subst he0;refine⟨⟨u,n2,C,0⟩,rfl,rfl,rfl,rfl,rfl,rfl,rfl,rfl,rfl,rfl,rfl,rfl,ret n2 C 0 l1 (by omega) c2 c3 (λ_=>c4') (xR rfl (by rw[hh.2.1 rfl hv,γ])),λq hq=>hq.2⟩
  ·have er0:H=0:=(by omega);subst er0;refine⟨_,rfl,λhneg=> ?_,λhnn=> ?_⟩
   ·have hvm:v= -9223372036854775808:=by
     by_cases h:v= -9223372036854775808
     ·exact h
     ·rw[Yf (by omega) l4]at hneg;omega
    subst hvm;refine⟨⟨x,y,n2,C,0,2⟩,rfl,rfl,rfl,rfl,rfl,rfl,rfl,rfl,rfl,rfl,⟨x,y,D,n2,C,2⟩,rfl,rfl,rfl,rfl,rfl,rfl,rfl,rfl,rfl,l1,λq hq=>hq.1.2.2,?_⟩;have hbad:qN D n2 2=((0:Int),((n2:Nat):Int),(2:Int)):=(by unfold qN;rw[if_pos (by decide)]);simp only[hbad,true_and,and_true,eq_self];refine⟨λh=>absurd h (by decide),λ_=>⟨⟨D.size+1,_,0,n2,2,u⟩,rfl,rfl,rfl,rfl,rfl,rfl,rfl,rfl,rfl,rfl,rfl,rfl,rfl,λq hq=>hq.2,⟨u1,u2,u3,u4⟩,⟨⟨⟨l1,by show n<=((n2:Nat):Int);omega⟩,⟨c2,c3⟩,λh=>absurd h (by show¬(2:Int)=0;decide),by show((ε u.l).length:Int)<=_;rw[ξ];exact c5⟩,by show Δ .i64 (0 - -9223372036854775808)<=_;rw[HL];decide,by show(D.size:Int)<((D.size+1:Nat):Int)+n2;omega,z20 (hh.2.2.2.1 rfl rfl) rfl⟩⟩⟩
   ·have hvm:v≠ -9223372036854775808:=λh=>(by subst h;rw[HL]at hnn;exact hnn (by decide));have hh5:=hh.2.2.2.2 rfl hv0 hvm;rw[Yf (by omega) l4];refine⟨⟨x,y,D,n2,C,0⟩,rfl,rfl,rfl,rfl,rfl,rfl,rfl,rfl,rfl,l1,λq hq=>hq.1.2.2,?_⟩;simp only[hg2,true_and,and_true,eq_self];have hm0:n<=(((qb D n2).2.2:Nat):Int):=(by omega);generalize qb D n2=U at*;obtain⟨z,V,Z⟩:=U;simp only at hm0 hh5 m1 m2 m3 m4 m5⊢;have cut:∀(F':Nat) (e2:Int),D.size<F'+Z->vA (zr S a G D n all) e2 (1<= -v/\(jR (qu S D G a.it) D (decide (a.k=13)) (-v).toNat (u.ks,ε u.l) ((Z:Nat):Int).toNat C.toNat).bind (jy S a G D F' Z z)=zr S a G D n all)->J1 S a G D n all F' (-v) z Z C e2 (u.ks,ε u.l):=λF' e2 J h2=>⟨⟨⟨m1,hm0⟩,⟨c2,c3⟩,λ_=>c4',by show((ε u.l).length:Int)<=_;rw[ξ];exact c5⟩,CN l3 hvm,CG J,h2⟩;refine⟨λhz=>⟨⟨x,y,Z,C,V,2⟩,rfl,rfl,rfl,rfl,rfl,rfl,rfl,rfl,rfl,rfl,⟨D.size+1,_,_,Z,(if((V:Nat):Int)=0 then 2 else((V:Nat):Int)),u⟩,rfl,rfl,rfl,rfl,rfl,rfl,rfl,rfl,rfl,rfl,rfl,rfl,rfl,rfl,rfl,rfl,rfl,rfl,rfl,rfl,λq hq=>hq.2,⟨u1,u2,u3,u4⟩,?_⟩,λhz=> ?_⟩
    ·refine cut _ _ (by omega) ?_;show vA _ (if((V:Nat):Int)=0 then(2:Int)else((V:Nat):Int)) _;by_cases h:V=0
     ·rw[h];exact z20 (hh5.2.1 h hz) rfl
     ·have h9:(if((V:Nat):Int)=0 then(2:Int)else((V:Nat):Int))=((V:Nat):Int):=if_neg (λq=>h (Int.natCast_eq_zero.1 q));rw[h9];exact z20 (hh5.1 h) (LN h)
    ·by_cases h:V=0
     ·obtain⟨F',f1,f2⟩:=hh5.2.2 h (by omega);refine⟨⟨F',_,_,Z,_,u⟩,rfl,rfl,rfl,rfl,rfl,rfl,rfl,rfl,rfl,rfl,rfl,rfl,rfl,λq hq=>hq.2,⟨u1,u2,u3,u4⟩,cut _ _ f1 (xR (Int.natCast_eq_zero.2 h) ⟨by omega,?_⟩)⟩;rw[hmp,γ,←f2];unfold jy Zf;rw[hmp,γ]
     ·exact⟨⟨D.size+1,_,_,Z,_,u⟩,rfl,rfl,rfl,rfl,rfl,rfl,rfl,rfl,rfl,rfl,rfl,rfl,rfl,λq hq=>hq.2,⟨u1,u2,u3,u4⟩,cut _ _ (by omega) (z20 (hh5.1 h) (LN h))⟩
  ·have er0:H=0:=(by omega);obtain⟨F',f1,f2⟩:=hh.2.2.1 er0 (by omega);refine⟨⟨F',_,_,n2,_,u⟩,rfl,rfl,rfl,rfl,rfl,rfl,rfl,rfl,rfl,rfl,rfl,rfl,rfl,λq hq=>hq.2,⟨u1,u2,u3,u4⟩,⟨⟨⟨l1,by show n<=((n2:Nat):Int);omega⟩,⟨c2,c3⟩,λ_=>c4',by show((ε u.l).length:Int)<=_;rw[ξ];exact c5⟩,by show v<=_;omega,by show(D.size:Int)<F'+((n2:Nat):Int);omega,xR he ⟨by show 1<=v;omega,?_⟩⟩⟩;rw[hmp,γ,←f2];unfold jy Zf;rw[hmp,γ]
  clear hh hg2 m0 m1 m2 m3 m4 m5 l0 l1 l2 l3 l4 l5;rintro⟨F2,cnt,sz,Z,e3,w⟩ ⟨⟨w1,w2,w3,w4⟩,⟨⟨d1,d0⟩,⟨d2,d3⟩,d4,d5⟩,dC,dF,dT⟩ ⟨p3,hp3,hgs⟩;simp only at w1 w2 w3 w4 d0 d1 d2 d3 d4 d5 dC dF dT hgs⊢;refine⟨⟨⟨F2,0,Z,C,e3,w⟩,rfl,rfl,rfl,rfl,rfl,rfl,rfl,rfl,rfl,rfl,rfl,rfl,rfl,λq hq=>hq.2,⟨w1,w2,w3,w4⟩,⟨⟨.inl rfl,ω _,λ_=>by show C+((0:Nat):Int)<=C;omega⟩,⟨⟨d1,d0⟩,⟨d2,d3⟩,d4,d5⟩,⟨d1.1,ω _⟩,dF,?_⟩⟩,?_⟩
  ·rcases dT with⟨q1,q2,X⟩|q
   ·refine .inl ⟨q1,q2,?_⟩;show(jR _ _ _ (cnt- ((0:Nat):Int)).toNat _ _ _).bind _=_;rw[show(cnt- ((0:Nat):Int))=cnt by omega];exact X
   ·exact .inr q
  rintro⟨F3,i,n4,B,e4,v⟩ ⟨⟨v1,v2,v3,v4⟩,⟨e1,e2,e2'⟩,⟨⟨g1,g0⟩,⟨g2,g3⟩,g4,g5⟩,⟨e5,e6⟩,eF,eT⟩ ⟨p4,hp4,hus⟩;simp only at v1 v2 v3 v4 e1 e2 e2' g0 g1 g2 g3 g4 g5 e5 e6 eF eT hus⊢;have g5:(v.l.length:Int)<=B:=by rw[ξ]at g5;exact g5
  have nx:∀e':Int,(e'=0->B<=2000)->(e'=0->C<B)->vA (zr S a G D n all) e' (vH (qu S D G a.it) D (decide (a.k=13)) F3 (v.ks,ε v.l) n4.toNat B.toNat=zr S a G D n all)->Zy S a G D n all F3 n4 B e' (v.ks,ε v.l)/\(2*(2001- B).toNat+if e'=0 then 1 else 0)<2*(2001- C).toNat+if True then 1 else 0:=λe' J h2 h3=>by
   refine⟨⟨⟨⟨g1,g0⟩,⟨g2,g3⟩,J,by show((ε v.l).length:Int)<=_;rw[ξ];exact g5⟩,by omega,h3⟩,?_⟩;rw[if_pos trivial];split
   ·rename_i h;have:=h2 h;have:=J h;omega
   ·omega
  have h64: -9223372036854775808<=n4- Z/\n4- Z<=9223372036854775807:=by have:=g1.1;have:=g1.2.1;have:=g1.2.2;have:=d1.1;omega
  have bad:e4≠0->_:=λO=>nx e4 (λh=>absurd h O) (λh=>absurd h O) (by
   rcases eT with⟨q,_⟩|q
   ·exact absurd q O
   ·exact .inr q)
  have good:¬(i:Int)<cnt->e4=0->C<B/\jy S a G D F3 Z sz ((v.ks,ε v.l),n4.toNat,B.toNat)=zr S a G D n all:=λh h0=>by
   rcases eT with⟨_,q2,X⟩|⟨k,q,_⟩
   ·rw[show(cnt- (i:Int)).toNat=0 by omega,jR,zb]at X;exact⟨by have:=e2' h0;omega,X⟩
   ·omega
  have bke:Qh Z.toNat sz n4.toNat=ι↔0<=sz/\n4- Z≠sz:=by unfold Qh;have:=g1.1;have:=d1.1;rw[φ,decide_eq_true_eq,decide_eq_true_eq,Χ (by omega),Χ (by omega)]
  have nu:∀{p q:Prop},p/\q->(uK v/\p)/\q:=λh=>⟨⟨⟨v1,v2,v3,v4⟩,h.1⟩,h.2⟩;refine⟨λhlt=>⟨λh0=> ?_,λO=>⟨λh=>absurd h O,λ_=>⟨⟨F3,n4,B,e4,v⟩,rfl,rfl,rfl,rfl,rfl,rfl,rfl,rfl,rfl,rfl,rfl,rfl,λq hq=>hq.1.1.1,λq hq=>hq.2,nu (bad O)⟩⟩⟩,λhge=>⟨λh0=>⟨λhs=>⟨h64,λhn=>⟨⟨F3,n4,B,2,v⟩,rfl,rfl,rfl,rfl,rfl,rfl,rfl,rfl,rfl,rfl,rfl,rfl,λq hq=>hq.1.1.1,λq hq=>hq.2,?_⟩,λhn=>⟨⟨F3,n4,B,e4,v⟩,rfl,rfl,rfl,rfl,rfl,rfl,rfl,rfl,rfl,rfl,rfl,rfl,λq hq=>hq.1.1.1,λq hq=>hq.2,?_⟩⟩,λhs=>⟨⟨F3,n4,B,e4,v⟩,rfl,rfl,rfl,rfl,rfl,rfl,rfl,rfl,rfl,rfl,rfl,rfl,λq hq=>hq.1.1.1,λq hq=>hq.2,?_⟩⟩,λO=>⟨⟨F3,n4,B,e4,v⟩,rfl,rfl,rfl,rfl,rfl,rfl,rfl,rfl,rfl,rfl,rfl,rfl,λq hq=>hq.1.1.1,λq hq=>hq.2,nu (bad O)⟩⟩⟩
  ·subst h0;obtain⟨q2,X⟩:1<=cnt/\(jR (qu S D G a.it) D ι (cnt- (i:Int)).toNat (v.ks,ε v.l) n4.toNat B.toNat).bind (jy S a G D F3 Z sz)=zr S a G D n all:=by
    rcases eT with⟨_,q2,X⟩|⟨k,q,_⟩
    ·rw[hmp]at X;exact⟨q2,X⟩
    ·omega
   rw[P2 (by omega)]at X;unfold yi at X;rw[if_pos rfl,LP]at X;have g4':=g4 rfl;have e2'':=e2' rfl;have hk1:(cnt- (i:Int)).toNat- 1=(cnt- ((i+1:Nat):Int)).toNat:=(by omega);have ht:=Yd (D:=D) (i:=n4.toNat) (by have:=g1.1;have:=g1.2.1;omega);have hn4:=g1.1;refine⟨λh=>absurd h (by decide),λ_=>⟨⟨x,y,D,n4,B,0⟩,rfl,rfl,rfl,rfl,rfl,rfl,rfl,rfl,rfl,g1,λq hq=>hq.1.1.1.2.2,?_⟩⟩;simp only[CV g1];unfold Uj vu vP at X;generalize qJ D n4.toNat=T at ht X⊢;obtain⟨k,H,m⟩:=T;simp only at ht X⊢;have hdm:qD D m:=⟨by omega,by omega,g1.2.2⟩;have err:∀(n' A e':Int),qD D n'->n4<=n'->(B<=A/\A<=2001)->e'≠0->Hd (∃j:Nat,e'=j+1/\zr S a G D n all= .no j)->V7 S a G D n all F3 C cnt sz Z (i+1) n' A e' (v.ks,ε v.l):=λn' A e' z1 z2 z3 z4 z5=>⟨⟨.inr (by omega),by omega,λh=>absurd h z4⟩,⟨⟨z1,by omega⟩,⟨by omega,by omega⟩,λh=>absurd h z4,by show((ε v.l).length:Int)<=_;rw[ξ];omega⟩,⟨e5,by omega⟩,by omega, .inr z5⟩;generalize hE:(if H=0/\qP k=ς then(2:Int)else H)=E at X;have bd:Hd (H≠0\/qP k=ς->∃j:Nat,(if H=0 then(2:Int)else H)=j+1/\zr S a G D n all= .no j):=λh=>by
    have h2:E=if H=0 then(2:Int)else H:=by
     rw[←hE];by_cases J:H=0
     ·rw[if_pos ⟨J,h.resolve_left (λq=>q J)⟩,if_pos J]
     ·rw[if_neg (λq=>J q.1),if_neg J]
    have h3:1<=E:=(by rw[h2];split<;>omega);rw[if_neg (show¬E=0 by omega),jl]at X;exact⟨(E- 1).toNat,by rw[←h2];omega,X.symm⟩
   have hEg:Hd (H=0->qP k=ι->E=0):=λY hv=>(by rw[←hE,if_neg (by rw[hv];simp),Y]);clear hE eT;have e0:0<=if H=0 then(2:Int)else H:=(by split<;>omega);have hmu2:yz (S,(x,y,D,m,B,H),a.it,G+1)<c:=(by show(25- (G+1)).toNat<c;omega);have h22: -9223372036854775808<=G+1/\G+1<=9223372036854775807:=(by omega);have h21:1<=G+1/\G+1<=21:=(by omega);have h44:0<=B/\B<=2000:=(by omega);refine⟨by omega,λhv=> ?_,λhv=> ?_⟩
   ·refine⟨⟨x,y,m,B,H,2⟩,rfl,rfl,rfl,rfl,rfl,rfl,rfl,rfl,rfl,rfl,h22,⟨S,⟨x,y,D,m,B,(if H=0 then 2 else H)⟩,a.it,G+1⟩,rfl,rfl,rfl,rfl,rfl,rfl,rfl,rfl,rfl,rfl,rfl,⟨hmu2,hok,hdm,h44,e0,hit,h21⟩,λq hq=>⟨hq.1.1.1.1,hq.1.1.1.2.2⟩,?_⟩;rintro⟨r,n',A,e'⟩ ⟨J,h2,h3,h4,h6⟩ _;have O:(if H=0 then(2:Int)else H)≠0:=(by split<;>omega);rw[if_neg O]at J;have J:e'=if H=0 then(2:Int)else H:=J;have h6:m<=n':=h6;have h3:B+1<=A/\A<=2001:=h3;refine⟨λh=>absurd (J.symm.trans h) O,λh=>⟨⟨by omega,by omega⟩,⟨F3,i+1,n',A,e',v⟩,by show((i+1:Nat):Int)=_;omega,?_⟩⟩;simp only[true_and,and_true,eq_self];refine⟨λq hq=>hq.1.1,λq hq=>hq.1.2,⟨⟨v1,v2,v3,v4⟩,err n' A e' h2 (by omega) ⟨by omega,by omega⟩ h (by rw[J];exact(show _->_ from bd) (.inr hv))⟩,by omega⟩
   ·refine⟨h22,⟨S,⟨x,y,D,m,B,H⟩,a.it,G+1⟩,rfl,rfl,rfl,rfl,rfl,rfl,rfl,rfl,rfl,rfl,rfl,⟨hmu2,hok,hdm,h44,by show 0<=H;omega,hit,h21⟩,λq hq=>⟨hq.1.1.1.1,hq.1.1.1.2.2⟩,?_⟩;rintro⟨r,n',A,e'⟩ ⟨J,h2,h3,h4,h6⟩ _;have h6:m<=n':=h6;have h3:B+1<=A/\A<=2001:=h3;by_cases Y:H=0
    ·rw[if_pos Y]at J;have hE0:E=0:=(show _->_->_ from hEg) Y hv;rw[if_pos hE0,zb]at X;rw[show(21- (G+1)).toNat=(20- G).toNat by omega]at J;simp only[LP]at X;have hag:=HO J X;simp only[zb]at hag;rw[hk1]at hag;refine⟨λh=>⟨⟨v,k,r⟩,rfl,rfl,rfl,rfl,rfl,rfl,rfl,rfl,rfl,rfl,rfl,rfl,rfl,rfl,rfl,rfl,rfl,rfl,rfl,⟨v4,by show v.l.length<_;omega⟩,λq hq=>⟨hq.1.2,hq.2⟩,?_⟩,λh=>⟨⟨by omega,by omega⟩,⟨F3,i+1,n',A,e',v⟩,by show((i+1:Nat):Int)=_;omega,?_⟩⟩
     ·intro b hb2 _;have hb2:b.pv=PV.mk v.n v.s (zC k v.ks (ε v.l) r.pv) (qO k v.ks) v.b:=hb2;rw[qqb]at hb2;injection hb2 with b1 b2 b3 b4 b5
      have hpl:=PG k v.ks (ε v.l) r.pv (by rw[ξ];exact v4);rw[←b3,←b4,ξ,ξ]at hpl;refine⟨⟨by omega,by omega⟩,⟨F3,i+1,n',A,e',b⟩,by show((i+1:Nat):Int)=_;omega,?_⟩;simp only[true_and,and_true,eq_self];refine⟨λq hq=>hq.1.1.1,λq hq=>hq.2,⟨⟨b1.trans v1,b2.trans v2,b5.trans v3,hpl.1⟩,⟨.inr (by omega),by omega,λ_=>by omega⟩,⟨⟨h2,by omega⟩,⟨by omega,by omega⟩,h4,by show((ε b.l).length:Int)<=_;rw[ξ];omega⟩,⟨e5,by omega⟩,by omega,?_⟩,by omega⟩;rw[hmp,b3,b4];rcases hag with⟨w1,w2⟩|w
      ·exact .inl ⟨w1,q2,w2⟩
      ·exact .inr w
     ·simp only[true_and,and_true,eq_self];refine⟨λq hq=>hq.1.1,λq hq=>hq.1.2,⟨⟨v1,v2,v3,v4⟩,err n' A e' h2 (by omega) ⟨by omega,by omega⟩ h ?_⟩,by omega⟩;rcases hag with⟨w1,_⟩|w
      ·exact absurd w1 h
      ·exact w
    ·rw[if_neg Y]at J;have J:e'=H:=J;refine⟨λh=>absurd (J.symm.trans h) Y,λh=>⟨⟨by omega,by omega⟩,⟨F3,i+1,n',A,e',v⟩,by show((i+1:Nat):Int)=_;omega,?_⟩⟩;simp only[true_and,and_true,eq_self];have:=(show _->_ from bd) (.inl Y);rw[if_neg Y]at this;exact⟨λq hq=>hq.1.1,λq hq=>hq.1.2,⟨⟨v1,v2,v3,v4⟩,err n' A e' h2 (by omega) ⟨by omega,by omega⟩ h (by rw[J];exact this)⟩,by omega⟩
  ·obtain⟨z1,z2⟩:=good hge h0;unfold jy at z2;rw[if_pos (bke.2 ⟨hs,hn⟩)]at z2;exact nu<|nx 2 (λh=>absurd h (by decide)) (λh=>absurd h (by decide)) (z20 z2.symm rfl)
  ·obtain⟨z1,z2⟩:=good hge h0;unfold jy at z2;rw[if_neg (λh=>(bke.1 h).2 hn)]at z2;exact nu<|nx e4 g4 (λ_=>z1) (xR h0 z2)
  ·obtain⟨z1,z2⟩:=good hge h0;unfold jy at z2;rw[if_neg (λh=>hs (bke.1 h).1)]at z2;exact nu<|nx e4 g4 (λ_=>z1) (xR h0 z2)
 ·exact⟨⟨u,n1,C,e1⟩,rfl,rfl,rfl,rfl,rfl,rfl,rfl,rfl,rfl,rfl,rfl,rfl,ret n1 C e1 c1 c0 c2 c3 c4 (by
   rcases cT with⟨q,_⟩|⟨k,q1,q2⟩
   ·exact absurd q hnz
   ·exact z20 q2 q1),λq hq=>hq.2⟩
def j9x(c:Nat) (G:q1p P 31 (wB.below yz c)):q1p P 62 ((Jj ux).below x8 (c+1)):=by
 have hA:=j9v c G;have U:=j9w c G;refine⟨hA.1,hA.2.1,hA.2.2.1,λs=> ?_⟩;obtain⟨T,e0,X⟩:=hA.2.2.2 s;obtain⟨C,e1,Y⟩:=U.2.2.2 s;have e:C=T:=Option.some.inj (e1.symm.trans e0);subst e;refine⟨C,e0,λF I w vs u a2 a3 a4 hp a5 A B=> ?_⟩;obtain⟨m,H,J,V,O⟩:=hp;rcases V with h|h
 ·exact X F I w vs u a2 a3 a4 ⟨m,H,J,h,O⟩ a5 A B
 ·exact Y F I w vs u a2 a3 a4 ⟨m,H,J,h,O⟩ a5 A B
def P6:∀c,q1p P 31 (wB.below yz c)
 |0=>qqf (by decide) (by decide) (Sen.enters_of Tryz.func31 (by kernel_rfl)) λs=>rfl
 |c+1=>j9z c (P6 c) (j9x c (P6 c))
def ja0:q1p P 31 wB:=qqj P6
def Jg(R:zG) (v:PV) (n e:Int):Prop:=match R with
 | .no k=>e=k+1/\n=0/\v=zV.pv
 | .ok r=>e=0/\v=r.1/\n=r.2.1
abbrev wz:=List AT×SV×Int×SV×Ck
abbrev vF:=GV×Int×Int
def z24(S:List AT) (t:Int) (D:Ck) (b:vF):Prop:=(0<=t/\t<S.length->Jg (qM S D 20 t 0 0) b.1.pv b.2.1 b.2.2)/\(¬(0<=t/\t<S.length)->b.2.2=1/\b.2.1=0/\b.1.pv=zV.pv)/\0<=b.2.1/\b.2.1<=D.size
def Ca:CtR where
 σ:=wz
 args:=λ⟨S,x,t,y,D⟩=>[kh x, .sv (.int .i64 t),zI y]
 h:=λ_=>[]
 m:=1
 pre:=λ⟨S,x,t,y,D⟩=>zp S/\D.size<1000000000000000000
 mem:=λ⟨S,x,t,y,D⟩=>Hq S x y D
 β:=λ_=>vF
 post:=λ⟨S,x,t,y,D⟩ b=>z24 S t D b
 pm:=λ_ ⟨r,n',e'⟩=>vM r
 r:=λ_ ⟨r,n',e'⟩=> .tup [r.av, .sv (.int .i64 n'), .sv (.int .i64 e')]
 h':=λ_ _=>[]
 m':=1
def Ly:∀c,q1p P 27 (uQ.below wv c)
 |0=>qqf (by decide) (by decide) (Sen.enters_of Tryz.func27 (by kernel_rfl)) λs=>rfl
 |c+1=>j0g c (zqh c (Ly c)) (zxh c (zph c (Ly c)) jjd) (j0e c (Ly c))
def jap:q1p P 27 uQ:=qqj Ly
def LC:CtR where
 σ:=wz
 args:=λ⟨S,x,t,y,D⟩=>[kh x, .sv (.int .i64 t),zI y]
 h:=λ_=>[]
 m:=1
 pre:=λ⟨S,x,t,y,D⟩=>zp S/\D.size<100000000000000000
 mem:=λ⟨S,x,t,y,D⟩=>Hq S x y D
 β:=λ_=>vF
 post:=λ⟨S,x,t,y,D⟩ b=>z24 S t D b
 pm:=λ_ ⟨r,n',e'⟩=>vM r
 r:=λ_ ⟨r,n',e'⟩=> .tup [r.av, .sv (.int .i64 n'), .sv (.int .i64 e')]
 h':=λ_ _=>[]
 m':=1
section
variable (c:zm) (g:List AT) (i:Int) (e:Ck) (h f:SV) (j:Nat->Option Obj)
 def Jx:=True/\qd g h j/\f.2.1=size e/\qgn j f.1 f.2.1 f.2.2 (q18 e)
 def sX:=AV.sv (int i64 c.2.2.1)=AV.sv (int i64 c.2.2.1)/\∃(a:vF),τ a.1=τ c.1/\π a.1=π c.1/\(ζ a.1).1=(ζ c.1).1/\(ζ a.1).2.1=(ζ c.1).2.1/\(ζ a.1).2.2=(ζ c.1).2.2/\(θ a.1).1=(θ c.1).1/\(θ a.1).2.1=(θ c.1).2.1/\(θ a.1).2.2=(θ c.1).2.2/\ψ a.1=ψ c.1/\a.2.1=c.2.2.1/\a.2.2=0/\z24 g i e a/\(∀d,(Jx g e h f d)/\η c.1 d->η a.1 d)/\True
 def sW:=((!decide (c.2.1=0))=ι->∃(a:vF),τ a.1=0/\π a.1=mkS []/\(ζ a.1).1=noA/\(ζ a.1).2.1=0/\(ζ a.1).2.2=0/\(θ a.1).1=noA/\(θ a.1).2.1=0/\(θ a.1).2.2=0/\ψ a.1=0/\a.2.1=0/\a.2.2=c.2.1/\z24 g i e a/\(∀d,(Jx g e h f d)/\η c.1 d->η a.1 d)/\True)/\((!decide (c.2.1=0))=ς->sX c g i e h f)
end
def zoh(S:List AT) (x:SV) (t:Int) (y:SV) (D:Ck):qk3 P (qf5 []) (qg7 [(27,uQ)]) Tryz.f13 LC (λ_=>{}) ⟨S,x,t,y,D⟩=(zp S/\size D<100000000000000000->(∃(p:Pub),Jx S D x y p)->∃(s:Ck),size s=y.2.1/\(∀(p:Pub),Jx S D x y p->qgm p y.1 (q18 s))/\∃(s_1:ur),s_1.2.2.1=t/\s_1.2.2.2=1/\s_1.2.1.1.1=x.1/\s_1.2.1.1.2.1=x.2.1/\s_1.2.1.1.2.2=x.2.2/\s_1.2.1.2.1=s/\s_1.2.1.2.2.1=0/\s_1.2.1.2.2.2=0/\(zp s_1.1/\qZ (s_1.2.1.1,s_1.2.1.2.1,s_1.2.1.2.2.1,s_1.2.1.2.2.2)/\(0<=s_1.2.1.2.2.2/\s_1.2.1.2.2.2<=2000)/\1<=s_1.2.2.2/\s_1.2.2.2<=21)/\(∀(p:Pub),Jx S D x y p->qd s_1.1 s_1.2.1.1 p)/\∀(b:zm),z31 s_1.1 (qM s_1.1 s_1.2.1.2.1 (toNat ((21:Int)- s_1.2.2.2)) s_1.2.2.1 (toNat s_1.2.1.2.2.1) (toNat s_1.2.1.2.2.2)) s_1.2.1.2.1 s_1.2.1.2.2.1 s_1.2.1.2.2.2 s_1.2.2.1 b->(∃(p:Pub),(Jx S D x y p)/\η b.1 p)->sW b S t D x y):=by kernel_rfl
def zxu:=λS x t y D=>Ν (zoh S x t y D) (by delta Jx sX sW;exact rfl)
def zhz:q1p P 13 LC:=by
 refine zh (qcl qjq) (qdd (qgi jap qjp)) (W:=λ_=>{}) Tryz.func13 λ⟨S,(x:SV),(t:Int),(y:SV),D⟩=>(zxu S x t y D).mpr ?_;rintro⟨O,V⟩ ⟨p,_,hx,T,Z⟩;have xs:x.2.1=S.length:=hx.1.1;refine⟨D,T.symm,λq hq=>hq.2.2.2.2,⟨S,⟨x,D,0,0⟩,t,1⟩,rfl,rfl,rfl,rfl,rfl,rfl,rfl,rfl,⟨O,⟨ω _,by show(0:Int)<=D.size;omega,V⟩,⟨by show(0:Int)<=0;decide,by show(0:Int)<=2000;decide⟩,by show(1:Int)<=1;decide,by show(1:Int)<=21;decide⟩,λq hq=>hq.2.1,?_⟩;rintro⟨r,e',n',U⟩ ⟨u,C,⟨G,H⟩,X,Y⟩ _;have u:xp S t->jJ (qM S D 20 t 0 0) r.pv n' U e'/\(0:Int)+1<=U:=u;have C:¬xp S t->e'=1:=C;have G:(0:Int)<=n':=G;have H:n'<=D.size:=H;simp only[qB,exists_const,forall_const,γ,qqe,φ];refine⟨λJ=>⟨⟨zV,0,e'⟩,rfl,rfl,rfl,rfl,rfl,rfl,rfl,rfl,rfl,rfl,rfl,⟨λA=> ?_,λh=>⟨C h,rfl,rfl⟩,ω _,by show(0:Int)<=D.size;omega⟩,λq _=>jc q⟩,λhe=>⟨⟨r,n',0⟩,rfl,rfl,rfl,rfl,rfl,rfl,rfl,rfl,rfl,rfl,rfl,⟨λA=> ?_,λh=> ?_,G,H⟩,λq hq=>hq.2⟩⟩
 ·show Jg (qM S D 20 t 0 0) zV.pv 0 e';have u:=(u A).1;cases B:qM S D 20 t 0 0 with
  |no k=>rw[B]at u;exact⟨u,rfl,rfl⟩
  |ok w=>rw[B]at u;exact absurd u.1 J
 ·show Jg (qM S D 20 t 0 0) r.pv n' 0;have u:=(u A).1;cases B:qM S D 20 t 0 0 with
  |no k=>rw[B]at u;have u:e'=k+1:=u;have he:e'=0:=he;omega
  |ok w=>rw[B]at u;exact⟨rfl,u.2.1,u.2.2.1⟩
 ·have:=C h;have he:e'=0:=he;omega
def muV:GV->Nat:=λv=>SizeOf.sizeOf v
def KY:Ct:=Zg (GV×GV) (λ⟨v,w⟩=>[v.av,w.av]) (λ⟨v,w⟩=>v.pv.sm/\w.pv.sm) (λ⟨v,w⟩=>vwM v w) λ⟨v,w⟩=> .sv (.bool (qql v.pv w.pv))
def fK:GV×GV->WayF:=λ⟨v,w⟩=>{
 ann:=λid _ _=>match id with
  |0=>χ {σ:=Nat,pre:=λj=>j<=v.ks.length/\v.n=w.n/\v.s=w.s/\v.b=w.b/\v.l.length=w.l.length/\v.ks.length=w.ks.length/\v.ks.take j=w.ks.take j,t:=λj=>[(5, .sv (.int .i64 (j:Int)))],h:=λ_=>[],more:=0,μ:=λj=>v.ks.length- j,keep:=[0,1,2,3]}
  |_=>χ {σ:=Nat,pre:=λj=>j<=v.l.length/\v.n=w.n/\v.s=w.s/\v.b=w.b/\v.l.length=w.l.length/\v.ks=w.ks/\qqm ((ε v.l).drop j) ((ε w.l).drop j)=qqm (ε v.l) (ε w.l),t:=λj=>[(6, .sv (.int .i64 (j:Int)))],h:=λ_=>[],more:=0,μ:=λj=>v.l.length- j,keep:=[0,1,2,3]}}
section
variable (a c:GV) (e w:Nat) (E:Prop) (F:Nat->Option Obj)
 abbrev Q0:=True/\η a F/\η c F
 def ZW:=qql (υ a) (υ c)=ς/\True
 abbrev ZX:=(↑(ζ a).2.1:Int)
 abbrev ZY:=(↑(θ a).2.1:Int)
 def vE:=τ a=τ a/\π a=π a/\(ζ a).1=(ζ a).1/\(ζ a).2.1=(ζ a).2.1/\(ζ a).2.2=(ζ a).2.2/\(θ a).1=(θ a).1/\(θ a).2.1=(θ a).2.1/\(θ a).2.2=(θ a).2.2/\ψ a=ψ a/\E
 def Xs:=(∀f,Q0 a c f->Q0 a c f)
 def EP:=τ a=τ c/\π a=π c/\ψ a=ψ c/\length (qqg a)=length (qqg c)/\E
 def RD:=e<=length (Ω a)/\EP a c (length (Ω a)=length (Ω c)/\take e (Ω a)=take e (Ω c))
 abbrev EO:=Jb ((↑e:Int)+1)
 def eE:=EO e/\∃(f:Nat),vE a (vE c ((↑f:Int)=(↑e:Int)+1/\vE a (vE c (Xs a c/\(RD a c f)/\length (Ω a)- f<length (Ω a)- e/\True))))
 def eC:=(0<=(↑e:Int)/\(↑e:Int)<(ZY a))/\(θ a).1≠noA/\∃f,(∀i,Q0 a c i->q37 i (adr (θ a).1 (toNat (↑e:Int)*1)) [string f])/\(0<=(↑e:Int)/\(↑e:Int)<(ZY c))/\(θ c).1≠noA/\∃g,(∀v,Q0 a c v->q37 v (adr (θ c).1 (toNat (↑e:Int)*1)) [string g])/\((!decide (f=g))=ι->ZW a c)/\((!decide (f=g))=ς->eE a c e)
 def RC:=e<=length (qqg a)/\EP a c (Ω a=Ω c/\qqm (drop e (ε (qqg a))) (drop e (ε (qqg c)))=qqm (ε (qqg a)) (ε (qqg c)))
 def eD:=EO e/\∃(f:Nat),vE a (vE c ((↑f:Int)=(↑e:Int)+1/\vE a (vE c (Xs a c/\(RC a c f)/\length (qqg a)- f<length (qqg a)- e/\True))))
 def eB:=(0<=(↑e:Int)/\(↑e:Int)<(ZX a))/\(ζ a).1≠noA/\∃(f:Int),∃i,∃g,∃(v:Nat),∃(z:Nat),∃A,∃(B:Nat),∃(C:Nat),∃(i8:Int),(∀D,Q0 a c D->q37 D (adr (ζ a).1 (toNat (↑e:Int)*5)) [int u64 f,string i,slice g v z,slice A B C,int i64 i8])/\(0<=(↑e:Int)/\(↑e:Int)<(ZX c))/\(ζ c).1≠noA/\∃(j:Int),∃k,∃m,∃(o:Nat),∃(p:Nat),∃q,∃(i16:Nat),∃(r:Nat),∃(t:Int),(∀u,Q0 a c u->q37 u (adr (ζ c).1 (toNat (↑e:Int)*5)) [int u64 j,string k,slice m o p,slice q i16 r,int i64 t])/\∃(d:GV×GV),τ d.1=f/\π d.1=i/\(ζ d.1).1=g/\(ζ d.1).2.1=v/\(ζ d.1).2.2=z/\(θ d.1).1=A/\(θ d.1).2.1=B/\(θ d.1).2.2=C/\ψ d.1=i8/\τ d.2=j/\π d.2=k/\(ζ d.2).1=m/\(ζ d.2).2.1=o/\(ζ d.2).2.2=p/\(θ d.2).1=q/\(θ d.2).2.1=i16/\(θ d.2).2.2=r/\ψ d.2=t/\(K5 d<w/\qq5 (υ d.1)/\qq5 (υ d.2))/\(∀h,Q0 a c h->η d.1 h/\η d.2 h)/\((!PV.same (υ d.1) (υ d.2))=ι->ZW a c)/\((!PV.same (υ d.1) (υ d.2))=ς->eD a c e)
 def te:=Ji ((↑e:Int)<(ZX a)) (eB a c e w) (qql (υ a) (υ c)=ι/\True)
 def td:=(∃(f:Nat),vE a (vE c ((↑f:Int)=0/\vE a (vE c (Xs a c/\(RC a c f)/\True)))))/\∀(g:Nat),RC a c g->te a c g e
 def tc:=Ji ((↑e:Int)<(ZY a)) (eC a c e) (td a c w)
 def tb:=(∃(f:Nat),vE a (vE c ((↑f:Int)=0/\vE a (vE c (Xs a c/\(RD a c f)/\True)))))/\∀(g:Nat),RD a c g->tc a c g e
 def ta:=((!decide ((ZY a)=(ZY c)))=ι->ZW a c)/\((!decide ((ZY a)=(ZY c)))=ς->tb a c e)
 def s_:=((!decide ((ZX a)=(ZX c)))=ι->ZW a c)/\((!decide ((ZX a)=(ZX c)))=ς->ta a c e)
 def s9:=((!decide (ψ a=ψ c))=ι->ZW a c)/\((!decide (ψ a=ψ c))=ς->s_ a c e)
 def sZ:=((!decide (π a=π c))=ι->ZW a c)/\((!decide (π a=π c))=ς->s9 a c e)
 def sY:=((!decide (τ a=τ c))=ι->ZW a c)/\((!decide (τ a=τ c))=ς->sZ a c e)
end
def j03(n:Nat) (v w:GV):qk2 P (qf5 [(14,KY.below K5 n)]) Tryz.f14 (KY.below K5 (n+1)) (fK) ⟨v,w⟩=(K5 (v,w)<n+1/\qq5 (υ v)/\qq5 (υ w)->(∃(p:Pub),Q0 v w p)->sY v w n):=by kernel_rfl
def ja7:=λn v w=>Ν (j03 n v w) (by delta Ji Jb Jt Jf Q0 ZW ZX ZY vE Xs EP RD EO eE eC RC eD eB te td tc tb ta s_ s9 sZ sY;exact rfl)
section
variable {v:GV} {j:Nat}
def LJ(u:j<v.l.length) {q:Pub} (h:v.ok q):v.x.1≠noA/\q37 q (adr v.x.1 (j*5)) (v.l[j]).cells:=jX zn (by decide) (by rw[qqd]at h;exact h.1) u
def zvm(u:j<v.l.length) {q:Pub} (h:v.ok q):(v.l[j]).ok q:=GV.oks_at (by rw[qqd]at h;exact h.2.2) u
def Lm(u:j<v.ks.length) {q:Pub} (h:v.ok q):v.y.1≠noA/\q37 q (adr v.y.1 (j*1)) [.string v.ks[j]]:=jX j8 (by decide) (by rw[qqd]at h;exact h.2.1) u
def zig{q:Pub} (h:v.ok q):v.x.2.1=v.l.length/\v.y.2.1=v.ks.length:=by rw[qqd]at h;exact⟨h.1.1,h.2.1.1⟩
def P4(h:j<v.l.length):j<(ε v.l).length:=by rw[ξ];exact h
def j9l(A:j<v.l.length):muV v.l[j]<muV v:=by
 have h:=zk2 A;have u:SizeOf.sizeOf v.l<SizeOf.sizeOf v:=by cases v;simp[qqg];omega
 exact Nat.lt_trans h u
def zw6(h:v.pv.sm) {j:Nat} (u:j<v.l.length):(v.l[j]).pv.sm:=by rw[qzg]at h;have:=PV.sms_at h.2.2.2.2.2 (P4 u);rw[Lt u]at this;exact this
end
def ja8(n:Nat) (hc:q4p P 14 (KY.below K5 n)):q4p P 14 (KY.below K5 (n+1)):=by
 refine qA (qcl (qgj hc qjq)) (W:=fK) Tryz.func14 λ⟨v,w⟩=>(ja7 n v w).mpr ?_;rintro⟨X,hv,hw⟩ ⟨p,_,hp,hq⟩;have X:SizeOf.sizeOf v<n+1:=X;obtain⟨hxl,hyl⟩:=zig hp;obtain⟨hxl2,Y⟩:=zig hq;have hl:=hv;have hl2:=hw;rw[qzg]at hl hl2;have J:qql v.pv w.pv=(decide (v.n=w.n)&&decide (v.s=w.s)&&decide (v.b=w.b)&&decide (v.ks=w.ks)&&qqm (ε v.l) (ε w.l)):=by rw[qqb v,qqb w,qql]
 simp only[qB,γ];rw[J];refine⟨λh=>by rw[decide_eq_false h];rfl,λO=>⟨λh=>by rw[decide_eq_false h];simp,λT=>⟨λh=>by rw[decide_eq_false h];simp,λU=>⟨λh=> ?_,λh4=>⟨λh=> ?_,λh5=>⟨⟨0,rfl,by omega,O,T,U,by omega,by omega,by simp⟩,?_⟩⟩⟩⟩⟩⟩
 ·rw[z9s (l:=ε v.l) (m:=ε w.l) (by rw[ξ,ξ];omega)];simp
 ·rw[decide_eq_false (p:=v.ks=w.ks) (λe=>h (by rw[hyl,Y,e]))];simp
 rintro j ⟨hj, -, -, -,H,V,ht⟩;refine⟨λhlt=> ?_,λhge=> ?_⟩
 ·have B:j<v.ks.length:=by omega
  have C:j<w.ks.length:=by omega
  refine⟨by omega,(Lm B hp).1,v.ks[j],λq hq=>(Lm B hq.1).2,by omega,(Lm C hq).1,w.ks[j],λq hq=>(Lm C hq.2).2,λhne=> ?_,λhe=>⟨by omega,j+1,rfl,⟨by omega,O,T,U,H,V,?_⟩,by omega⟩⟩
  ·rw[decide_eq_false (p:=v.ks=w.ks) (λe=>hne (by simp only[e]))];simp
  ·rw[Ε B,Ε C,ht,he]
 ·obtain rfl:j=v.ks.length:=by omega
  have G:v.ks=w.ks:=by rw[qqc,V,qqc]at ht;exact ht
  refine⟨⟨0,rfl,by omega,O,T,U,H,G,by simp⟩,?_⟩;rintro i ⟨hi, -, -, -, -, -,hs⟩;refine⟨λhlt=> ?_,λhge=> ?_⟩
  ·have u:i<v.l.length:=(by omega);have A:i<w.l.length:=(by omega);have hd:=zfu (P4 u) (P4 A);rw[Lt u,Lt A]at hd;refine⟨by omega,(LJ u hp).1,v.l[i].n,v.l[i].s,v.l[i].x.1,v.l[i].x.2.1,v.l[i].x.2.2,v.l[i].y.1,v.l[i].y.2.1,v.l[i].y.2.2,v.l[i].b,λq hq=>(LJ u hq.1).2,by omega,(LJ A hq).1,w.l[i].n,w.l[i].s,w.l[i].x.1,w.l[i].x.2.1,w.l[i].x.2.2,w.l[i].y.1,w.l[i].y.2.1,w.l[i].y.2.2,w.l[i].b,λq hq=>(LJ A hq.2).2,⟨v.l[i],w.l[i]⟩,?_⟩;simp only[true_and,eq_self];refine⟨⟨?_,zw6 hv u,zw6 hw A⟩,λq hq=>⟨zvm u hq.1,zvm A hq.2⟩,λZ=> ?_,λZ=>⟨by omega,i+1,rfl,⟨by omega,O,T,U,H,G,?_⟩,by omega⟩⟩
   ·show SizeOf.sizeOf v.l[i]<n;have:=j9l u;have:SizeOf.sizeOf v.l[i]<SizeOf.sizeOf v:=this;omega
   ·rw[←hs,hd,Z];simp
   ·rw[←hs,hd,Z];rfl
  ·obtain rfl:i=v.l.length:=(by omega);rw[Μ (by rw[ξ];exact Α _),Μ (by rw[ξ];omega)]at hs;rw[←hs,decide_eq_true O,decide_eq_true T,decide_eq_true U,decide_eq_true G,qqm];rfl
def zk3:∀n,q4p P 14 (KY.below K5 n)
 |0=>Ct.below_zero (by decide) (by decide) (Sen.enters_of Tryz.func14 (by kernel_rfl)) λs=>⟨rfl,rfl⟩
 |n+1=>ja8 n (zk3 n)
def j04:q4p P 14 KY:=Ct.of_below zk3
def Ta:Ct where
 σ:=SV
 args:=λx=>[zI x]
 h:=λ_=>[]
 m:=1
 r:=λ_=> .ptr 1 0
 h':=λx=>jf x 0
 m':=2
 g:=λ_=>ρ
def ZN(L:List Int):Prop:=L.length<9223372036854775808/\∀b∈L,0<=b/\b<256
section
variable (a:zD) (i:List AT) (l:Int) (e:Ck) (k f:SV) (m:Nat->Option Obj) (d:vF) (o:Prop) (g:vG) (j:(Option Addr×Nat×Nat)×Int)
 def Jy:=True/\qd i k m/\f.2.1=size e/\qgn m f.1 f.2.1 f.2.2 (q18 e)
 def S8:= !(decide (0<=j.2)&&decide (j.2<(↑j.1.2.1:Int)))
 def S7:=τ d.1=0/\π d.1=mkS []/\(ζ d.1).1=noA/\(ζ d.1).2.1=0/\(ζ d.1).2.2=0/\(θ d.1).1=noA/\(θ d.1).2.1=0/\(θ d.1).2.2=0/\ψ d.1=0/\d.2.1=0/\o
 def ti:=qd g.1 g.2.1.1 m/\g.2.1.2.1.2.1=size g.2.1.2.2.1/\qgn m g.2.1.2.1.1 g.2.1.2.1.2.1 g.2.1.2.1.2.2 (q18 g.2.1.2.2.1)
 def th:=AV.sv (int i64 a.2.2.2)=AV.sv (int i64 a.2.2.2)/\∃(c:vF),S7 c (c.2.2=a.2.2.2/\z24 i l e c/\(∀h,(Jy i e k f h)/\η a.1 h->η c.1 h)/\True)
 def tg:=AV.sv (int i64 a.2.1)=AV.sv (int i64 a.2.1)/\∃(c:vF),τ c.1=τ a.1/\π c.1=π a.1/\(ζ c.1).1=(ζ a.1).1/\(ζ c.1).2.1=(ζ a.1).2.1/\(ζ c.1).2.2=(ζ a.1).2.2/\(θ c.1).1=(θ a.1).1/\(θ c.1).2.1=(θ a.1).2.1/\(θ c.1).2.2=(θ a.1).2.2/\ψ c.1=ψ a.1/\c.2.1=a.2.1/\c.2.2=0/\z24 i l e c/\(∀h,(Jy i e k f h)/\η a.1 h->η c.1 h)/\True
 def tf:=((!decide (a.2.2.2=0))=ι->th a i l e k f)/\((!decide (a.2.2.2=0))=ς->tg a i l e k f)
end
def zoi(S:List AT) (x:SV) (t:Int) (y:SV) (D:Ck):qk3 P (qf5 [(30,KX)]) (qg7 [(31,wB)]) Tryz.f17 Ca (λ_=>{}) ⟨S,x,t,y,D⟩=(zp S/\size D<1000000000000000000->(∃(p:Pub),Jy S D x y p)->∃(s:(Option Addr×Nat×Nat)×Int),s.1.1=x.1/\s.1.2.1=x.2.1/\s.1.2.2=x.2.2/\s.2=t/\True/\((S8 s)=ι->∃(b:vF),S7 b (b.2.2=1/\z24 S t D b/\(∀(p:Pub),Jy S D x y p->η b.1 p)/\True))/\((S8 s)=ς->∃(s:vG),s.2.2.1=t/\s.2.2.2=1/\s.2.1.1.1=x.1/\s.2.1.1.2.1=x.2.1/\s.2.1.1.2.2=x.2.2/\s.2.1.2.1.1=y.1/\s.2.1.2.1.2.1=y.2.1/\s.2.1.2.1.2.2=y.2.2/\s.2.1.2.2.2.1=0/\s.2.1.2.2.2.2.1=0/\s.2.1.2.2.2.2.2=0/\(zp s.1/\qD s.2.1.2.2.1 s.2.1.2.2.2.1/\(0<=s.2.1.2.2.2.2.1/\s.2.1.2.2.2.2.1<=2000)/\0<=s.2.1.2.2.2.2.2/\(0<=s.2.2.1/\s.2.2.1<(↑(length s.1):Int))/\1<=s.2.2.2/\s.2.2.2<=21)/\(∀(p:Pub),Jy S D x y p->ti p s)/\∀(b:zD),z17 (qM s.1 s.2.1.2.2.1 (toNat ((21:Int)- s.2.2.2)) s.2.2.1 (toNat s.2.1.2.2.2.1) (toNat s.2.1.2.2.2.2.1)) s.2.1.2.2.1 s.2.1.2.2.2.1 (s.2.1.2.2.2.2.1+1) s.2.1.2.2.2.2.2 b->(∃(p:Pub),(Jy S D x y p)/\η b.1 p)->tf b S t D x y)):=by kernel_rfl
def zxv:=λS x t y D=>Ν (zoi S x t y D) (by delta Jy S8 S7 ti th tg tf;exact rfl)
def zxw:q1p P 17 Ca:=by
 refine zh (qcl (qgj Ut qjq)) (qdd (qgi ja0 qjp)) (W:=λ_=>{}) Tryz.func17 λ⟨S,(x:SV),(t:Int),(y:SV),D⟩=>(zxv S x t y D).mpr ?_;rintro⟨H,O⟩ ⟨p,_,hx,U,Z⟩;have xs:x.2.1=S.length:=hx.1.1;refine⟨⟨x,t⟩,?_⟩;simp only[qB,exists_const,forall_const,γ,qqe,φ,xs];refine⟨λT=>⟨⟨zV,0,1⟩,rfl,rfl,rfl,rfl,rfl,rfl,rfl,rfl,rfl,rfl,rfl,⟨λh=>by omega,λ_=>⟨rfl,rfl,rfl⟩,ω _,by show(0:Int)<=D.size;omega⟩,λq _=>jc q⟩,λA=>⟨⟨S,⟨x,y,D,0,0,0⟩,t,1⟩,rfl,rfl,rfl,xs,rfl,rfl,rfl,rfl,rfl,rfl,rfl,⟨H,⟨ω _,by show(0:Int)<=D.size;omega,O⟩,⟨by show(0:Int)<=0;decide,by show(0:Int)<=2000;decide⟩,by show(0:Int)<=0;decide,A,by show(1:Int)<=1;decide,by show(1:Int)<=21;decide⟩,λq hq=>hq,?_⟩⟩;rintro⟨r,n',B,e'⟩ ⟨u,J,V,X,Y⟩ _;rw[if_pos rfl]at u;have u:jJ (qM S D 20 t 0 0) r.pv n' B e':=u;refine⟨λG=>⟨⟨zV,0,e'⟩,rfl,rfl,rfl,rfl,rfl,rfl,rfl,rfl,rfl,rfl,rfl,⟨λ_=> ?_,λh=>absurd A h,ω _,by show(0:Int)<=D.size;omega⟩,λq _=>jc q⟩,λhe=>⟨⟨r,n',0⟩,rfl,rfl,rfl,rfl,rfl,rfl,rfl,rfl,rfl,rfl,rfl,⟨λ_=> ?_,λh=>absurd A h,J.1,J.2.1⟩,λq hq=>hq.2⟩⟩
 ·show Jg (qM S D 20 t 0 0) zV.pv 0 e';cases C:qM S D 20 t 0 0 with
  |no k=>rw[C]at u;exact⟨u,rfl,rfl⟩
  |ok w=>rw[C]at u;exact absurd u.1 G
 ·show Jg (qM S D 20 t 0 0) r.pv n' 0;cases C:qM S D 20 t 0 0 with
  |no k=>rw[C]at u;have u:e'=k+1:=u;have he:e'=0:=he;omega
  |ok w=>rw[C]at u;exact⟨rfl,u.2.1,u.2.2.1⟩
def HB:Ct where
 σ:=Unit
 args:=λ_=>[]
 h:=λ_=>[]
 m:=1
 r:=λ_=> .sv (.bool ι)
 h':=λ_=>[]
 m':=1
 g:=λ_=>ρ
def zeg:HB.σ->WayF:=λ_=>{pub:=λi k=>match i,k with
 |2,2=>[10,14]
 |_,_=>[]}
def PQ:Ct:=Zg wz (λ⟨S,x,t,y,D⟩=>[kh x, .sv (.int .i64 t),zI y]) (λ⟨S,x,t,y,D⟩=>zp S/\D.size<100000000000000000) (λ⟨S,x,t,y,D⟩=>Hq S x y D) λ_=> .sv (.bool ι)
section
variable (e:Nat->Option Obj) (c d f g:Nat) (b h:vF) (a:wz) (k:Int) (l:Prop)
 abbrev S9:=True/\q37 e (Κ c d ρ) [int i64 4,string (mkS []),slice noA 0 0,int i64 0,slice noA 0 0,bool ς,string (mkS []),int i64 0,slice noA 0 0,slice noA 0 0,int i64 12,string (mkS []),slice noA 0 0,int i64 0,slice noA 0 0,bool ς,string (mkS []),int i64 0,slice noA 0 0,slice noA 0 0]
 def Jz:=(S9 e c d)/\q37 e (Κ f g ρ) [int u8 2,int u8 10,int u8 0,int u8 9]
 def S_:=a.2.1.1=χ (Κ c (d+nat_lit 0) ρ)/\a.2.1.2.1=nat_lit 2/\a.2.1.2.2=nat_lit 2/\a.2.2.1=k/\l
 def Na:=(zp a.1/\size a.2.2.2.2<100000000000000000)
 def S':=qd a.1 a.2.1 e/\a.2.2.2.1.2.1=size a.2.2.2.2/\qgn e a.2.2.2.1.1 a.2.2.2.1.2.1 a.2.2.2.1.2.2 (q18 a.2.2.2.2)
 def tq:=((0:Int)<=0/\0<(↑(ζ b.1).2.1:Int))/\(ζ b.1).1≠noA/\∃(j:Int),(∀i,((Jz i c d f g)/\η b.1 i)/\η h.1 i->q37 i (Ο (adr (ζ b.1).1 ((0:Nat)*5)) 0) [int u64 j])/\Ji (j=5) (ι=decide (h.2.2=2)/\True) (ι=ς/\True)
 def tp:=Ji ((↑(ζ b.1).2.1:Int)=1) (tq c d f g b h) (ι=ς/\True)
 def tn:=Ji (b.2.1=3) (tp c d f g b h) (ι=ς/\True)
 def tj:=Ji (b.2.2=0) (tn c d f g b h) (ι=ς/\True)
end
def zak(u:Unit):qk4 P (qf5 []) (qg7 [(13,LC)]) Tryz.f7 HB (zeg) u=(True->∀(b s u:Nat),(∃(p:Pub),S9 p b s)->∀(h s_1 u:Nat),(∃(p:Pub),Jz p b s h s_1)->∃(s_2:wz),S_ b s s_2 1 (s_2.2.2.2.1.1=χ (Κ h (s_1+nat_lit 0) ρ)/\s_2.2.2.2.1.2.1=nat_lit 4/\s_2.2.2.2.1.2.2=nat_lit 4/\Na s_2/\(∀(p:Pub),Jz p b s h s_1->S' p s_2)/\∀(A:vF),z24 s_2.1 s_2.2.2.1 s_2.2.2.2.2 A->(∃(p:Pub),(Jz p b s h s_1)/\η A.1 p)->∃(s_3:wz),S_ b s s_3 0 (s_3.2.2.2.1.1=noA/\s_3.2.2.2.1.2.1=0/\s_3.2.2.2.1.2.2=0/\Na s_3/\(∀(p:Pub),(Jz p b s h s_1)/\η A.1 p->S' p s_3)/\∀(B:vF),z24 s_3.1 s_3.2.2.1 s_3.2.2.2.2 B->(∃(p:Pub),((Jz p b s h s_1)/\η A.1 p)/\η B.1 p)->tj b s h s_1 A B))):=by kernel_rfl
def zet:=λu=>Ν (zak u) (by delta Ji Jt Jf S9 Jz S_ Na S' tq tp tn tj;exact rfl)
section
variable (d e:vF) (k:List AT) (g f:SV) (i:Ck) (j:Nat->Option Obj) (c:wz) (l:Int) (m:Prop)
 abbrev JA:=True/\qd k g j/\f.2.1=size i/\qgn j f.1 f.2.1 f.2.2 (q18 i)
 def Nc:=c.2.1.1=g.1/\c.2.1.2.1=g.2.1/\c.2.1.2.2=g.2.2/\c.2.2.1=l/\c.2.2.2.1.1=f.1/\c.2.2.2.1.2.1=f.2.1/\c.2.2.2.1.2.2=f.2.2/\m
 def Nb:=qd c.1 c.2.1 j/\c.2.2.2.1.2.1=size c.2.2.2.2/\qgn j c.2.2.2.1.1 c.2.2.2.1.2.1 c.2.2.2.1.2.2 (q18 c.2.2.2.2)
 def tv:=Ji (d.2.1=e.2.1) (∃(a:GV×GV),τ a.1=τ d.1/\π a.1=π d.1/\(ζ a.1).1=(ζ d.1).1/\(ζ a.1).2.1=(ζ d.1).2.1/\(ζ a.1).2.2=(ζ d.1).2.2/\(θ a.1).1=(θ d.1).1/\(θ a.1).2.1=(θ d.1).2.1/\(θ a.1).2.2=(θ d.1).2.2/\ψ a.1=ψ d.1/\τ a.2=τ e.1/\π a.2=π e.1/\(ζ a.2).1=(ζ e.1).1/\(ζ a.2).2.1=(ζ e.1).2.1/\(ζ a.2).2.2=(ζ e.1).2.2/\(θ a.2).1=(θ e.1).1/\(θ a.2).2.1=(θ e.1).2.1/\(θ a.2).2.2=(θ e.1).2.2/\ψ a.2=ψ e.1/\(qq5 (υ a.1)/\qq5 (υ a.2))/\(∀h,((JA k g f i h)/\η d.1 h)/\η e.1 h->η a.1 h/\η a.2 h)/\ι=qql (υ a.1) (υ a.2)/\True) (ι=ς/\True)
 def tu:=Ji (d.2.2=e.2.2) (tv d e k g f i) (ι=ς/\True)
end
def zh8(S:List AT) (x:SV) (t:Int) (y:SV) (D:Ck):qk4 P (qf5 [(14,KY)]) (qg7 [(13,LC),(17,Ca)]) Tryz.f12 PQ (λ_=>{}) ⟨S,x,t,y,D⟩=(zp S/\size D<100000000000000000->(∃(p:Pub),JA S x y D p)->∃(s:wz),Nc x y s t ((zp s.1/\size s.2.2.2.2<100000000000000000)/\(∀(p:Pub),JA S x y D p->Nb p s)/\∀(b:vF),z24 s.1 s.2.2.1 s.2.2.2.2 b->(∃(p:Pub),(JA S x y D p)/\η b.1 p)->∃(s:wz),Nc x y s t ((zp s.1/\size s.2.2.2.2<1000000000000000000)/\(∀(p:Pub),(JA S x y D p)/\η b.1 p->Nb p s)/\∀(h:vF),z24 s.1 s.2.2.1 s.2.2.2.2 h->(∃(p:Pub),((JA S x y D p)/\η b.1 p)/\η h.1 p)->tu b h S x y D))):=by kernel_rfl
def zo0:=λS x t y D=>Ν (zh8 S x t y D) (by delta Ji Jt Jf JA Nc Nb tv tu;exact rfl)
def zpw(x:SV):qk2 P (λ_=>ρ) Tryz.f8 Ta (λ_=>{}) x=(True->qq0 x=qq0 x/\qq0 (qqh x)=qq0 (qqh x)/\qqh (qqh x)=qqh (qqh x)/\(0:Int)=(0:Int)/\True):=by kernel_rfl
def zpx:q4p P 8 Ta:=by refine qA js (W:=λ_=>{}) Tryz.func8 λ(x:SV)=>(zpw x).mpr ?_;simp only[true_and,and_true,eq_self,imp_self,implies_true]
def zy6{S:List AT} (h:qx S):zp S:=⟨⟨by have:=h.1;omega,λe he=>by have:=(h.2 e he).2.2.2.2.2.2.2;omega⟩,λe he=>(h.2 e he).1,λa u=>⟨λf A=>((h.2 a u).2.2.2.2.1 f A).1,(h.2 a u).2.2.1,(h.2 a u).2.1,λk=>by have:=(h.2 a u).2.2.2.2.2.2.1 k;omega⟩⟩
def C':zV.pv.sm:=by unfold zV υ ε;exact uM (by decide) (by decide)
def j8z{S:List AT} {t:Int} {D:Ck} {b G:vF} (hS:small S) (T:D.size<100000000000000000) (h:z24 S t D b) (h':z24 S t D G):b.2.2=G.2.2/\b.2.1=G.2.1/\b.1.pv=G.1.pv/\b.1.pv.sm:=by
  by_cases J:0<=t/\t<S.length
  · have g:=h.1 J;have H:=h'.1 J;cases O:qM S D 20 t 0 0 with
    | no k=>
      rw[O]at g H;obtain⟨u,a2,a3⟩:=g;obtain⟨A,B,C⟩:=H;exact⟨u.trans A.symm,a2.trans B.symm,a3.trans C.symm,a3 ▸ C'⟩
    | ok r=>
      have hs:=(CJ hS T 20 t 0 0 r O).1;rw[O]at g H;obtain⟨u,a2,a3⟩:=g;obtain⟨A,B,C⟩:=H;exact⟨u.trans A.symm,a3.trans C.symm,a2.trans B.symm,a2 ▸ hs⟩
  · obtain⟨u,a2,a3⟩:=h.2.1 J;obtain⟨A,B,C⟩:=h'.2.1 J;exact⟨u.trans A.symm,a2.trans B.symm,a3.trans C.symm,a3 ▸ C'⟩
def zo1:q4p P 12 PQ:=by refine As (qcl (qgj j04 qjq)) (qdd (qgi zhz (qgi zxw qjp))) (W:=λ_=>{}) Tryz.func12 λ⟨S,(x:SV),(t:Int),(y:SV),D⟩=>(zo0 S x t y D).mpr ?_;rintro⟨h,G⟩ _;refine⟨⟨S,x,t,y,D⟩,rfl,rfl,rfl,rfl,rfl,rfl,rfl,⟨h,G⟩,λq hq=>hq.2,?_⟩;rintro⟨v,n,e⟩ H _;refine⟨⟨S,x,t,y,D⟩,rfl,rfl,rfl,rfl,rfl,rfl,rfl,⟨h,by show D.size<1000000000000000000;omega⟩,λq hq=>hq.1.2,?_⟩;rintro⟨w,m,f⟩ hw _;obtain⟨B,C,u,A⟩:=j8z h.1 G H hw;simp only[decide_eq_true_eq,decide_eq_false_iff_not]at B C u A⊢;refine⟨λ_=>⟨λ_=>⟨(v,w),rfl,rfl,rfl,rfl,rfl,rfl,rfl,rfl,rfl,rfl,rfl,rfl,rfl,rfl,rfl,rfl,rfl,rfl,⟨A,u ▸ A⟩,λq hq=>⟨hq.1.2,hq.2⟩,?_,trivial⟩,λg=>absurd C g⟩,λg=>absurd B g⟩;show ι=qql v.pv w.pv;rw[←u];exact(z9r _).symm
def tD(k it:Int):AT:=⟨k,mkS [],(ρ,0,0),[],it,(ρ,0,0),[],ς,mkS [],0,(ρ,0,0),[],(ρ,0,0),[]⟩
def SD:List AT:=[tD 4 0,tD 12 0]
def dP:PV:= .mk 0 (mkS []) [.mk 5 (mkS []) [] [] 0] [] 0
def jjs(k it:Int) (p:Pub):(tD k it).ok p:=⟨qV,qV,qV,qV,λf h=>absurd h (by simp[tD])⟩
def zv6{p:Pub} {b s:Nat} (h:q37 p ⟨b,s,ρ⟩ (qa AT.cells SD)):qd SD (χ ⟨b,s+0,ρ⟩,2,2) p:=
 ⟨⟨rfl,Α _, .inr ⟨_,rfl,rfl,h⟩⟩,λe he=>by simp[SD]at he;rcases he with rfl|rfl<;>exact jjs _ _ _⟩
def Cw:zp SD:=by
 refine⟨⟨by decide,λe he=> ?_⟩,λe he=> ?_,λe he=> ?_⟩;all_goals simp[SD]at he;rcases he with rfl|rfl
 all_goals first|decide|exact⟨λf h=>absurd h (by simp[tD]),λf h=>absurd h (by simp[tD]),by decide,by decide⟩
def k01:qM SD (mkS [2,10,0,9]) 20 1 0 0= .ok (dP,3,2):=by kernel_rfl
def k02:qM SD (mkS []) 20 0 0 0= .no 1:=by kernel_rfl
def zeu:q4p P 7 HB:=by
  refine As (qcl qjq) (qdd (qgi zhz qjp)) (W:=zeg) Tryz.func7 λ(u:Unit)=>(zet u).mpr ?_;intro _ b s _ _ O s1 _ _;refine⟨⟨SD,(χ ⟨b,s+0,ρ⟩,2,2),1,(χ ⟨O,s1+0,ρ⟩,4,4),mkS [2,10,0,9]⟩,rfl,rfl,rfl,rfl,rfl,rfl,rfl,⟨Cw,by show 4<100000000000000000;decide⟩,λp h=>⟨zv6 h.1.2,rfl,Α _, .inr ⟨_,rfl,rfl,h.2⟩⟩,?_⟩;rintro⟨v,n,e⟩ B ⟨p,hp⟩;refine⟨⟨SD,(χ ⟨b,s+0,ρ⟩,2,2),0,(ρ,0,0),mkS []⟩,rfl,rfl,rfl,rfl,rfl,rfl,rfl,⟨Cw,by show 0<100000000000000000;decide⟩,λp h=>⟨zv6 h.1.1.2,rfl,Α _, .inl ⟨rfl,trivial⟩⟩,?_⟩;rintro⟨w,m,f⟩ hw _;have B:=B.1 ⟨by show(0:Int)<=1;decide,by show(1:Int)<2;decide⟩;have hw:=hw.1 ⟨by show(0:Int)<=0;decide,by show(0:Int)<2;decide⟩;have B:Jg (qM SD (mkS [2,10,0,9]) 20 1 0 0) v.pv n e:=B;have hw:Jg (qM SD (mkS []) 20 0 0 0) w.pv m f:=hw;rw[k01]at B;rw[k02]at hw;obtain⟨v1,v2,v3⟩:=B;obtain⟨w1,w2,w3⟩:=hw;have v2:v.pv=dP:=v2;have v3:n=3:=v3;have w1:f=2:=w1;subst v1 v3 w1;have G:v.ok p:=hp.2;have C:∃h,v.l=[h]/\h.n=5:=by
    obtain⟨vn,vs,vx,U,vy,vk,Z⟩:=v;rw[υ]at v2;unfold dP at v2;injection v2 with _ _ q _ _
    rw[qq9]at q;cases U with
    |nil=>cases q
    | cons h l=>
      cases l with
      |cons _ _=>have:=congrArg List.length q;simp at this
      | nil=>
        refine⟨h,rfl,?_⟩;obtain⟨J,hs,hx,C,Y,X,V⟩:=h;rw[qze,υ]at q;injection q with q _
        injection q with q
  obtain⟨h,C,J⟩:=C;have hlen:v.l.length=1:=by rw[C];rfl
  have hx:=GV.x_len G;have T:0<v.l.length:=by omega
  have A:=λq (hq:v.ok q)=>GV.cells_at hq T;have he:v.l[0]=h:=by simp only[C];rfl
  rw[he]at A;simp only[decide_eq_true_eq,decide_eq_false_iff_not];refine⟨λ_=>⟨λ_=>⟨λ_=>⟨⟨by decide,by omega⟩,(A p G).1,h.n,λq hq=> ?_,λ_=>⟨by decide,trivial⟩,λg=>absurd J g⟩,λg=>absurd (by omega) g⟩,λg=>absurd trivial g⟩,λg=>absurd trivial g⟩;have c:=(A q hq.1.2).2;intro j z H;cases j with
  |succ j=>simp at H
  | zero=>
    have e0:Ο (adr v.x.1 (0*5)) 0=adr v.x.1 (0*5):=(by unfold Ο;rw[if_pos rfl]);rw[e0];exact c 0 z H
def Cu(y:SV) (R:List Int):PF:=⟨ι,qc qi y R,λ_ _ h e=>ji h e⟩
def inL(R:List Int):List SV->PF
 | [y]=>Cu y R
 |_=>{}
def Cq(R:List Int):GS:=χ {β:=Unit,ks:=[1],pre:=λ_=>True,mem:=λ_ xs=>inL R xs}
def O2(S:List AT) (x y:SV) (R:List Int):PF:=⟨ι,λp=>qd S x p/\qc qi y R p,λ_ _ h e=>⟨yG h e.1,ji h e.2⟩⟩
def arM(a:AT) (y:SV) (R:List Int):PF:=⟨ι,λp=>a.ok p/\qc qi y R p,λ_ _ h e=>⟨AT.ok_mono h e.1,ji h e.2⟩⟩
def K6(n:Nat) (R:List Int):Prop:=R.length=n/\∀t:Int,0<=t/\t<n-> -1<=qg R t/\qg R t<=100
def rid:AV->Option Nat
 | .ssl r _ _ _ _=>χ r
 | .msl r _ _=>χ r
 |_=>ρ
def X4(t:T AV) (k:Nat):Option Nat:=match t.get k with
 |some a=>rid a
 |none=>ρ
def AE(t:T AV) (k:Nat):Option Nat:=match t.get k with
 |some (.ptr b _)=>χ b
 |_=>ρ
abbrev R7:=List AT×SV×Int×SV×List Int
def Pu:Ct:=Zg R7 (λ⟨S,x,t,y,R⟩=>[kh x, .sv (.int .i64 t),zI y]) (λ⟨S,x,t,y,R⟩=>qx S/\K6 S.length R/\0<=t/\t<S.length) (λ⟨S,x,t,y,R⟩=>O2 S x y R) λ⟨S,x,t,y,R⟩=> .sv (.int .i64 (yE R (qe S t)))
def zl3:R7->WayF:=λ⟨S,x,t,y,R⟩=>{
 ann:=λid _ _=>match id with
  |0=>χ {σ:=Nat×Int,pre:=λ⟨j,m⟩=>j<=(qe S t).brs.length/\(-1<=m/\m<=100)/\vC R ((qe S t).brs.drop j) m=vC R (qe S t).brs (-1),t:=λ⟨j,m⟩=>[(9, .sv (.int .i64 (j:Int))),(8, .sv (.int .i64 m))],h:=λ_=>[],more:=0,μ:=λ⟨j,m⟩=>(qe S t).brs.length- j,keep:=[2,7]}
  |_=>χ {σ:=Nat×Int,pre:=λ⟨j,m⟩=>j<=(qe S t).fs.length/\(0<=m/\m<=100)/\z93 R ((qe S t).fs.drop j) m=z93 R (qe S t).fs 0,t:=λ⟨j,m⟩=>[(12, .sv (.int .i64 (j:Int))),(11, .sv (.int .i64 m))],h:=λ_=>[],more:=0,μ:=λ⟨j,m⟩=>(qe S t).fs.length- j,keep:=[2,7]}}
def HV:Ct where
 σ:=List AT×SV
 args:=λ⟨S,x⟩=>[kh x]
 h:=λ_=>[]
 m:=1
 pre:=λ⟨S,x⟩=>qx S
 mem:=λ⟨S,x⟩=>sM S x
 r:=λ_=> .tsl 1
 h':=λ_=>[]
 m':=2
 g:=λ⟨S,x⟩=>Cq (qC S)
def z50(A B:List Int) (i:Nat):List Int:=A.take i++B.drop i
def zl4:HV.σ->WayF:=λ⟨S,x⟩=>{
  pub:=λi k=>match i,k with
    |8,0=>[3]
    |17,1=>[67]
    |_,_=>[]
  ann :=λid t _=>match id with
    | 0=>match X4 t 3 with
      |some r=>χ {σ:=Nat,pre:=λj=>j<=S.length,t:=λj=>[(4, .sv (.int .i64 (j:Int)))],h:=λj=>[(r, .row 3 0 (qa qi (z50 (S.map kK) (Β S.length 0) j)))],more:=0,μ:=λj=>S.length- j,keep:=[1,3]}
      |none=>ρ
    |2=>χ {σ:=Nat×SV,pre:=λ⟨j,y⟩=>j<=S.length+1,mem:=λ⟨j,y⟩=>Cu y (zO S j),t:=λ⟨j,y⟩=>[(5, .sv (.int .i64 (j:Int))),(3,zI y)],h:=λ_=>[],more:=0,μ:=λ⟨j,y⟩=>S.length+1- j,keep:=[1]}
    | _ =>match jO t 5 with
      | some k=>match X4 t 6 with
        |some r=>χ {σ:=Nat,pre:=λi=>i<=S.length,t:=λi=>[(7, .sv (.int .i64 (i:Int)))],h:=λi=>[(r, .row 3 0 (qa qi (z50 (wT S (zO S k.toNat)) (zO S k.toNat) i)))],more:=0,μ:=λi=>S.length- i,keep:=[1,3,5,6]}
        |none=>ρ
      |none=>ρ}
def Us:Ct:=Zg (AT×SV×List Int) (λ⟨a,y,R⟩=>[a.av,zI y]) (λ⟨a,y,R⟩=>R.length<1000/\a.brs.length<=30/\∀b∈a.brs,0<=b/\b<R.length) (λ⟨a,y,R⟩=>arM a y R) λ⟨a,y,R⟩=> .sv (.int .i64 (zE R a.brs:Nat))
def Qj(R B:List Int) (i m:Nat):Bool:=decide (0<=qg R (B.getD i 0)/\(qg R (B.getD m 0)<0\/qg R (B.getD i 0)<qg R (B.getD m 0)))
def zky:Us.σ->WayF:=λ⟨a,y,R⟩=>{
  cut :=λr t _=>match r with
    | 6 =>match jO t 6 with
      | some i=>match jO t 5 with
        |some m=>χ {σ:=Unit,t:=λ_=>[(52, .sv (.bool (Qj R a.brs i.toNat m.toNat)))],h:=λ_=>[],more:=0,μ:=λ_=>0,keep:=[1,2,5,6]}
        |none=>ρ
      |none=>ρ
    |_=>ρ
  ann:=λ_ _ _=>χ {σ:=Nat×Nat,pre:=λ⟨i,m⟩=>i<=a.brs.length/\m<=i/\(m=i->m=0)/\yR R a.brs (a.brs.length- i) i m=zE R a.brs,t:=λ⟨i,m⟩=>[(6, .sv (.int .i64 (i:Int))),(5, .sv (.int .i64 (m:Int)))],h:=λ_=>[],more:=0,μ:=λ⟨i,m⟩=>a.brs.length- i,keep:=[1,2]}}
abbrev XO:=List AT×SV×SV×List Int
def Pa:Ct where
 σ:=XO
 args:=λ⟨S,x,y,R⟩=>[kh x,zI y]
 h:=λ_=>[]
 m:=1
 pre:=λ⟨S,x,y,R⟩=>qx S/\K6 S.length R
 mem:=λ⟨S,x,y,R⟩=>O2 S x y R
 r:=λ_=> .tsl 1
 h':=λ_=>[]
 m':=2
 g:=λ⟨S,x,y,R⟩=>Cq (wts S R)
def k0(S:List AT) (R:List Int) (k:Int) (i:Nat) (W:List Int):List Int:=wall S R (S.length- k.toNat) (k+1) (Q9 S R k (S.length- i) i W)
def zem:XO->WayF:=λ⟨S,x,y,R⟩=>{
  pubE:=[86]
  ann :=λid t _=>match X4 t 5 with
    | some r=>match id with
      |0=>χ {σ:=Nat×List Int,pre:=λ⟨k,W⟩=>k<=S.length+1/\WB S.length W/\wall S R (S.length+1- k) k W=wts S R,t:=λ⟨k,W⟩=>[(6, .sv (.int .i64 (k:Int)))],h:=λ⟨k,W⟩=>[(r, .row 3 0 (qa qi W))],more:=0,μ:=λ⟨k,W⟩=>S.length+1- k,keep:=[1,2,5]}
      | 2=>match jO t 6 with
        |some k=>χ {σ:=Nat×List Int,pre:=λ⟨i,W⟩=>i<=S.length/\WB S.length W/\k0 S R k i W=wts S R,t:=λ⟨i,W⟩=>[(7, .sv (.int .i64 (i:Int)))],h:=λ⟨i,W⟩=>[(r, .row 3 0 (qa qi W))],more:=0,μ:=λ⟨i,W⟩=>S.length- i,keep:=[1,2,5,6]}
        |none=>ρ
      | _ =>match jO t 6 with
        | some k=>match jO t 7 with
          |some i=>χ {σ:=Nat×List Int,pre:=λ⟨m,W⟩=>m<=(qe S i).fs.length/\WB S.length W/\k0 S R k (i.toNat+1) (wfs W i.toNat ((qe S i).fs.drop m))=wts S R,t:=λ⟨m,W⟩=>[(9, .sv (.int .i64 (m:Int)))],h:=λ⟨m,W⟩=>[(r, .row 3 0 (qa qi W))],more:=0,μ:=λ⟨m,W⟩=>(qe S i).fs.length- m,keep:=[1,2,5,6,7,8]}
          |none=>ρ
        |none=>ρ
    |none=>ρ
  cut :=λi t _=>match i with
    | 13=>match X4 t 5 with
      | some r=>match jO t 6 with
        | some k=>match jO t 7 with
          |some i=>χ {σ:=List Int,pre:=λW=>WB S.length W/\k0 S R k (i.toNat+1) (wfs W i.toNat (qe S i).fs)=wts S R,t:=λW=>[],h:=λW=>[(r, .row 3 0 (qa qi W))],more:=0,μ:=λ_=>0,keep:=[1,2,5,6,7,8]}
          |none=>ρ
        |none=>ρ
      |none=>ρ
    |_=>ρ}
def zB(n:Nat):Ck:=mkS (Β n 0)
def FV(S:List AT) (t:Int):Int:=qg (wts S (qC S)) t
def yT(S:List AT) (t:Int) (v:GV):Prop:=Φ S t v.pv/\v.pv.sn/\(v.pv.wt:Int)<=30*FV S t/\((qe S t).k=12\/(qe S t).k=13->v=zV)
abbrev Jd:=List AT×SV×Int×SV
def J9:CtR:=xo Jd (λ⟨S,x,t,y⟩=>[kh x, .sv (.int .i64 t),zI y]) (λ⟨S,x,t,y⟩=>qx S/\zW S t=ι) (λ⟨S,x,t,y⟩=>O2 S x y (qC S)) GV (λ⟨S,x,t,y⟩ v=>yT S t v) (λ_ v=>vM v) λ_ v=>v.av
def K3:Jd->Nat:=λ⟨S,x,t,y⟩=>(qg (qC S) t).toNat
def xr(S:List AT) (t:Int) (j:Nat) (l:List PV):Prop:=l.length=j/\j<=(qe S t).fs.length/\(∀(i:Nat) (h:i<l.length) (u:i<(qe S t).fs.length),Φ S ((qe S t).fs[i]).ty l[i])/\(∀v∈l,v.sn)/\(Υ l:Int)<=30*jn (wts S (qC S)) ((qe S t).fs.take j)
def zl0:Jd->WayF:=λ⟨S,x,t,y⟩=>{
 pubE:=[49,65]
 spl:=λi=>match i with
  |10=>χ 10
  |14=>χ 8
  |_=>ρ
 flo:=λi=>match i with
  |10=>χ (10,[0,1])
  |14=>χ (8,[0])
  |_=>ρ
 ann:=λ_ u _=>match AE u 8 with
  |some A=>χ {σ:=Nat×List GV,pre:=λ⟨j,fs⟩=>xr S t j (ε fs),mem:=λ⟨j,fs⟩=>yh fs,t:=λ⟨j,fs⟩=>[(9, .sv (.int .i64 (j:Int)))],h:=λ⟨j,fs⟩=>[(A,OZ 40 fs.length 41),(40, .row 36 0 (qa Ι fs))],more:=60,μ:=λ⟨j,fs⟩=>(qe S t).fs.length- j,keep:=[2,3,6,7,8]}
  |none=>ρ}
def Pr:CtR:=xo (List AT×SV×Int) (λ⟨S,x,t⟩=>[kh x, .sv (.int .i64 t)]) (λ⟨S,x,t⟩=>qx S) (λ⟨S,x,t⟩=>sM S x) (GV×Bool) (λ⟨S,x,t⟩ ⟨v,b⟩=>b=zW S t/\v.pv.sn/\v.pv.wt<=60000/\(b=ι->Φ S t v.pv)/\(b=ς\/(qe S t).k=12\/(qe S t).k=13->v=zV)) (λ_ ⟨v,b⟩=>vM v) λ_ ⟨v,b⟩=> .tup [v.av, .sv (.bool b)]
def zhp:CtR:=xo (List AT×SV×Int) (λ⟨S,x,t⟩=>[kh x, .sv (.int .i64 t)]) (λ⟨S,x,t⟩=>qx S/\(qe S t).k=12) (λ⟨S,x,t⟩=>sM S x) Bool (λ⟨S,x,t⟩ b=>b=zW S t) (λ_ _=>vM zV) λ_ b=> .tup [.agg [.int .u64 0, .str [], .nsl, .nsl, .int .i64 0], .sv (.bool b)]
section
variable (f:Int) (e:SV) (b:List AT) (t:SV) (c:List Int) (y:Ck) (u:Option Addr) (v z:Nat) (w:Int) (h:Option Addr) (i j:Nat) (k:Bool) (l:Ck) (m:Int) (n:Option Addr) (o p:Nat) (q:Option Addr) (r s:Nat) (g:Int) (a:Nat×Int) (A:Int) (K:Prop) (S:Nat×Int)
 abbrev RH:=(0<=f/\f<(↑e.2.1:Int))/\e.1≠noA/\K
 def YP:=e.1=e.1/\e.2.1=e.2.1/\e.2.2=e.2.2/\K
 def YO:=f=f/\y=y/\u=u/\v=v/\z=z/\w=w/\h=h/\i=i/\j=j/\k=k/\l=l/\m=m/\n=n/\o=o/\p=p/\q=q/\r=r/\s=s/\(∀d,True/\qd b e d/\qc qi t c d->True/\qd b e d/\qc qi t c d)/\K
 def RE:=a.1<=length (AT.brs (qe b f))/\((-1:Int)<=a.2/\a.2<=100)/\vC c (drop a.1 (AT.brs (qe b f))) a.2=vC c (AT.brs (qe b f)) (-1:Int)
 def ES:=(∀d,True/\qd b e d/\qc qi t c d->q37 d (adr t.1 (toNat f*1)) [int i64 w])
 abbrev RG:=Jb ((↑a.1:Int)+1)
 def ET:=(RE f b c a)/\length (AT.brs (qe b f))- a.1<length (AT.brs (qe b f))- S.1/\True
 def Nf:=RG a/\∃(d:Nat×Int),(↑d.1:Int)=(↑a.1:Int)+1/\YP e (d.2=f/\YO w t b e c y u v z m h i j k l g n o p q r s (ET A b c d a))
 def Nd:=RG a/\∃(d:Nat×Int),(↑d.1:Int)=(↑a.1:Int)+1/\YP e (d.2=a.2/\YO f t b e c y u v z w h i j k l m n o p q r s (ET g b c d a))
 def tE:=Ji (a.2<0) (Nf f e b t c y u v z w h i j k l m n o p q r s g a A) (Ji (f<a.2) (Nf f e b t c y u v z w h i j k l m n o p q r s g a A) (Nd w e b t c y u v z m h i j k l g n o p q r s A a))
 def tC:=(0<=(↑a.1:Int)/\(↑a.1:Int)<(↑v:Int))/\u≠noA/\∃(d:Int),(∀B,True/\qd b e B/\qc qi t c B->q37 B (adr u (toNat (↑a.1:Int)*1)) [int i64 d])/\RH d t (∃(x:Int),ES d e b t c x/\Ji (0<=x) (tE x t b e c y h z i f n j o k l w q p r u v s m a g) (Nd f t b e c y h z i w n j o k l m q p r u v s g a))
 def ER:=Jb (a.2+1)/\yE c (qe b f)=a.2+1/\True
 def eI:=Ji (a.2<0) (yE c (qe b f)= -1/\True) (ER f b c a)
 def tA:=Ji ((↑a.1:Int)<(↑v:Int)) (tC f e b t c y u v z w h i j k l m n o p q r s g a) (eI g b c a)
 def tz:=(∃(d:Nat×Int),(↑d.1:Int)=0/\YP e (d.2= -1/\YO f t b e c y u v z w h i j k l m n o p q r s ((RE g b c d)/\True)))/\∀(x:Nat×Int),RE g b c x->tA f t b e c y q r v w u z i k l m h j o n p s g x
 def RF:=a.1<=length (AT.fs (qe b f))/\(0<=a.2/\a.2<=100)/\z93 c (drop a.1 (AT.fs (qe b f))) a.2=z93 c (AT.fs (qe b f)) 0
 abbrev eG:=RG a/\∃(d:Nat×Int),(d.2=if f>a.2 then f else a.2)/\YP e ((↑d.1:Int)=(↑a.1:Int)+1/\YO w t b e c y u v z m h i j k l g n o p q r s ((RF A b c d)/\length (AT.fs (qe b A))- d.1<length (AT.fs (qe b A))- a.1/\True))
 def tH:=(0<=(↑a.1:Int)/\(↑a.1:Int)<(↑v:Int))/\u≠noA/\∃(d:Int),(∀B,True/\qd b e B/\qc qi t c B->q37 B (Ο (adr u (toNat (↑a.1:Int)*9)) 2) [int i64 d])/\RH d t (∃(x:Int),ES d e b t c x/\Ji (x<0) (yE c (qe b f)= -1/\True) (eG x t b e c y h z i w n j o k l m u v p q r s g a f))
 def tG:=Ji ((↑a.1:Int)<(↑v:Int)) (tH f e b t c y u v z w h i j k l m n o p q r s g a) (ER f b c a)
 def tF:=(∃(d:Nat×Int),d.2=0/\YP e ((↑d.1:Int)=0/\YO f t b e c y u v z w h i j k l m n o p q r s ((RF g b c d)/\True)))/\∀(x:Nat×Int),RF g b c x->tG g t b e c y n o v f u z i k l w h j p q r s m x
 def tx:=RH f e (∃(d:Int),∃B,∃x,∃(L:Nat),∃(M:Nat),∃(N:Int),∃O,∃(Q:Nat),∃(i8:Nat),∃(R:Bool),∃C,∃(D:Int),∃E,∃(F:Nat),∃(G:Nat),∃H,∃(i16:Nat),∃(I:Nat),(∀J,True/\qd b e J/\qc qi t c J->q37 J (adr e.1 (toNat f*10)) [int i64 d,string B,slice x L M,int i64 N,slice O Q i8,bool R,string C,int i64 D,slice E F G,slice H i16 I])/\Ji (d=14) (tz d t b e c B x L M N O Q i8 R C D E F G H i16 I f) (tF d t b e c B x L M N O Q i8 R C D E F G H i16 I f))
end
def zfn(S:List AT) (x:SV) (t:Int) (y:SV) (R:List Int):qk2 P (qf5 []) Tryz.f75 Pu (zl3) ⟨S,x,t,y,R⟩=(qx S/\K6 (length S) R/\0<=t/\t<(↑(length S):Int)->(∃(p:Pub),True/\qd S x p/\qc qi y R p)->tx t x S y R):=by kernel_rfl
def zjp:=λS x t y R=>Ν (zfn S x t y R) (by delta Ji Jb Jt Jf RH YP YO RE ES RG ET Nf Nd tE tC ER eI tA tz RF eG tH tG tF tx;exact rfl)
section
variable (b:SV) (a:List AT) (c g h i:Nat) (d:Nat×Option Addr×Nat×Nat) (m:Nat) (u:Nat->Option Obj) (v:Option Addr) (t:Nat) (q:Prop) (z:Int)
 abbrev kC:=(↑b.2.1:Int)
 def Q1:=b.1=b.1/\b.2.1=b.2.1/\b.2.2=b.2.2/\q
 abbrev Q2:=z50 (List.map kK a) (Β (length a) 0) c
 def RK:=(∀e,True/\qd a b e->True/\qd a b e)
 abbrev RM:=(↑c:Int)<(↑(toNat (kC b)):Int)
 def EU:=(∀e,True/\qd a b e->q37 e (Ο (adr b.1 (toNat (↑c:Int)*10)) 0) [int i64 z])
 abbrev Xw:=(0:Nat)+toNat (↑c:Int)*nat_lit 1
 abbrev Xu:=Jb ((↑c:Int)+1)
 def Xv:=c<=length a/\length a- c<length a- g/\True
 def eJ:=(0<=(↑c:Int)/\RM b c)/\(0:Nat)+toNat (↑c:Int)*nat_lit 1+length [int i64 0]<=length (spl (qa qi (Q2 a c)) (Xw c) [int i64 (-1:Int)])/\Xu c/\∃(e:Nat),toNat (kC b)=toNat (kC b)/\(↑e:Int)=(↑c:Int)+1/\Q1 b (qa qi (Q2 a e)=spl (spl (qa qi (Q2 a c)) (Xw c) [int i64 (-1:Int)]) (Xw c) [int i64 0]/\RK b a/\Xv a e c)
 def Ng:=Xu c/\∃(e:Nat),toNat (kC b)=toNat (kC b)/\(↑e:Int)=(↑c:Int)+1/\Q1 b (qa qi (Q2 a e)=spl (qa qi (Q2 a c)) (Xw c) [int i64 (-1:Int)]/\RK b a/\Xv a e c)
 def tP:=(0<=(↑c:Int)/\(↑c:Int)<(kC b))/\b.1≠noA/\∃(e:Int),EU b a c e/\((!decide (e=14))=ι->eJ b a c)/\((!decide (e=14))=ς->Ng b a c)
 def tN:=(0<=(↑c:Int)/\RM b c)/\(0:Nat)+toNat (↑c:Int)*nat_lit 1+length [int i64 (-1:Int)]<=length (qa qi (Q2 a c))/\(0<=(↑c:Int)/\(↑c:Int)<(kC b))/\b.1≠noA/\∃(e:Int),EU b a c e/\((!decide (e=9))=ι->tP b a c)/\((!decide (e=9))=ς->Ng b a c)
 def JB:=(True/\qd a b u)/\True/\toNat (kC b)<=c / nat_lit 1/\qgm u (χ (Κ g h ρ)) (take (toNat (kC b)*nat_lit 1) (qa qi (Q2 a i)))
 def uZ:=(JB b a c g h i u)/\qc qi d.2 (zO a d.1) u
 abbrev RL:=(↑d.2.2.1:Int)
 def Xt:=d.2.1=d.2.1/\d.2.2.1=d.2.2.1/\d.2.2.2=d.2.2.2/\q
 def RJ:=(↑d.1:Int)=(↑d.1:Int)/\(0:Nat)+d.2.2.1=0+d.2.2.1/\q
 abbrev ZZ:=z50 (wT a (zO a (toNat (↑d.1:Int)))) (zO a (toNat (↑d.1:Int))) c
 def RN:=(∀e,uZ b a c g h i d e->uZ b a c g h i d e)
 def eL:=Xu c/\∃(e:Nat),Xt d ((↑e:Int)=(↑c:Int)+1/\RJ d (Q1 b (qa qi (ZZ a e d)=qa qi (ZZ a c d)/\RN b a g h i m d/\Xv a e c)))
 def tO:=(0<=(↑c:Int)/\(↑c:Int)<(RL d))/\d.2.1≠noA/\∃(e:Int),(∀k,uZ b a g h i m d k->q37 k (adr d.2.1 (toNat (↑c:Int)*1)) [int i64 e])/\Ji (0<=e) (eL b a c g h i d m) (∃(f:R7),f.2.1.1=b.1/\f.2.1.2.1=b.2.1/\f.2.1.2.2=b.2.2/\f.2.2.1=(↑c:Int)/\f.2.2.2.1.1=d.2.1/\f.2.2.2.1.2.1=d.2.2.1/\f.2.2.2.1.2.2=d.2.2.2/\(qx f.1/\K6 (length f.1) f.2.2.2.2/\0<=f.2.2.1/\f.2.2.1<(↑(length f.1):Int))/\(∀x,uZ b a g h i m d x->qd f.1 f.2.1 x/\qc qi f.2.2.2.1 f.2.2.2.2 x)/\(0<=(↑c:Int)/\(↑c:Int)<(↑((0:Nat)+d.2.2.1):Int))/\nat_lit 0+toNat (↑c:Int)*nat_lit 1+length [int i64 (yE f.2.2.2.2 (qe f.1 f.2.2.1))]<=length (qa qi (ZZ a c d))/\Xu c/\∃(y:Nat),Xt d ((↑y:Int)=(↑c:Int)+1/\RJ d (Q1 b (qa qi (ZZ a y d)=spl (qa qi (ZZ a c d)) (nat_lit 0+toNat (↑c:Int)*nat_lit 1) [int i64 (yE f.2.2.2.2 (qe f.1 f.2.2.1))]/\RN b a g h i m d/\Xv a y c))))
 def RI:=(0:Nat)+d.2.2.1<=c/\qgm u v (take (((0:Nat)+d.2.2.1)*nat_lit 1) (qa qi (ZZ a g d)))
 def eK:=Jb ((↑d.1:Int)+1)/\∃(e:Nat×Option Addr×Nat×Nat),e.2.1=v/\e.2.2.1=0+d.2.2.1/\e.2.2.2=c/\(↑e.1:Int)=(↑d.1:Int)+1/\Q1 b ((∀k,(uZ b a g h i m d k)/\RI a c t d k v->JB b a g h i m k)/\(∀j,(uZ b a g h i m d j)/\RI a c t d j v->qc qi e.2 (zO a e.1) j)/\e.1<=length a+1/\length a+1- e.1<length a+1- d.1/\True)
 def tM:=Ji ((↑c:Int)<(RL d)) (tO b a c g h i d m) (∀(i8 B o:Nat) (l:Option Addr) (p n:Nat),(∃r,(uZ b a g h i m d r)/\RI a n c d r l)->eK b a n g h i d m l c)
 def tL:=Ji ((↑d.1:Int)<=(RL d)) (∃e,length e=d.2.2.1*1/\(∀k,uZ b a c g h i d k->qgm k d.2.1 e)/\qkb e/\((0:Nat)+d.2.2.1)*8<=140737488355328/\(∃(j:Nat),Xt d ((↑j:Int)=0/\RJ d (Q1 b (qa qi (ZZ a j d)=[]++e/\RN b a c g h i d/\j<=length a/\True))))/\∀(f:Nat),f<=length a->tM b a f c g h d i) (∃(A:Unit),Xt d (Pl d.2.1/\True/\(∀s,uZ b a c g h i d s->qc qi (d.2.1,d.2.2.1,d.2.2.2) (qC a) s)/\True))
 def tK:=(∃(e:Nat×Option Addr×Nat×Nat),e.2.1=χ (Κ c g ρ)/\e.2.2.1=toNat (kC b)/\e.2.2.2=h / nat_lit 1/\(↑e.1:Int)=0/\Q1 b ((∀k,JB b a h c g i k->JB b a h c g i k)/\(∀j,JB b a h c g i j->qc qi e.2 (zO a e.1) j)/\e.1<=length a+1/\True))/\∀(w:Nat×Option Addr×Nat×Nat),w.1<=length a+1->(∃f,uZ b a h c g i w f)->tL b a h c g i w
 def tJ:=Ji (RM b c) (tN b a c) (∀(o l p:Nat),(∃n,JB b a p o l c n)->tK b a o l p c)
 def tI:=(0<=(kC b)/\(kC b)<=(kC b)/\(↑(8:Nat):Int)*(kC b)<=140737488355328/\(kC b)<140737488355328)/\(∃(e:Nat),toNat (kC b)=toNat (kC b)/\(↑e:Int)=0/\Q1 b (qa qi (Q2 a e)=q6w [int i64 0] (toNat (kC b))/\RK b a/\e<=length a/\True))/\∀(j:Nat),j<=length a->tJ b a j
end
def zfo(S:List AT) (x:SV):qk2 P (qf5 [(75,Pu)]) Tryz.f35 HV (zl4) ⟨S,x⟩=(qx S->(∃(p:Pub),True/\qd S x p)->tI x S):=by kernel_rfl
def zjr:=λS x=>Ν (zfo S x) (by delta Ji Jb Jt Jf kC Q1 Q2 RK RM EU Xw Xu Xv eJ Ng tP tN JB uZ RL Xt RJ ZZ RN eL tO RI eK tM tL tK tJ tI;exact rfl)
section
variable (d:SV) (a:AT) (e:List Int) (b:Nat×Nat) (c:Int) (j:Prop) (i p:Int) (n:Nat×Nat)
 abbrev Z0:=d.1=d.1/\d.2.1=d.2.1/\d.2.2=d.2.2/\j
 def Vs:=AT.k a=AT.k a/\AT.nm a=AT.nm a/\(AT.al a).1=(AT.al a).1/\(AT.al a).2.1=(AT.al a).2.1/\(AT.al a).2.2=(AT.al a).2.2/\AT.it a=AT.it a/\(AT.sy a).1=(AT.sy a).1/\(AT.sy a).2.1=(AT.sy a).2.1/\(AT.sy a).2.2=(AT.sy a).2.2/\AT.hd a=AT.hd a/\AT.df a=AT.df a/\AT.sz a=AT.sz a/\(AT.f a).1=(AT.f a).1/\(AT.f a).2.1=(AT.f a).2.1/\(AT.f a).2.2=(AT.f a).2.2/\(AT.br a).1=(AT.br a).1/\(AT.br a).2.1=(AT.br a).2.1/\(AT.br a).2.2=(AT.br a).2.2/\(∀g,True/\qqu a g/\qc qi d e g->True/\qqu a g/\qc qi d e g)/\j
 def RO:=b.1<=length (AT.brs a)/\b.2<=b.1/\(b.2=b.1->b.2=0)/\yR e (AT.brs a) (length (AT.brs a)- b.1) b.1 b.2=zE e (AT.brs a)
 abbrev YQ:=(↑(AT.br a).2.1:Int)
 def EW:=(∀g,True/\qqu a g/\qc qi d e g->q37 g (adr (AT.br a).1 (toNat (↑b.1:Int)*1)) [int i64 c])
 def Xy:=(0<=c/\c<(↑d.2.1:Int))/\d.1≠noA/\j
 def Xx:=(∀g,True/\qqu a g/\qc qi d e g->q37 g (adr d.1 (toNat c*1)) [int i64 i])
 def jZ:=decide (0<=c)=decide (0<=c)
 def EX:=(∀g,True/\qqu a g/\qc qi d e g->q37 g (adr (AT.br a).1 (toNat (↑b.2:Int)*1)) [int i64 c])
 def wy:=decide (c<0)=decide (c<0)
 def KQ:=wy c/\wy c/\wy c/\wy c/\j
 def RQ:=(Jf (0<=c)->∃(g:Unit),Z0 d ((↑b.2:Int)=(↑b.2:Int)/\Qj e (AT.brs a) (toNat (↑b.1:Int)) (toNat (↑b.2:Int))=ς/\(↑b.1:Int)=(↑b.1:Int)/\Vs d a e (True/\True)))
 def Nh:=(Jt (0<=c)->∃(g:Unit),Z0 d ((↑b.2:Int)=(↑b.2:Int)/\Qj e (AT.brs a) (toNat (↑b.1:Int)) (toNat (↑b.2:Int))=ι/\(↑b.1:Int)=(↑b.1:Int)/\Vs d a e (True/\True)))/\RQ d a e b c
 def EV:=(Jt (0<=c)->∃(g:Unit),Z0 d ((↑b.2:Int)=(↑b.2:Int)/\False))/\RQ d a e b c
 def tV:=KQ c (KQ c (KQ c (KQ c (jZ i/\Ji (c<0) (Nh d a e b i) (EV d a e b i)))))
 def eS:=(Jt (0<=c)->∃(g:Unit),Z0 d ((↑b.2:Int)=(↑b.2:Int)/\Qj e (AT.brs a) (toNat (↑b.1:Int)) (toNat (↑b.2:Int))=decide (i<p)/\(↑b.1:Int)=(↑b.1:Int)/\Vs d a e (True/\True)))/\RQ d a e b c
 def tU:=KQ c ((0<=(↑b.1:Int)/\(↑b.1:Int)<(YQ a))/\(AT.br a).1≠noA/\wy c/\∃(g:Int),EW d a e b g/\wy c/\Xy d g (wy c/\∃(h:Int),Xx d a e g h/\wy c/\KQ c ((0<=(↑b.2:Int)/\(↑b.2:Int)<(YQ a))/\(AT.br a).1≠noA/\wy c/\∃(l:Int),EX d a e b l/\wy c/\Xy d l (wy c/\∃(m:Int),Xx d a e l m/\wy c/\jZ i/\Ji (c<0) (Nh d a e b i) (eS d a e b i h m)))))
 def tT:=jZ c/\jZ c/\jZ c/\jZ c/\(0<=(↑b.2:Int)/\(↑b.2:Int)<(YQ a))/\(AT.br a).1≠noA/\jZ c/\∃(g:Int),EX d a e b g/\jZ c/\Xy d g (jZ c/\∃(h:Int),Xx d a e g h/\jZ c/\jZ c/\Ji (h<0) (tV d a e b h c) (tU d a e b h c))
 def eP:=jZ c/\jZ c/\jZ c/\jZ c/\jZ c/\jZ c/\jZ c/\jZ c/\jZ c/\jZ c/\EV d a e b c
 abbrev EZ:=Jb ((↑b.1:Int)+1)
 def EY:=(↑b.1:Int)=(↑n.1:Int)+1/\Vs d a e ((RO a e b)/\length (AT.brs a)- b.1<length (AT.brs a)- n.1/\True)
 def eQ:=EZ b/\∃(g:Nat×Nat),Z0 d ((↑g.2:Int)=(↑b.1:Int)/\EY d a e g b)
 def eR:=EZ b/\∃(g:Nat×Nat),Z0 d ((↑g.2:Int)=(↑b.2:Int)/\EY d a e g b)
 def tW:=(Qj e (AT.brs a) (toNat (↑b.1:Int)) (toNat (↑b.2:Int))=ι->eQ d a e b)/\(Qj e (AT.brs a) (toNat (↑b.1:Int)) (toNat (↑b.2:Int))=ς->eR d a e b)
 def tS:=((0<=(↑b.1:Int)/\(↑b.1:Int)<(YQ a))/\(AT.br a).1≠noA/\∃(g:Int),EW d a e b g/\Xy d g (∃(h:Int),Xx d a e g h/\Ji (0<=h) (tT d a e b h) (eP d a e b h)))/\∀(o:Unit),True->tW d a e b
 def tR:=Ji ((↑b.1:Int)<(YQ a)) (tS d a e b) ((↑(zE e (AT.brs a)):Int)=(↑b.2:Int)/\True)
 def tQ:=(∃(g:Nat×Nat),Z0 d ((↑g.2:Int)=0/\(↑g.1:Int)=0/\Vs d a e ((RO a e g)/\True)))/\∀(h:Nat×Nat),RO a e h->tR d a e h
end
def zf3(a:AT) (y:SV) (R:List Int):qk2 P (qf5 []) Tryz.f76 Us (zky) ⟨a,y,R⟩=((length R<1000/\length (AT.brs a)<=30/\∀(b:Int),b∈AT.brs a->0<=b/\b<(↑(length R):Int))->(∃(p:Pub),True/\qqu a p/\qc qi y R p)->tQ y a R):=by kernel_rfl
def zhw:=λa y R=>Ν (zf3 a y R) (by delta Ji Jb Jt Jf Z0 Vs RO YQ EW Xy Xx jZ EX wy KQ RQ Nh EV tV eS tU tT eP EZ EY eQ eR tW tS tR tQ;exact rfl)
section
variable {R:List Int}
def z25{y:SV} {p:Pub} (h:qc qi y R p) {k:Nat} (u:k<R.length):y.1≠noA/\q37 p (adr y.1 (k*1)) [.int .i64 (qg R (k:Int))]:=by rw[wX u];exact jX z26 (by decide) h u
variable {S:List AT}
def kB{i:Nat} (hi:i<S.length):qe S (i:Int)=S[i]:=by unfold qe;rw[γ,ν hi];rfl
def Ll{a:AT} {p:Pub} (h:a.ok p) {j:Nat} (u:j<a.fs.length):q37 p ((adr a.f.1 (j*9)).add 2) [.int .i64 a.fs[j].ty]:=λi v hi=>by
 cases i with
 |zero=>have:=(w_ h u).2 2 v hi;rw[Ψ];exact this
 |succ i=>simp at hi
def zhe{R B:List Int} {j:Nat} (h:j<B.length) (m:Int):vC R (B.drop j) m=vC R (B.drop (j+1)) (if 0<=qg R B[j]/\(m<0\/qg R B[j]<m)then qg R B[j]else m):=by rw[Ξ h,vC]
def zj8{B:List AF} {j:Nat} (h:j<B.length) (m:Int):z93 R (B.drop j) m=if qg R B[j].ty<0 then -1 else z93 R (B.drop (j+1)) (if m<qg R B[j].ty then qg R B[j].ty else m):=by rw[Ξ h,z93]
def zjq:q4p P 75 Pu:=by
 refine qA (qcl qjq) (W:=zl3) Tryz.func75 λ⟨S,(x:SV),(t:Int),(y:SV),R⟩=>(zjp S x t y R).mpr ?_;rintro⟨hS,⟨hRl,hR⟩,ht0,ht1⟩ ⟨p,_,hx,V⟩;obtain⟨i,rfl⟩:=Λ ht0;have hi:i<S.length:=by omega
 have sl:x.2.1=S.length:=hx.1.1;have yl:y.2.1=R.length:=V.1;have U:=λq (hq:qd S x q/\qc qi y R q)=>y_ hq.1 hi;have H:=λq (hq:qd S x q/\qc qi y R q)=>hq.1.2 S[i] (δ hi);have A:=hS.2 S[i] (δ hi);simp only[qB,exists_const,forall_const,γ,sl,yl,kB hi];have J:qd S x p/\qc qi y R p:=⟨hx,V⟩;have h60:=hS.1;obtain⟨_,_,fl,bl⟩:=yH (H p J);have hb30:=A.2.2.2.2.2.2.2.2.1;have hf30:=A.2.2.2.2.2.2.2.1;have X:=A.2.2.1;have Y:=λf (hf:f∈S[i].fs)=>(A.2.2.2.2.1 f hf).1;clear A;refine⟨⟨by omega,by omega⟩,(U p J).1,S[i].k,S[i].nm,S[i].al.1,S[i].al.2.1,S[i].al.2.2,S[i].it,S[i].sy.1,S[i].sy.2.1,S[i].sy.2.2,S[i].hd,S[i].df,S[i].sz,S[i].f.1,S[i].f.2.1,S[i].f.2.2,S[i].br.1,S[i].br.2.1,S[i].br.2.2,λq hq=>(U q hq).2,λhk=>⟨⟨⟨0, -1⟩,rfl,rfl,Θ _,⟨by decide,by decide⟩,rfl⟩,?_⟩,λhk=>⟨⟨⟨0,0⟩,rfl,rfl,Θ _,⟨by decide,by decide⟩,rfl⟩,?_⟩⟩
 ·rintro⟨j,m⟩ ⟨hj,⟨C,G⟩,T⟩;simp only at hj C G T⊢;refine⟨λhlt=> ?_,λZ=> ?_⟩
  ·have u:j<S[i].brs.length:=(by omega);have hd:=zhe (R:=R) u m;have bin:=X _ (δ u);have bat:=λq hq=>uO (H q hq) u;rw[T]at hd;generalize S[i].brs[j]=b at*;obtain⟨k,hk2,rfl⟩:=vR bin;have B:k<R.length:=(by omega);obtain⟨r1,r2⟩:=hR k bin;refine⟨⟨by omega,by omega⟩,(bat p J).1,(k:Int),λq hq=>(bat q hq).2,⟨by omega,by omega⟩,(z25 V B).1,qg R k,λq hq=>(by rw[γ];exact(z25 hq.2 B).2),λO=>⟨λh1=>⟨⟨by omega,by omega⟩,⟨j+1,qg R k⟩,by show((j+1:Nat):Int)=_;omega,rfl,⟨by show j+1<=_;omega,⟨r1,r2⟩,?_⟩,by show _- (j+1)<_;omega⟩,λh1=>⟨λh2=>⟨⟨by omega,by omega⟩,⟨j+1,qg R k⟩,by show((j+1:Nat):Int)=_;omega,rfl,⟨by show j+1<=_;omega,⟨r1,r2⟩,?_⟩,by show _- (j+1)<_;omega⟩,λh2=>⟨⟨by omega,by omega⟩,⟨j+1,m⟩,by show((j+1:Nat):Int)=_;omega,rfl,⟨by show j+1<=_;omega,⟨C,G⟩,?_⟩,by show _- (j+1)<_;omega⟩⟩⟩,λO=>⟨⟨by omega,by omega⟩,⟨j+1,m⟩,by show((j+1:Nat):Int)=_;omega,rfl,⟨by show j+1<=_;omega,⟨C,G⟩,?_⟩,by show _- (j+1)<_;omega⟩⟩
   ·rw[if_pos ⟨O, .inl h1⟩]at hd;exact hd.symm
   ·rw[if_pos ⟨O, .inr h2⟩]at hd;exact hd.symm
   ·rw[if_neg (by omega)]at hd;exact hd.symm
   ·rw[if_neg (by omega)]at hd;exact hd.symm
  ·rw[Μ (by omega),vC]at T;unfold yE;rw[if_pos hk,←T];exact⟨λh=>by rw[if_pos h],λh=>⟨⟨by omega,by omega⟩,by rw[if_neg h]⟩⟩
 ·rintro⟨j,m⟩ ⟨hj,⟨C,G⟩,T⟩;simp only at hj C G T⊢;have er:yE R S[i]=z93 R S[i].fs 0:=by unfold yE;rw[if_neg hk]
  rw[er,←T];refine⟨λhlt=> ?_,λZ=> ?_⟩
  ·have u:j<S[i].fs.length:=(by omega);have hd:=zj8 (R:=R) u m;have bin:=Y _ (δ u);have bat:=λq hq=>Ll (H q hq) u;have bne:=(w_ (H p J) u).1;rw[hd];generalize S[i].fs[j]=f at*;obtain⟨k,hk2,e⟩:=vR bin;rw[e]at hd bin⊢;have B:k<R.length:=(by omega);obtain⟨r1,r2⟩:=hR k bin;refine⟨⟨by omega,by omega⟩,bne,(k:Int),λq hq=>(by have:=bat q hq;rw[e]at this;exact this),⟨by omega,by omega⟩,(z25 V B).1,qg R k,λq hq=>(by rw[γ];exact(z25 hq.2 B).2),λO=>by rw[if_pos O],λO=>⟨⟨by omega,by omega⟩,⟨j+1,if m<qg R k then qg R k else m⟩,rfl,by show((j+1:Nat):Int)=_;omega,⟨by show j+1<=_;omega,⟨?_,?_⟩,?_⟩,by show _- (j+1)<_;omega⟩⟩
   ·show 0<=if m<qg R k then qg R k else m;split<;>omega
   ·show(if m<qg R k then qg R k else m)<=100;split<;>omega
   ·rw[if_neg O]
  ·rw[Μ (by omega),z93];exact⟨⟨by omega,by omega⟩,rfl⟩
def H3{A B:List Int} (h:A.length=B.length) (i:Nat):(z50 A B i).length=B.length:=by unfold z50;simp;omega
def zzz{α:Type} (X:List α) (b v:α) (Y:List α):(X++b::Y).set X.length v=X++v::Y:=by
 induction X with
 |nil=>rfl
 |cons a X h=>simp
def zyz{A B:List Int} (h:A.length=B.length) {i:Nat} (hi:i<B.length):(z50 A B i).set i (qg A i)=z50 A B (i+1):=by
 unfold z50;have hA:i<A.length:=by omega
 have e:(A.take i).length=i:=by simp;omega
 have:=zzz (A.take i) B[i] A[i] (B.drop (i+1));rw[e]at this;rw[wX hA,Ξ hi,this,Ε hA,qq7];rfl
def zpy{A B:List Int} (h:A.length=B.length) {i:Nat} (hi:i<B.length) (e:qg A i=qg B i):z50 A B i=z50 A B (i+1):=by
 unfold z50;have hA:i<A.length:=by omega
 rw[wX hA,wX hi]at e;rw[Ξ hi,←e,Ε hA,qq7];rfl
def zdt(A B:List Int):z50 A B 0=B:=by unfold z50;simp
def zj7{A B:List Int} (h:A.length=B.length) {i:Nat} (hi:B.length<=i):z50 A B i=A:=by unfold z50;rw[Ζ (by omega),Μ (by omega),List.append_nil]
def J5(W:List Int) (i:Nat) (hi:i<W.length) (v:Int):qa qi (W.set i v)=spl (qa qi W) (0+i*1) [.int .i64 v]:=HI z26 W i hi v
def H4{A B:List Int} (h:A.length=B.length) {i:Nat} (hi:i<B.length) {v:Int} (e:qg A i=v):qa qi (z50 A B (i+1))=spl (qa qi (z50 A B i)) (0+i*1) [.int .i64 v]:=by rw[←zyz h hi,e];exact J5 _ _ (by rw[H3 h];exact hi) _
def PM:∀n:Nat,q6w [.int .i64 0] n=qa qi (Β n 0)
 |0=>rfl
 |n+1=>by rw[q6w,PM n];rfl
def zjw{K:Int} (h:yQ S R K) (B:K<=100):K6 S.length R:=⟨h.1,λt A=>by obtain⟨j,u,rfl⟩:=vR A;have:=(h.2 j u).1;omega⟩
end
section
variable (b h:SV) (c:List AT) (e:List Int) (a i:Nat×List Int) (O:Int) (T:Ck) (Q:Option Addr) (F p:Nat) (m:Int) (r:Option Addr) (q s:Nat) (t:Bool) (u:Ck) (v:Int) (w:Option Addr) (x y:Nat) (j:Option Addr) (l n:Nat) (E:List Int) (A:Nat×List Int) (x26:Prop) (S:Nat->Option Obj)
 abbrev x7:=True/\qd c b S/\qc qi h e S
 abbrev kE:=(↑b.2.1:Int)
 def kD:=b.1=b.1/\b.2.1=b.2.1/\b.2.2=b.2.2/\x26
 def KR:=toNat (kE b)=toNat (kE b)
 def x6:=(∀d,x7 b h c e d->x7 b h c e d)
 def RT:=a.1<=length c+1/\WB (length c) a.2/\wall c e (length c+1- a.1) (↑a.1:Int) a.2=wts c e
 def YT:=KR b/\(↑a.1:Int)=(↑a.1:Int)/\x26
 def Xz:=a.1<=length c/\WB (length c) a.2/\k0 c e (↑i.1:Int) a.1 a.2=wts c e
 abbrev XA:=Jb ((↑a.1:Int)+1)
 def XC:=(↑a.1:Int)=(↑i.1:Int)+1
 def eX:=XA a/\∃(d:Nat×List Int),kD b (XC d a/\YT b i (kD h (qa qi d.2=qa qi a.2/\x6 h b c e/\(Xz c e d i)/\length c- d.1<length c- a.1/\True)))
 def YS:=(0<=(↑a.1:Int)/\(↑a.1:Int)<(↑(toNat (kE b)):Int))
 abbrev Z1:=(0:Nat)+toNat (↑a.1:Int)*nat_lit 1
 abbrev YR:=spl (qa qi a.2) (Z1 a) [int i64 1]
 abbrev XB:=if(1000000:Int)<O+m then 1000000 else O+m
 def RU:=WB (length c) e/\k0 c E (↑a.1:Int) (toNat (↑i.1:Int)+1) (wfs e (toNat (↑i.1:Int)) (AT.fs (qe c (↑i.1:Int))))=wts c E
 def jym:=YS b a/\∃(d:Int),qga (YR a) (Z1 a) [int i64 d]/\∃(g:AT×(Option Addr×Nat×Nat)×List Int),AT.k g.1=O/\AT.nm g.1=T/\(AT.al g.1).1=Q/\(AT.al g.1).2.1=F/\(AT.al g.1).2.2=p/\AT.it g.1=m/\(AT.sy g.1).1=r/\(AT.sy g.1).2.1=q/\(AT.sy g.1).2.2=s/\AT.hd g.1=t/\AT.df g.1=u/\AT.sz g.1=v/\(AT.f g.1).1=w/\(AT.f g.1).2.1=x/\(AT.f g.1).2.2=y/\(AT.br g.1).1=j/\(AT.br g.1).2.1=l/\(AT.br g.1).2.2=n/\g.2.1.1=b.1/\g.2.1.2.1=b.2.1/\g.2.1.2.2=b.2.2/\(length g.2.2<1000/\length (AT.brs g.1)<=30/\∀(o:Int),o∈AT.brs g.1->0<=o/\o<(↑(length g.2.2):Int))/\(∀B,x7 h b c e B->qqu g.1 B/\qc qi g.2.1 g.2.2 B)/\(0<=(↑(zE g.2.2 (AT.brs g.1)):Int)/\(↑(zE g.2.2 (AT.brs g.1)):Int)<(↑l:Int))/\j≠noA/\∃(z:Int),(∀U,x7 h b c e U->q37 U (adr j (toNat (↑(zE g.2.2 (AT.brs g.1)):Int)*1)) [int i64 z])/\(0<=z/\z<(↑(toNat (kE b)):Int))/\∃(R:Int),qga (YR a) ((0:Nat)+toNat z*nat_lit 1) [int i64 R]/\Jb (d+R)/\YS b a/\(0:Nat)+toNat (↑a.1:Int)*nat_lit 1+length [int i64 (XB d R)]<=length (YR a)/\∃(V:Int),qga (YR a) (Z1 a) [int i64 V]/\AV.sv (int i64 V)=AV.sv (int i64 d)/\AV.sv (slice j l n)=AV.sv (slice j l n)/\∃(i8:List Int),kD b ((↑a.1:Int)=(↑a.1:Int)/\YT b i (kD h (O=O/\T=T/\Q=Q/\F=F/\p=p/\m=m/\r=r/\q=q/\s=s/\t=t/\u=u/\v=v/\w=w/\x=x/\y=y/\j=j/\l=l/\n=n/\qa qi i8=spl (YR a) (Z1 a) [int i64 (XB d R)]/\x6 h b c e/\(RU c i8 i a e)/\True)))
 def RS:=a.1<=length (AT.fs (qe c (↑i.1:Int)))/\WB (length c) a.2/\k0 c e (↑A.1:Int) (toNat (↑i.1:Int)+1) (wfs a.2 (toNat (↑i.1:Int)) (drop a.1 (AT.fs (qe c (↑i.1:Int)))))=wts c e
 def jyo:=YS b a/\∃(d:Int),qga (qa qi i.2) (Z1 a) [int i64 d]/\(0<=(↑i.1:Int)/\(↑i.1:Int)<(↑F:Int))/\Q≠noA/\∃(g:Int),(∀o,x7 h b c e o->q37 o (Ο (adr Q (toNat (↑i.1:Int)*9)) 2) [int i64 g])/\(0<=g/\g<(↑(toNat (kE b)):Int))/\∃(B:Int),qga (qa qi i.2) ((0:Nat)+toNat g*nat_lit 1) [int i64 B]/\Jb (d+B)/\YS b a/\(0:Nat)+toNat (↑a.1:Int)*nat_lit 1+length [int i64 (XB d B)]<=length (qa qi i.2)/\XA i/\∃(z:Nat×List Int),kD b ((↑a.1:Int)=(↑a.1:Int)/\KR b/\XC z i/\(↑A.1:Int)=(↑A.1:Int)/\kD h (O=O/\T=T/\r=r/\p=p/\q=q/\m=m/\w=w/\s=s/\x=x/\t=t/\u=u/\v=v/\Q=Q/\F=F/\y=y/\j=j/\l=l/\n=n/\qa qi z.2=spl (qa qi i.2) (Z1 a) [int i64 (XB d B)]/\x6 h b c e/\(RS c e z a A)/\length (AT.fs (qe c (↑a.1:Int)))- z.1<length (AT.fs (qe c (↑a.1:Int)))- i.1/\True))
 def eY:=XA a/\∃(d:Nat×List Int),kD b (XC d a/\YT b i (kD h (qa qi d.2=qa qi A.2/\x6 h b c e/\(Xz c e d i)/\length c- d.1<length c- a.1/\True)))
 def jyn:=Ji ((↑a.1:Int)<(↑F:Int)) (jyo b h c e i a O T Q F p m r q s t u v w x y j l n A) (eY b h c e i A a)
 def jyl:=(∃(d:Nat×List Int),kD b ((↑a.1:Int)=(↑a.1:Int)/\KR b/\(↑d.1:Int)=0/\(↑i.1:Int)=(↑i.1:Int)/\kD h (O=O/\T=T/\Q=Q/\F=F/\p=p/\m=m/\r=r/\q=q/\s=s/\t=t/\u=u/\v=v/\w=w/\x=x/\y=y/\j=j/\l=l/\n=n/\qa qi d.2=qa qi e/\x6 h b c E/\(RS c E d a i)/\True)))/\∀(o:Nat×List Int),RS c E o a i->jyn b h c E o a O T w x F m Q p q t u v r s y j l n i
 def jyk:=YS b a/\(0:Nat)+toNat (↑a.1:Int)*nat_lit 1+length [int i64 1]<=length (qa qi a.2)/\(0<=(↑a.1:Int)/\(↑a.1:Int)<(kE h))/\h.1≠noA/\∃(d:Int),∃g,∃o,∃(B:Nat),∃(z:Nat),∃(U:Int),∃R,∃(V:Nat),∃(i8:Nat),∃(i9:Bool),∃G,∃(H:Int),∃I,∃(J:Nat),∃(K:Nat),∃L,∃(i16:Nat),∃(M:Nat),(∀W,x7 h b c e W->q37 W (adr h.1 (toNat (↑a.1:Int)*10)) [int i64 d,string g,slice o B z,int i64 U,slice R V i8,bool i9,string G,int i64 H,slice I J K,slice L i16 M])/\(Ji (d=14) (jym b h c e a i d g o B z U R V i8 i9 G H I J K L i16 M) (∃(X:List Int),kD b ((↑a.1:Int)=(↑a.1:Int)/\YT b i (kD h (d=d/\g=g/\o=o/\B=B/\z=z/\U=U/\R=R/\V=V/\i8=i8/\i9=i9/\G=G/\H=H/\I=I/\J=J/\K=K/\L=L/\i16=i16/\M=M/\qa qi X=spl (qa qi a.2) (Z1 a) [int i64 1]/\x6 h b c e/\(RU c X i a e)/\True)))))/\∀(Y:List Int),RU c Y i a e->jyl b h c Y a i d g o B z U R V i8 i9 G H I J K L i16 M e
 def jyj:=(0<=(↑a.1:Int)/\(↑a.1:Int)<(kE b))/\b.1≠noA/\∃(d:Int),(∀g,x7 h b c e g->q37 g (adr b.1 (toNat (↑a.1:Int)*1)) [int i64 d])/\((!decide (d=(↑i.1:Int)))=ι->eX b h c e a i)/\((!decide (d=(↑i.1:Int)))=ς->jyk b h c e a i)
 def eW:=XA a/\∃(d:Nat×List Int),kD b (KR b/\XC d a/\kD h (qa qi d.2=qa qi i.2/\x6 h b c e/\(RT c e d)/\length c+1- d.1<length c+1- a.1/\True))
 def t_:=Ji ((↑a.1:Int)<(kE b)) (jyj b h c e a i) (eW b h c e i a)
 def tZ:=(∃(d:Nat×List Int),kD b ((↑d.1:Int)=0/\YT b a (kD h (qa qi d.2=qa qi a.2/\x6 h b c e/\(Xz c e d a)/\True))))/\∀(o:Nat×List Int),Xz c e o a->t_ b h c e o a
 def E0:=(x7 b h c e S)/\True/\toNat (kE h)<=F / nat_lit 1/\qgm S (χ (Κ p q ρ)) (take (toNat (kE h)*nat_lit 1) (qa qi a.2))
 def tY:=Ji ((↑a.1:Int)<=(kE b)) (tZ b h c e a) (∀(C D N:Nat),(∃i55,E0 h b c e a N C D i55)->∃(i56:Unit),χ (Κ C D ρ)=χ (Κ C D ρ)/\KR b/\N / nat_lit 1=N / nat_lit 1/\Pl (χ (Κ C D ρ))/\True/\(∀Z,E0 h b c e a N C D Z->qc qi (χ (Κ C D ρ),toNat (kE b),N / nat_lit 1) (wts c e) Z)/\True)
 def tX:=(0<=(kE b)/\(kE b)<=(kE b)/\(↑(8:Nat):Int)*(kE b)<=140737488355328/\(kE b)<140737488355328)/\(∃(d:Nat×List Int),kD b (KR b/\(↑d.1:Int)=0/\kD h (qa qi d.2=q6w [int i64 0] (toNat (kE b))/\x6 h b c e/\(RT c e d)/\True)))/\∀(o:Nat×List Int),RT c e o->tY b h c e o
end
def zbf(S:List AT) (x y:SV) (R:List Int):qk2 P (qf5 [(76,Us)]) Tryz.f36 Pa (zem) ⟨S,x,y,R⟩=(qx S/\K6 (length S) R->(∃(p:Pub),x7 x y S R p)->tX y x S R):=by kernel_rfl
def zg0:=λS x y R=>Ν (zbf S x y R) (by delta Ji Jb Jt Jf x7 kE kD KR x6 RT YT Xz XA XC eX YS Z1 YR XB RU jym RS jyo eY jyn jyl jyk jyj eW t_ tZ E0 tY tX;exact rfl)
section
variable (o:Int) (e:SV) (g:List AT) (h:SV) (G:Nat) (Q:Ck) (H:Option Addr) (J:Nat) (M:Int) (R:Option Addr) (p q:Nat) (r:Bool) (t:Ck) (u:Int) (v:Option Addr) (w z:Nat) (j:Option Addr) (l A:Nat) (i:Int) (E:Nat) (a:Nat×List GV) (c:GV) (O:AT×(Option Addr×Nat×Nat)×List Int) (I:Nat->Option Obj) (X:Prop) (m:Jd)
 abbrev z22:=True/\qd g e I/\qc qi h (qC g) I
 def RV:=(θ c).1=noA/\(θ c).2.1=0/\(θ c).2.2=0/\X
 def E3:=(ζ c).1=noA/\(ζ c).2.1=0/\(ζ c).2.2=0/\RV c (ψ c=0/\yT g o c/\(∀d,z22 e g h d->η c d)/\True)
 def jyw:=(0<=o/\o<=o/\(↑(1:Nat):Int)*o<=140737488355328/\o<140737488355328)/\∃d,size d=toNat o/\qga (q6w [int u8 0] (toNat o)) 0 (q18 d)/\∃(B:GV),τ B=0/\π B=d/\E3 M e g h B
 def XD:=e.1=e.1/\e.2.1=e.2.1/\e.2.2=e.2.2/\X
 def E1:=m.2.1.1=e.1/\m.2.1.2.1=e.2.1/\m.2.1.2.2=e.2.2/\m.2.2.1=o/\m.2.2.2.1=h.1/\m.2.2.2.2.1=h.2.1/\m.2.2.2.2.2=h.2.2/\(K3 m<G/\qx m.1/\zW m.1 m.2.2.1=ι)/\X
 def E4:=qd m.1 m.2.1 I/\qc qi m.2.2.2 (qC m.1) I
 def jyu:=length (qa Ι a.2)=length a.2*5/\(length a.2+nat_lit 1)*80<=140737488355328/\Jb ((↑a.1:Int)+1)/\∃(d:Nat×List GV),(↑d.1:Int)=(↑a.1:Int)+1/\XD e (XD h (o=o/\Q=Q/\H=H/\G=G/\J=J/\M=M/\R=R/\p=p/\q=q/\r=r/\t=t/\u=u/\v=v/\w=w/\z=z/\j=j/\l=l/\A=A/\length d.2=length a.2+nat_lit 1/\qa Ι d.2=qa Ι a.2++[int u64 (τ c),string (π c),slice (ζ c).1 (ζ c).2.1 (ζ c).2.2,slice (θ c).1 (θ c).2.1 (θ c).2.2,int i64 (ψ c)]/\(∀B,((z22 h g e B)/\Γ a.2 B)/\η c B->z22 h g e B)/\(∀D,((z22 h g e D)/\Γ a.2 D)/\η c D->Γ d.2 D)/\xr g i d.1 (ε d.2)/\length (AT.fs (qe g i))- d.1<length (AT.fs (qe g i))- a.1/\True))
 def FQ:=(0<=(↑a.1:Int)/\(↑a.1:Int)<(↑G:Int))/\H≠noA/\∃(d:Int),(∀B,(z22 e g h B)/\Γ a.2 B->q37 B (Ο (adr H (toNat (↑a.1:Int)*9)) 2) [int i64 d])/\∃(D:Jd),E1 d e h J ((∀K,(z22 e g h K)/\Γ a.2 K->E4 K D)/\∀(L:GV),yT D.1 D.2.2.1 L->(∃U,((z22 e g h U)/\Γ a.2 U)/\η L U)->jyu o h g e p Q R q M v w z r t u H G l j A E i a L) D
 def jyt:=(FQ o e g h G Q H J M R p q r t u v w z j l A i E a)/\(FQ o e g h G Q H J M R p q r t u v w z j l A i E a)/\FQ o e g h G Q H J M R p q r t u v w z j l A i E a
 def jys:=Ji ((↑a.1:Int)<(↑G:Int)) (jyt o e g h G Q H J M R p q r t u v w z j l A i E a) (∀(S i28 i29:Nat) (V:Option Addr) (i31 i32:Nat),(∃W,((z22 e g h W)/\Γ a.2 W)/\length a.2<=i32/\qgm W V (take (length a.2*nat_lit 5) (qa Ι a.2)))->∃(F:GV),τ F=0/\π F=mkS []/\(ζ F).1=V/\(ζ F).2.1=length a.2/\(ζ F).2.2=i32/\RV F (ψ F=0/\yT g i F/\(∀T,((z22 e g h T)/\Γ a.2 T)/\length a.2<=i32/\qgm T V (take (length a.2*nat_lit 5) (qa Ι a.2))->η F T)/\True))
 def jyr:=(∃(d:Nat×List GV),(↑d.1:Int)=0/\XD e (XD h (o=o/\Q=Q/\H=H/\G=G/\J=J/\M=M/\R=R/\p=p/\q=q/\r=r/\t=t/\u=u/\v=v/\w=w/\z=z/\j=j/\l=l/\A=A/\length d.2=0/\(∀B,z22 h g e B->z22 h g e B)/\(∀D,z22 h g e D->Γ d.2 D)/\xr g i d.1 (ε d.2)/\True)))/\∀(K:Nat×List GV),xr g i K.1 (ε K.2)->(∃L,(z22 h g e L)/\Γ K.2 L)->jys o h g e w Q v E M H G J r t u R p q j z l i A K
 abbrev XE:=(↑(zE O.2.2 (AT.brs O.1)):Int)
 def E2:=((z22 e g h I)/\η c I)/\q37 I (Κ G J ρ) [int u64 (τ c),string (π c),slice (ζ c).1 (ζ c).2.1 (ζ c).2.2,slice (θ c).1 (θ c).2.1 (θ c).2.2,int i64 (ψ c)]
 def Ni:=(0<=(XE O)/\(XE O)<(↑G:Int))/\H≠noA/\∃(d:Int),(∀B,z22 e g h B->q37 B (adr H (toNat (XE O)*1)) [int i64 d])/\∃(D:Jd),E1 d e h J ((∀K,z22 e g h K->E4 K D)/\∀(L:GV),yT D.1 D.2.2.1 L->(∃U,(z22 e g h U)/\η L U)->∀(Y Z i8:Nat),(∃i9,E2 e g h Y Z L i9)->∃(C:GV),τ C=0/\π C=mkS []/\(ζ C).1=χ (Κ Y (Z+nat_lit 0) ρ)/\(ζ C).2.1=nat_lit 1/\(ζ C).2.2=nat_lit 1/\RV C (ψ C=(XE O)/\yT g o C/\(∀N,E2 e g h Y Z L N->η C N)/\True)) D
 def jyv:=Ji (o=14) (∃(d:AT×(Option Addr×Nat×Nat)×List Int),AT.k d.1=o/\AT.nm d.1=Q/\(AT.al d.1).1=H/\(AT.al d.1).2.1=G/\(AT.al d.1).2.2=J/\AT.it d.1=M/\(AT.sy d.1).1=R/\(AT.sy d.1).2.1=p/\(AT.sy d.1).2.2=q/\AT.hd d.1=r/\AT.df d.1=t/\AT.sz d.1=u/\(AT.f d.1).1=v/\(AT.f d.1).2.1=w/\(AT.f d.1).2.2=z/\(AT.br d.1).1=j/\(AT.br d.1).2.1=l/\(AT.br d.1).2.2=A/\d.2.1.1=e.1/\d.2.1.2.1=e.2.1/\d.2.1.2.2=e.2.2/\(length d.2.2<1000/\length (AT.brs d.1)<=30/\∀(B:Int),B∈AT.brs d.1->0<=B/\B<(↑(length d.2.2):Int))/\(∀D,z22 h g e D->qqu d.1 D/\qc qi d.2.1 d.2.2 D)/\(Ni i h g e l j E d)/\Ni i h g e l j E d) (∃(S:GV),τ S=0/\π S=mkS []/\E3 i h g e S)
 def jyq:=Ji (o=9) (jyr o e g h G Q H J M R p q r t u v w z j l A i E) (jyv o e g h G Q H J M R p q r t u v w z j l A i E)
 def jyp:=(0<=o/\o<(↑e.2.1:Int))/\e.1≠noA/\∃(d:Int),∃B,∃D,∃(K:Nat),∃(L:Nat),∃(U:Int),∃Y,∃(Z:Nat),∃(i8:Nat),∃(i9:Bool),∃C,∃(N:Int),∃i12,∃(i13:Nat),∃(i14:Nat),∃i15,∃(i16:Nat),∃(i17:Nat),(∀i18,z22 e g h i18->q37 i18 (adr e.1 (toNat o*10)) [int i64 d,string B,slice D K L,int i64 U,slice Y Z i8,bool i9,string C,int i64 N,slice i12 i13 i14,slice i15 i16 i17])/\Ji (d=11) (jyw N e g h o) (jyq d h g e K B D L U Y Z i8 i9 C N i12 i13 i14 i15 i16 i17 o G)
end
def zfh(n:Nat) (S:List AT) (x:SV) (t:Int) (y:SV):qk3 P (qf5 [(76,Us)]) (qg7 [(37,J9.below K3 n)]) Tryz.f37 (J9.below K3 (n+1)) (zl0) ⟨S,x,t,y⟩=(K3 (S,x,t,y)<n+1/\qx S/\zW S t=ι->(∃(p:Pub),z22 x S y p)->jyp t x S y n):=by kernel_rfl
def zix:=λn S x t y=>Ν (zfh n S x t y) (by delta Ji Jb Jt Jf z22 RV E3 jyw XD E1 E4 jyu FQ jyt jys jyr XE E2 Ni jyv jyq jyp;exact rfl)
section
variable (g:Int) (h:Nat) (f:Option Addr) (d:List AT) (e:SV) (j:Nat) (m:List AT×Option Addr×Nat×Nat) (r:Option Addr) (t v:Nat) (i:XO) (a:GV×Bool) (E:Prop) (o:Nat->Option Obj) (q:(Option Addr×Nat×Nat)×Int)
 abbrev JD:=(True/\qd d e o)/\qc qi (f,h,j) (qC m.1) o
 def Nk:= !(decide (0<=q.2)&&decide (q.2<(↑q.1.2.1:Int)))
 def Nj:=(a.2=zW d g/\PV.sn (υ a.1)/\PV.wt (υ a.1)<=60000/\(a.2=ι->Φ d g (υ a.1))/\(a.2=ς\/AT.k (qe d g)=12\/AT.k (qe d g)=13->a.1=zV))
 def FR:=τ a.1=0/\π a.1=mkS []/\(ζ a.1).1=noA/\(ζ a.1).2.1=0/\(ζ a.1).2.2=0/\(θ a.1).1=noA/\(θ a.1).2.1=0/\(θ a.1).2.2=0/\ψ a.1=0/\a.2=ς/\Nj g d a/\E
 def JC:=(JD h f d e j m o)/\qc qi (r,t,v) (wts i.1 i.2.2.2) o
 def jyy:=(0<=g/\g<(↑h:Int))/\f≠noA/\∃(w:Int),(∀z,JC j r d e t m f h v i z->q37 z (adr f (toNat g*1)) [int i64 w])/\Ji (2000<w) (∃(A:GV×Bool),FR g d A ((∀B,JC j r d e t m f h v i B->η A.1 B)/\True)) (∃(c:Jd),c.2.1.1=e.1/\c.2.1.2.1=e.2.1/\c.2.1.2.2=e.2.2/\c.2.2.1=g/\c.2.2.2.1=r/\c.2.2.2.2.1=j/\c.2.2.2.2.2=t/\(qx c.1/\zW c.1 c.2.2.1=ι)/\(∀p,JC j r d e t m f h v i p->qd c.1 c.2.1 p/\qc qi c.2.2.2 (qC c.1) p)/\∀(l:GV),yT c.1 c.2.2.1 l->(∃C,(JC j r d e t m f h v i C)/\η l C)->∃(i8:GV×Bool),τ i8.1=τ l/\π i8.1=π l/\(ζ i8.1).1=(ζ l).1/\(ζ i8.1).2.1=(ζ l).2.1/\(ζ i8.1).2.2=(ζ l).2.2/\(θ i8.1).1=(θ l).1/\(θ i8.1).2.1=(θ l).2.1/\(θ i8.1).2.2=(θ l).2.2/\ψ i8.1=ψ l/\i8.2=ι/\Nj g d i8/\(∀u,(JC j r d e t m f h v i u)/\η l u->η i8.1 u)/\True)
 def jyx:=(0<=g/\g<(↑h:Int))/\f≠noA/\∃(w:Int),(∀z,JD h f d e j m z->q37 z (adr f (toNat g*1)) [int i64 w])/\Ji (w<0) (∃(A:GV×Bool),FR g d A ((∀B,JD h f d e j m B->η A.1 B)/\True)) (∃(c:XO),c.2.1.1=e.1/\c.2.1.2.1=e.2.1/\c.2.1.2.2=e.2.2/\c.2.2.1.1=f/\c.2.2.1.2.1=h/\c.2.2.1.2.2=j/\(qx c.1/\K6 (length c.1) c.2.2.2)/\(∀p,JD h f d e j m p->qd c.1 c.2.1 p/\qc qi c.2.2.1 c.2.2.2 p)/\∀(l:Unit),True->∀(C:Option Addr) (i8 u:Nat),(∃D,JC h f d e j m C i8 u c D)->jyy g i8 C d e h m f j u c)
end
def zfg(S:List AT) (x:SV) (t:Int):qk3 P (qf5 [(35,HV),(30,KX),(36,Pa)]) (qg7 [(37,J9)]) Tryz.f21 Pr (λ_=>{}) ⟨S,x,t⟩=(qx S->(∃(p:Pub),True/\qd S x p)->∃(s:List AT×Option Addr×Nat×Nat),s.2.1=x.1/\s.2.2.1=x.2.1/\s.2.2.2=x.2.2/\qx s.1/\(∀(p:Pub),True/\qd S x p->qd s.1 s.2 p)/\∀(b:Unit),True->∀(a:Option Addr) (n c:Nat),(∃(p:Pub),JD n a S x c s p)->∃(s_1:(Option Addr×Nat×Nat)×Int),s_1.1.1=x.1/\s_1.1.2.1=x.2.1/\s_1.1.2.2=x.2.2/\s_1.2=t/\True/\((Nk s_1)=ι->∃(b:GV×Bool),FR t S b ((∀(p:Pub),JD n a S x c s p->η b.1 p)/\True))/\((Nk s_1)=ς->jyx t n a S x c s)):=by kernel_rfl
def ziv:=λS x t=>Ν (zfg S x t) (by delta Ji Jt Jf JD Nk Nj FR JC jyy jyx;exact rfl)
section
variable {i:Nat}
def Yi{B:List Int} (h:i<B.length):B.getD i 0=B[i]:=by rw[Η,ν h];rfl
def z9g:q4p P 76 Us:=by
 refine qA (qcl qjq) (W:=zky) Tryz.func76 λ⟨a,(y:SV),R⟩=>(zhw a y R).mpr ?_;rintro⟨hRl,hb30,J⟩ ⟨p,_,Z,hy⟩;obtain⟨_,_,_,bl⟩:=yH Z;have yl:y.2.1=R.length:=hy.1;simp only[qB,exists_const,forall_const,γ,yl,bl];refine⟨⟨⟨0,0⟩,rfl,rfl,Θ _,Α _,λ_=>rfl,rfl⟩,?_⟩;rintro⟨i,m⟩ ⟨hi,X,V,A⟩;simp only at hi X V A⊢;refine⟨λhlt=>⟨?_,?_⟩,λhge=> ?_⟩
 ·have B:i<a.brs.length:=by omega
  have C:m<a.brs.length:=by omega
  have gi:=Yi B;have Y:=Yi C;have u:a.ok p/\qc qi y R p:=⟨Z,hy⟩;have ci:=λq (hq:a.ok q/\qc qi y R q)=>uO hq.1 B;have G:=λq (hq:a.ok q/\qc qi y R q)=>uO hq.1 C;obtain⟨j,hj,ej⟩:=vR (J _ (δ B));obtain⟨k,hk,ek⟩:=vR (J _ (δ C));rw[ej]at gi ci;rw[ek]at Y G;unfold Qj;rw[gi,Y];have T:=λq (hq:a.ok q/\qc qi y R q)=>z25 hq.2 hj;have U:=λq (hq:a.ok q/\qc qi y R q)=>z25 hq.2 hk;refine⟨⟨by omega,by omega⟩,(ci p u).1,(j:Int),λq hq=>(ci q hq).2,⟨by omega,by omega⟩,(T p u).1,qg R j,λq hq=>(T q hq).2,λO=>⟨⟨by omega,by omega⟩,(G p u).1,(k:Int),λq hq=>(G q hq).2,⟨by omega,by omega⟩,(U p u).1,qg R k,λq hq=>(U q hq).2,?_⟩,?_⟩
  ·refine⟨λH=>⟨λ_=>⟨λ_=>decide_eq_true ⟨O, .inl H⟩,λh=>absurd O h⟩,λh=>absurd H h⟩,λH=>⟨⟨by omega,by omega⟩,(ci p u).1,(j:Int),λq hq=>(ci q hq).2,⟨by omega,by omega⟩,(T p u).1,qg R j,λq hq=>(T q hq).2,⟨by omega,by omega⟩,(G p u).1,(k:Int),λq hq=>(G q hq).2,⟨by omega,by omega⟩,(U p u).1,qg R k,λq hq=>(U q hq).2,λh=>absurd h H,λ_=>⟨λ_=> ?_,λh=>absurd O h⟩⟩⟩;exact j6 ⟨λh=>h.2.resolve_left H,λh=>⟨O, .inr h⟩⟩
  ·exactλh=>⟨λg=>absurd g h,λ_=>decide_eq_false λg=>h g.1⟩
 ·have e:a.brs.length- i=(a.brs.length- (i+1))+1:=by omega
  rw[e,yR]at A;refine⟨λh=>⟨⟨by omega,by omega⟩,⟨i+1,i⟩,rfl,by show((i+1:Nat):Int)=_;omega,⟨by show i+1<=_;omega,by show i<=i+1;omega,λh=>(by have h:i=i+1:=h;omega),?_⟩,by show _- (i+1)<_;omega⟩,λh=>⟨⟨by omega,by omega⟩,⟨i+1,m⟩,rfl,by show((i+1:Nat):Int)=_;omega,⟨by show i+1<=_;omega,by show m<=i+1;omega,λh=>(by have h:m=i+1:=h;omega),?_⟩,by show _- (i+1)<_;omega⟩⟩
  ·unfold Qj at h;rw[if_pos (of_decide_eq_true h)]at A;exact A
  ·unfold Qj at h;rw[if_neg (of_decide_eq_false h)]at A;exact A
 ·rw[show a.brs.length- i=0 by omega,yR]at A;rw[A]
variable {S:List AT} {R:List Int} {k:Nat}
def zl7(h:k<=S.length) (W:List Int):k0 S R (k:Int) 0 W=wall S R (S.length+1- k) k W:=by unfold k0;rw[show S.length+1- k=(S.length- k)+1 by omega,wall,γ,Nat.sub_zero]
def zl6{k:Int} (hi:i<S.length) (h:¬qg R i=k) (W:List Int):k0 S R k i W=k0 S R k (i+1) W:=by unfold k0;rw[show S.length- i=(S.length- (i+1))+1 by omega,Q9,if_neg h]
def zl5{k:Int} (hi:i<S.length) (h:qg R i=k) (W:List Int):k0 S R k i W=k0 S R k (i+1) (wfs (wU R W i S[i]) i S[i].fs):=by
 unfold k0;have e:S.getD i zA=S[i]:=by rw[Η,ν hi];rfl
 rw[show S.length- i=(S.length- (i+1))+1 by omega,Q9,if_pos h,e,w1]
def zre(hi:S.length<=i) (W:List Int):k0 S R (k:Int) i W=wall S R (S.length+1- (k+1)) ((k+1:Nat):Int) W:=by unfold k0;rw[show S.length- i=0 by omega,Q9,γ,show S.length+1- (k+1)=S.length- k by omega];rfl
def z39{W:List Int} (u:k<W.length):∀(j:Nat) v,[qqk .i64 (qg W k)][j]? =χ v->(qa qi W)[0+k*1+j]? =χ v:=λj v h=>by
  cases j with
  |succ j=>simp at h
  | zero=>
    have e:qa qi W=W.map (qqk .i64):=by
      clear u h;induction W with
      |nil=>rfl
      |cons a W A=>show [qqk .i64 a]++qa qi W=_;rw[A];rfl
    rw[e,Ρ,qqo,qqy,qqi,ν u,←h,wX u];rfl
def zg1:q4p P 36 Pa:=by
 refine qA (qcl (qgj z9g qjq)) (W:=zem) Tryz.func36 λ⟨S,(x:SV),(y:SV),R⟩=>(zg0 S x y R).mpr ?_;rintro⟨hS,hRl,hR⟩ ⟨p,_,hx,hy⟩;have sl:x.2.1=S.length:=hx.1.1;have yl:y.2.1=S.length:=hy.1.trans hRl;have h60:=hS.1;have J:qd S x p/\qc qi y R p:=⟨hx,hy⟩;simp only[qB,exists_const,forall_const,γ,sl,yl];have WB0:WB S.length (Β S.length 0):=⟨by simp,λi hi=>by rw[wX (by simpa using hi)];simp⟩;refine⟨⟨by omega,by omega,by omega,by omega⟩,⟨⟨0,Β S.length 0⟩,rfl,(PM _).symm,Θ _,WB0,rfl⟩,?_⟩;rintro⟨k,W⟩ ⟨hk,hW,hw⟩;simp only at hk hW hw⊢;refine⟨λhle=> ?_,λhgt=> ?_⟩
 ·refine⟨⟨⟨0,W⟩,rfl,rfl,Θ _,hW,by show k0 S R (k:Int) 0 W=_;rw[zl7 (by omega)];exact hw⟩,?_⟩;rintro⟨i,V⟩ ⟨hi,hV,hv⟩;simp only at hi hV hv⊢;refine⟨λhlt=> ?_,λhge=>⟨⟨by omega,by omega⟩,⟨k+1,V⟩,by show((k+1:Nat):Int)=_;omega,rfl,⟨by show k+1<=_;omega,hV,by show wall S R _ _ V=_;rw[←zre (i:=i) (by omega)];exact hv⟩,by show _- (k+1)<_;omega⟩⟩;have A:i<S.length:=by omega
  have hat:=λq (hq:qd S x q/\qc qi y R q)=>y_ hq.1 A;have H:=λq (hq:qd S x q/\qc qi y R q)=>hq.1.2 S[i] (δ A);have C:=hS.2 S[i] (δ A);have ri:=λq (hq:qd S x q/\qc qi y R q)=>z25 hq.2 (show i<R.length by omega);obtain⟨_,_,fl,bl⟩:=yH (H p J);have hbr:=C.2.2.1;have hne:=C.2.2.2.1;have hfr:=λf (hf:f∈S[i].fs)=>(C.2.2.2.2.1 f hf).1;have hb30:=C.2.2.2.2.2.2.2.2.1;have hf30:=C.2.2.2.2.2.2.2.1;clear C;have hVl:V.length=S.length:=hV.1;have hrw:=qv z26 V;have sp1:spl (qa qi V) (0+i*1) [.int .i64 1]=qa qi (V.set i 1):=(J5 V i (by omega) 1).symm;have T:=z70 hV A (v:=1) (by omega);simp only[kB A,sp1,hrw,qv z26,qqp,Τ];refine⟨⟨by omega,by omega⟩,(ri p J).1,qg R i,λq hq=>(ri q hq).2,λhnk=>⟨⟨by omega,by omega⟩,⟨i+1,V⟩,by show((i+1:Nat):Int)=_;omega,rfl,⟨by show i+1<=_;omega,hV,by show k0 S R _ (i+1) V=_;rw[←zl6 A hnk];exact hv⟩,by show _- (i+1)<_;omega⟩,λhkk=>⟨⟨by omega,by omega⟩,by omega,⟨by omega,by omega⟩,(hat p J).1,S[i].k,S[i].nm,S[i].al.1,S[i].al.2.1,S[i].al.2.2,S[i].it,S[i].sy.1,S[i].sy.2.1,S[i].sy.2.2,S[i].hd,S[i].df,S[i].sz,S[i].f.1,S[i].f.2.1,S[i].f.2.2,S[i].br.1,S[i].br.2.1,S[i].br.2.2,λq hq=>(hat q hq).2,⟨λO=> ?_,λO=> ?_⟩,?_⟩⟩
  ·have Y:zE R S[i].brs<S[i].brs.length:=Lg (hne O);have bat:=λq (hq:qd S x q/\qc qi y R q)=>uO (H q hq) Y;have gd:=Yi Y;have bin:=hbr _ (δ Y);have Z:=zl5 A hkk V;have X:wU R V i S[i]=(V.set i 1).set i (kP (qg (V.set i 1) i) (qg (V.set i 1) (S[i].brs.getD (zE R S[i].brs) 0))):=(by unfold wU;rw[if_pos O]);rw[gd]at X;generalize S[i].brs[zE R S[i].brs]=b at*;obtain⟨t,ht,rfl⟩:=vR bin;have e1:qg (V.set i 1) i=1:=(by rw[QH (by omega),if_pos rfl]);have hl1:(V.set i 1).length=S.length:=T.1;have g1:=z39 (W:=V.set i 1) (k:=i) (by omega);have g2:=z39 (W:=V.set i 1) (k:=t) (by omega);have rt:=T.2 t ht;rw[e1]at g1 X;refine⟨⟨by omega,by omega⟩,1,g1,⟨S[i],y,R⟩,rfl,rfl,rfl,rfl,rfl,rfl,rfl,rfl,rfl,rfl,rfl,rfl,rfl,rfl,rfl,rfl,rfl,rfl,rfl,yl,rfl,⟨by show R.length<1000;omega,hb30,λb hb=>by have:=hbr b hb;show 0<=b/\b<(R.length:Int);omega⟩,λq hq=>⟨H q hq,hq.2⟩,⟨by omega,by show((zE R S[i].brs:Nat):Int)<_;omega⟩,(bat p J).1,(t:Int),λq hq=>(bat q hq).2,⟨by omega,by omega⟩,qg (V.set i 1) t,λj v h=>g2 j v h,⟨by omega,by omega⟩,⟨by omega,by omega⟩,by omega,1,g1,rfl,wU R V i S[i],?_,?_,?_⟩
   ·rw[X];exact J5 _ _ (by omega) _
   ·rw[X];exact z70 T A (Lz (by omega) rt.1)
   ·rw[←Z];exact hv
  ·have Z:=zl5 A hkk V;have X:wU R V i S[i]=V.set i 1:=(by unfold wU;rw[if_neg O]);refine⟨wU R V i S[i],by rw[X],by rw[X];exact T,by rw[←Z];exact hv⟩
  ·rintro V2 ⟨hV2,hw2⟩;refine⟨⟨⟨0,V2⟩,rfl,rfl,Θ _,hV2,hw2⟩,?_⟩;rintro⟨m,V3⟩ ⟨hm,B,G⟩;simp only at hm B G⊢;refine⟨λhlt=> ?_,λhge=>⟨⟨by omega,by omega⟩,⟨i+1,V3⟩,by show((i+1:Nat):Int)=_;omega,rfl,⟨by show i+1<=_;omega,B,?_⟩,by show _- (i+1)<_;omega⟩⟩
   ·have U:m<S[i].fs.length:=(by omega);have bat:=λq hq=>Ll (H q hq) U;have bne:=(w_ (H p J) U).1;have bin:=hfr _ (δ U);rw[Ξ U,wfs]at G;generalize S[i].fs[m]=f at*;obtain⟨t,ht,e⟩:=vR bin;rw[e]at G;have hl3:V3.length=S.length:=B.1;have g1:=z39 (W:=V3) (k:=i) (by omega);have g2:=z39 (W:=V3) (k:=t) (by omega);have r1:=B.2 i A;have r2:=B.2 t ht;refine⟨⟨by omega,by omega⟩,qg V3 i,g1,⟨by omega,by omega⟩,bne,(t:Int),λq hq=>(by have:=bat q hq;rw[e]at this;exact this),⟨by omega,by omega⟩,qg V3 t,λj v h=>g2 j v h,⟨by omega,by omega⟩,⟨by omega,by omega⟩,by omega,⟨by omega,by omega⟩,⟨m+1,V3.set i (kP (qg V3 i) (qg V3 t))⟩,by show((m+1:Nat):Int)=_;omega,J5 _ _ (by omega) _,⟨by show m+1<=_;omega,z70 B A (Lz r1.1 r2.1),G⟩,by show _- (m+1)<_;omega⟩
   ·rw[Μ (by omega),wfs]at G;exact G
 ·rw[show S.length+1- k=0 by omega,wall]at hw;rintro b s u _;have hl:W.length=S.length:=hW.1;refine⟨trivial,λq hq=>⟨by show S.length=(wts S R).length;rw[←hw,hl],hq.2.1,?_⟩⟩;have h2:=hq.2.2;rw[Ζ (by rw[qv z26,hl];exact Α _)]at h2;rw[←hw];exact h2
end
def zjs:q4p P 35 HV:=by
 refine qA (qcl (qgj zjq qjq)) (W:=zl4) Tryz.func35 λ⟨S,(x:SV)⟩=>(zjr S x).mpr ?_;rintro hS ⟨p,_,hx⟩;have sl:x.2.1=S.length:=hx.1.1;have h60:=hS.1;simp only[qB,exists_const,forall_const,γ,sl];have H:(S.map kK).length=(Β S.length (0:Int)).length:=by simp
 refine⟨⟨by omega,by omega,by omega,by omega⟩,⟨0,rfl,by rw[zdt];exact(PM _).symm,Θ _⟩,?_⟩;intro i hi;refine⟨λV=> ?_,λU=> ?_⟩
 ·have A:i<S.length:=by omega
  have B:=λq (hq:qd S x q)=>y_ hq A;have Z:∀q,qd S x q->q37 q ((adr x.1 (i*10)).add 0) [.int .i64 S[i].k]:=λq hq j v J=>by
   cases j with
   |zero=>have:=(B q hq).2 0 v J;rw[Ψ];exact this
   |succ j=>simp at J
  have ei:qg (S.map kK) i=kK S[i]:=by rw[wX (by simpa using A)];simp
  have C:(qa qi (z50 (S.map kK) (Β S.length 0) i)).length=S.length*1:=by rw[qv z26,H3 H];simp
  have two:spl (spl (qa qi (z50 (S.map kK) (Β S.length 0) i)) (0+i*1) [.int .i64 (-1)]) (0+i*1) [.int .i64 0]=spl (qa qi (z50 (S.map kK) (Β S.length 0) i)) (0+i*1) [.int .i64 0]:=by have hm:i<(z50 (S.map kK) (Β S.length 0) i).length:=(by rw[H3 H];simpa using A);rw[←J5 _ _ hm,←J5 _ _ (by rw[qqp];exact hm),←J5 _ _ hm,List.set_set]
  simp only[C,two,q7p,Τ];refine⟨⟨by omega,by omega⟩,by omega,⟨by omega,by omega⟩,(B p hx).1,S[i].k,Z,λh9=>⟨⟨by omega,by omega⟩,(B p hx).1,S[i].k,Z,λT=>⟨⟨by omega,by omega⟩,by omega,⟨by omega,by omega⟩,i+1,by omega,H4 H (by simpa using A) ?_,by omega,by omega⟩,λT=>⟨⟨by omega,by omega⟩,i+1,by omega,H4 H (by simpa using A) ?_,by omega,by omega⟩⟩,λh9=>⟨⟨by omega,by omega⟩,i+1,by omega,H4 H (by simpa using A) ?_,by omega,by omega⟩⟩
  ·rw[ei];unfold kK;rw[if_neg (by omega)]
  ·rw[ei];unfold kK;rw[if_pos (by omega)]
  ·rw[ei];unfold kK;rw[if_pos (by omega)]
 ·have ex:z50 (S.map kK) (Β S.length 0) i=zO S 0:=by rw[zj7 H (by simp;omega)];rfl
  have tk:∀k,qqn (S.length*1) (qa qi (zO S k))=qa qi (zO S k):=λk=>Ζ (by rw[qv z26,ZD];exact Α _);rw[ex,tk];rintro b s u _;refine⟨⟨⟨0,(χ ⟨b,s,ρ⟩,S.length,u / 1)⟩,rfl,rfl,rfl,rfl,λq hq=>⟨(ZD S 0).symm,hq.2.1,hq.2.2⟩,Θ _⟩,?_⟩;rintro⟨j,y⟩ J ⟨p1,hp1,G⟩;simp only at J G⊢;have Y:y.2.1=S.length:=G.1.trans (ZD S j);have X:=ZD S j;have ls:=H6 S _ X;have lm:(wT S (zO S j)).length=(zO S j).length:=by omega
  simp only[Y];refine⟨λhle=>⟨qa qi (zO S j),by rw[qv z26,ZD],λq hq=>hq.2.2.2,J8 (λx v hv=>by simp[qi]at hv;subst hv;rfl) _,by omega,⟨0,rfl,by rw[zdt];rfl,Θ _⟩,?_⟩,λhgt=> ?_⟩
  ·intro i hi;refine⟨λV=> ?_,λU=> ?_⟩
   ·have A:i<S.length:=(by omega);have ra:=P5 X A;have C:(qa qi (z50 (wT S (zO S j)) (zO S j) i)).length=S.length*1:=(by rw[qv z26,H3 lm,X]);simp only[C,Τ];refine⟨⟨by omega,by omega⟩,(z25 G (show i<(zO S j).length by omega)).1,qg (zO S j) i,λq hq=>(z25 hq.2 (show i<(zO S j).length by omega)).2,λO=>⟨⟨by omega,by omega⟩,i+1,by omega,?_,by omega,by omega⟩,λO=>⟨⟨S,x,(i:Int),y,zO S j⟩,rfl,sl,rfl,rfl,rfl,Y,rfl,⟨hS,zjw (P9 hS j) (by omega),by show 0<=(i:Int);omega,by show(i:Int)<_;omega⟩,λq hq=>⟨hq.1.1,hq.2⟩,⟨by omega,by omega⟩,by omega,⟨by omega,by omega⟩,i+1,by omega,H4 lm (by omega) ?_,by omega,by omega⟩⟩
    ·rw[if_pos O]at ra;rw[zpy lm (by omega) ra]
    ·rw[if_neg O]at ra;rw[ra];show yE _ _=yE _ (qe S (i:Int));rw[kB A]
   ·have e2:z50 (wT S (zO S j)) (zO S j) i=zO S (j+1):=(by rw[zj7 lm (by omega)];rfl);have e3:(0+S.length)*1=S.length*1:=(by omega);rw[e2,e3,tk];rintro a c _;exact⟨⟨by omega,by omega⟩,⟨j+1,(a,0+S.length,c)⟩,rfl,rfl,rfl,by show((j+1:Nat):Int)=_;omega,λq hq=>hq.1.1,λq hq=>⟨by show 0+S.length=(zO S (j+1)).length;rw[ZD,Ρ],hq.2.1,hq.2.2⟩,by show j+1<=_;omega,by show _- (j+1)<_;omega⟩
  ·obtain rfl:j=S.length+1:=(by omega);refine⟨trivial,λq hq=> ?_⟩;have:=hq.2;unfold qC;exact⟨by show S.length=_;rw[ZD],by have h:=this.2;rw[Y]at h;exact h⟩
section
variable {S:List AT}
def zj5(hS:qx S) {i:Nat} (hi:i<S.length) (h:zW S i=ι):1<=FV S i:=by obtain⟨_,u,A⟩:=uL.1 h;exact((LA hS (Ym hS)).2 i hi u).1
def zds(hS:qx S) {i:Nat} (hi:i<S.length) (h:zW S i=ι) (X:S[i].k≠9) (u:S[i].k≠11) (T:S[i].k≠14):yT S i zV:=by
 have hp:=zj5 hS hi h;have J:=hS.2 S[i] (δ hi);have O:=J.1;have C:=J.2.2.2.2.2.1;have e0:(mkS []).size=0:=rfl;refine⟨?_,?_,?_,λ_=>rfl⟩
 ·rw [Ki];by_cases G:zo S[i].k=ι
  ·refine zvk hi G ?_;unfold vi
   (repeat' split)<;>first|rfl| (exact decide_eq_true (by first|omega|rfl))|skip
   next B=>
    have:=List.length_pos_iff.2 (C B);exact decide_eq_true (by omega)
  ·by_cases H:q8 S[i].k=ι
   ·refine PZ hi H ?_ (by rw[if_neg u,j0];decide);unfold yV;split
    ·decide+kernel
    ·first|rfl|rw[if_neg u]
   ·have U:¬(S[i].k=1\/S[i].k=2\/S[i].k=3\/S[i].k=4\/S[i].k=5\/S[i].k=6\/S[i].k=10):=λh=>G (by unfold zo;exact decide_eq_true h);have V:¬(S[i].k=7\/S[i].k=8\/S[i].k=11):=λh=>H (by unfold q8;exact decide_eq_true h);rcases(by omega:S[i].k=12\/S[i].k=13)with h|h
    ·exact zda hi h λv A=>by cases A
    ·exact zdb hi h rfl rfl λv A=>by cases A
 ·rw[Ki];exact z51 (by decide) (by rw[j0];decide) (by decide) (by decide) (λk O=>by cases O) λv A=>by cases A
 ·rw[Ki,z53,Υ,qz,j0];omega
def zlk(n:Nat):(zB n).size=n:=by unfold zB mkS;show(qzh _).size=n;simp
def zyu(hS:qx S) {i:Nat} (hi:i<S.length) (h:zW S i=ι) (u:S[i].k=11):yT S i (.mk 0 (zB S[i].sz.toNat) (ρ,0,0) [] (ρ,0,0) [] 0):=by
 have hp:=zj5 hS hi h;have G:=(hS.2 S[i] (δ hi)).2.2.2.2.2.2.1 u;have ep:(GV.mk 0 (zB S[i].sz.toNat) (ρ,0,0) [] (ρ,0,0) [] 0).pv= .mk 0 (zB S[i].sz.toNat) [] [] 0:=by rw[υ,ε]
 have A:=zlk S[i].sz.toNat;refine⟨?_,?_,?_,λh=>by rw[kB hi]at h;omega⟩
 ·rw[ep];refine PZ hi (by unfold q8;exact decide_eq_true (by omega)) ?_ (by rw[if_pos u,A];omega);unfold yV;rw[if_neg (by omega),if_pos u,A];exact decide_eq_true (by omega)
 ·rw[ep];exact z51 (by decide) (by rw[A];omega) (by decide) (by decide) (λk B=>by cases B) λv C=>by cases C
 ·rw[ep,z53,Υ,qz,A];omega
def zyv(hS:qx S) {i:Nat} (hi:i<S.length) (h:zW S i=ι) (u:S[i].k=9) {fs:List GV} {x:SV} (C:xr S i S[i].fs.length (ε fs)):yT S i (.mk 0 (mkS []) x fs (ρ,0,0) [] 0):=by
 obtain⟨J,O,A,T,B⟩:=C;rw[kB hi]at O B;simp only[kB hi]at A;have hw:=(Pz hS hi u h).1;have G:=hS.2 S[i] (δ hi);have U:=G.2.2.2.2.2.2.2.1;rw[qqc]at B;have ep:(GV.mk 0 (mkS []) x fs (ρ,0,0) [] 0).pv= .mk 0 (mkS []) (ε fs) [] 0:=by rw[υ]
 refine⟨?_,?_,?_,λh=> ?_⟩
 ·rw[ep];exact zdc hi u J A
 ·rw[ep];exact z51 (by decide) (by rw[j0];decide) (by omega) (by decide) (λk H=>by cases H) T
 ·rw[ep,z53,qz,j0];show((30+0+0+Υ (ε fs):Nat):Int)<=30*qg (wts S (qC S)) i;omega
 ·rw[kB hi]at h;omega
def zyw(hS:qx S) {i:Nat} (hi:i<S.length) (h:zW S i=ι) (u:S[i].k=14) {w:GV} {x:SV} (hw:yT S (S[i].brs.getD (zE (qC S) S[i].brs) 0) w):yT S i (.mk 0 (mkS []) x [w] (ρ,0,0) [] (zE (qC S) S[i].brs:Nat)):=by
 have A:=(hS.2 S[i] (δ hi)).2.2.2.1 u;have C:=Lg (R:=qC S) A;have hu:=zj4 hS hi u h;have ep:(GV.mk 0 (mkS []) x [w] (ρ,0,0) [] (zE (qC S) S[i].brs:Nat)).pv= .mk 0 (mkS []) [w.pv] [] (zE (qC S) S[i].brs:Nat):=by rw[υ,ε,ε]
 obtain⟨w1,H,J,O⟩:=hw;refine⟨?_,?_,?_,λh=> ?_⟩
 ·rw[ep];exact zdd hi u C w1
 ·rw[ep];exact z51 (by decide) (by rw[j0];decide) (by show 1<=_;decide) (by decide) (λk G=>by cases G) λv B=>by simp at B;subst B;exact H
 ·rw[ep,z53,qz,j0,Kb];unfold FV at J⊢;omega
 ·rw[kB hi]at h;omega
def j9h{S:List AT} (hS:qx S) {i:Nat} (hi:i<S.length) (h:zW S i=ι) (u:S[i].k=14):zW S (S[i].brs.getD (zE (qC S) S[i].brs) 0)=ι/\qg (qC S) (S[i].brs.getD (zE (qC S) S[i].brs) 0)<qg (qC S) i:=by obtain⟨_,B,G⟩:=uL.1 h;obtain⟨c1,c2,A⟩:=HZ (Ym hS) hi u B;have C:=(hS.2 S[i] (δ hi)).2.2.1 _ (Um c1);have hu:=zj4 hS hi u h;exact⟨uL.2 ⟨C,c2,by omega⟩,A⟩
def Pd(l:List GV) (v:GV):ε (l++[v])=ε l++[v.pv]:=by rw[qq9,qq9];simp
def zpv(hS:qx S) {i:Nat} (hi:i<S.length) {j:Nat} {fs:List GV} (T:j<S[i].fs.length) (O:xr S i j (ε fs)) {w:GV} (hw:yT S (S[i].fs[j]).ty w):xr S i (j+1) (ε (fs++[w])):=by
 obtain⟨C,V,G,X,Y⟩:=O;obtain⟨w1,Z,w3,w4⟩:=hw;rw[Pd];unfold xr;simp only[kB hi]at V G Y⊢;refine⟨by simp[C],by omega,λk H J=> ?_,λv h=> ?_,?_⟩
 ·by_cases u:k<(ε fs).length
  ·rw[qqv u];exact G k u J
  ·obtain rfl:k=j:=(by simp at H;omega);rw[qqr (by omega)];simp only[C,qzi,qqx];exact w1
 ·rcases List.mem_append.1 h with h|h
  ·exact X v h
  ·simp at h;subst h;exact Z
 ·have hs:∀(A B:List AF),jn (wts S (qC S)) (A++B)=jn (wts S (qC S)) A+jn (wts S (qC S)) B:=λA B=>by
   induction A with
   |nil=>rw[List.nil_append,jn,Int.zero_add]
   |cons a A U=>rw[List.cons_append,jn,jn,U];omega
  rw[z21,Kb,Ε T,hs,jn,jn];unfold FV at w3;omega
end
def zwy:∀n:Nat,q6w [.int .u8 0] n=q18 (zB n)
  |0=>rfl
  | n+1=>by rw[q6w,zwy n];unfold zB mkS q18;simp[List.replicate_succ]
def zpn(n:Nat) (hl:q1p P 37 (J9.below K3 n)):q1p P 37 (J9.below K3 (n+1)):=by
 refine zh (qcl (qgj z9g qjq)) (qdd (qgi hl qjp)) (W:=zl0) Tryz.func37 λ⟨S,(x:SV),(t:Int),(y:SV)⟩=>(zix n S x t y).mpr ?_;rintro⟨Y,hS,u⟩ ⟨p,_,hx,hy⟩;have Y:(qg (qC S) t).toNat<n+1:=Y;obtain⟨ht,hr0,hw⟩:=uL.1 u;obtain⟨i,hi,rfl⟩:=vR ht;have hR:=Ym hS;have H:qd S x p/\qc qi y (qC S) p:=⟨hx,hy⟩;have sl:x.2.1=S.length:=hx.1.1;have hRl:=hR.1;have yl:y.2.1=S.length:=hy.1.trans hRl;have U:=λq (hq:qd S x q/\qc qi y (qC S) q)=>y_ hq.1 hi;have C:=λq (hq:qd S x q/\qc qi y (qC S) q)=>hq.1.2 S[i] (δ hi);have O:=hS.2 S[i] (δ hi);have h60:=hS.1;obtain⟨_,_,fl,bl⟩:=yH (C p H);have hbr:=O.2.2.1;have hne:=O.2.2.2.1;have hfr:=λf (hf:f∈S[i].fs)=>(O.2.2.2.2.1 f hf).1;have V:=O.2.2.2.2.2.2.2.2.1;have hf30:=O.2.2.2.2.2.2.2.1;have hsz:=O.2.2.2.2.2.2.1;clear O;simp only[qB,exists_const,forall_const,γ,sl,yl,kB hi];refine⟨⟨by omega,by omega⟩,(U p H).1,S[i].k,S[i].nm,S[i].al.1,S[i].al.2.1,S[i].al.2.2,S[i].it,S[i].sy.1,S[i].sy.2.1,S[i].sy.2.2,S[i].hd,S[i].df,S[i].sz,S[i].f.1,S[i].f.2.1,S[i].f.2.2,S[i].br.1,S[i].br.2.1,S[i].br.2.2,λq hq=>(U q hq).2,λG=> ?_,λG=>⟨λT=> ?_,λT=>⟨λB=> ?_,λB=> ?_⟩⟩⟩
 ·have hz:=hsz G;refine⟨⟨by omega,by omega,by omega,by omega⟩,zB S[i].sz.toNat,zlk _,λj v hj=> ?_, .mk 0 (zB S[i].sz.toNat) (ρ,0,0) [] (ρ,0,0) [] 0,rfl,rfl,rfl,rfl,rfl,rfl,rfl,rfl,rfl,zyu hS hi u G,λq hq=> ?_⟩
  ·rw[zwy,Ρ];exact hj
  ·unfold η;exact⟨qV,qV,by unfold Γ;trivial⟩
 ·have hrec:=Pz hS hi T u;have hrk:=(hR.2 i hi).2.2.1 T hr0;refine⟨⟨⟨0,[]⟩,rfl,rfl,λq hq=>GV.oks_iff.2 λv h=>(by cases h),?_⟩,?_⟩
  ·unfold xr;rw[ε];exact⟨rfl,Θ _,λk h1 h2=>absurd h1 (by simp),λv hv=>(by cases hv),by rw[Υ,List.take_zero,jn];decide⟩
  rintro⟨j,fs⟩ J ⟨p1,hp1,hfs⟩;have J:xr S i j (ε fs):=J;have l1:fs.length=j:=by rw[←ξ];exact J.1
  have l2:j<=S[i].fs.length:=by have:=J.2.1;rw[kB hi]at this;exact this
  simp only at hfs⊢;refine⟨λhlt=>⟨?xa,?xb,?xc⟩,λhge=> ?_⟩;case xa|xb|xc=>
   have A:j<S[i].fs.length:=(by omega);have bat:=λq hq=>Ll (C q hq) A;have bne:=(w_ (C p H) A).1;have bin:=hfr _ (δ A);have blt:=hrk _ (δ A);have bls:=hrec.2 _ (δ A);have hsn:=λw hw=>zpv hS hi A J (w:=w) hw;generalize S[i].fs[j]=f at*;refine⟨⟨by omega,by omega⟩,bne,f.ty,λq hq=>bat q hq.1,⟨S,x,f.ty,y⟩,rfl,sl,rfl,rfl,rfl,yl,rfl,⟨by show(qg (qC S) f.ty).toNat<n;omega,hS,bls⟩,λq hq=>hq.1,?_⟩;rintro w hw _;exact⟨qv zn fs,by omega,⟨by omega,by omega⟩,⟨j+1,fs++[w]⟩,by show((j+1:Nat):Int)=_;omega,by simp,by rw[zu];rfl,λq hq=>hq.1.1,λq hq=>uJ hq.1.2 (vQ hq.2),hsn w hw,by show _- (j+1)<_;omega⟩
  ·intro a c _;have hj:j=S[i].fs.length:=(by omega);rw[hj]at J;refine⟨.mk 0 (mkS []) (a,fs.length,c) fs (ρ,0,0) [] 0,rfl,rfl,rfl,rfl,rfl,rfl,rfl,rfl,rfl,zyv hS hi u T J,λq hq=> ?_⟩;have h2:=hq.2.2;rw[Ζ (by rw[qv zn];exact Α _)]at h2;unfold η;exact⟨⟨rfl,hq.2.1,h2⟩,qV,hq.1.2⟩
 ·have X:=Lg (R:=qC S) (hne B);obtain⟨c1,c2⟩:=j9h hS hi u B;have c3:=(uL.1 c1).2.1;have Z:=λw x hw=>zyw hS hi u B (w:=w) (x:=x) hw;have gd:=Yi X;have bat:=λq (hq:qd S x q/\qc qi y (qC S) q)=>uO (C q hq) X;rw[gd]at c1 c2 c3 Z;refine⟨⟨S[i],y,qC S⟩,rfl,rfl,rfl,rfl,rfl,rfl,rfl,rfl,rfl,rfl,rfl,rfl,rfl,rfl,rfl,rfl,rfl,rfl,rfl,yl,rfl,⟨by show(qC S).length<1000;omega,V,λb hb=>by have:=hbr b hb;show 0<=b/\b<((qC S).length:Int);omega⟩,λq hq=>⟨C q hq,hq.2⟩,⟨?xa,?xb⟩⟩;case xa|xb=>
   refine⟨⟨by omega,by show((zE (qC S) S[i].brs:Nat):Int)<_;omega⟩,(bat p H).1,S[i].brs[zE (qC S) S[i].brs],λq hq=>(bat q hq).2,⟨S,x,S[i].brs[zE (qC S) S[i].brs],y⟩,rfl,sl,rfl,rfl,rfl,yl,rfl,⟨by show(qg (qC S) _).toNat<n;omega,hS,c1⟩,λq hq=>hq,?_⟩;rintro w hw _ b s _;refine⟨.mk 0 (mkS []) (χ ⟨b,s+0,ρ⟩,1,1) [w] (ρ,0,0) [] (zE (qC S) S[i].brs:Nat),rfl,rfl,rfl,rfl,rfl,rfl,rfl,rfl,rfl,Z _ _ hw,λq hq=> ?_⟩;unfold η;exact⟨⟨rfl,Α _, .inr ⟨_,rfl,rfl,hq.2⟩⟩,qV,vQ hq.1.2⟩
 ·exact⟨zV,rfl,rfl,rfl,rfl,rfl,rfl,rfl,rfl,rfl,zds hS hi u T G B,λq hq=>jc q⟩
def z9m:∀n,q1p P 37 (J9.below K3 n)
 |0=>qqf (by decide) (by decide) (Sen.enters_of Tryz.func37 (by kernel_rfl)) λs=>rfl
 |n+1=>zpn n (z9m n)
def ziy:q1p P 37 J9:=qqj z9m
def z9l:q1p P 21 Pr:=by
 refine zh (qcl (qgj zjs (qgj Ut (qgj zg1 qjq)))) (qdd (qgi ziy qjp)) (W:=λ_=>{}) Tryz.func21 λ⟨S,(x:SV),(t:Int)⟩=>(ziv S x t).mpr ?_;rintro hS ⟨p,_,hx⟩;have sl:x.2.1=S.length:=hx.1.1;have G:=Ym hS;have H:=G.1;have V:=hS.1;simp only[qB,exists_const,forall_const,γ,sl];have no:zW S t=ς->∀(Q:(Nat->Option Obj)->Prop),∃b:GV×Bool,b.1.n=0/\b.1.s=mkS []/\b.1.x.1=noA/\b.1.x.2.1=0/\b.1.x.2.2=0/\b.1.y.1=noA/\b.1.y.2.1=0/\b.1.y.2.2=0/\b.1.b=0/\b.2=ς/\(b.2=zW S t/\b.1.pv.sn/\b.1.pv.wt<=60000/\(b.2=ι->Φ S t b.1.pv)/\(b.2=ς\/(qe S t).k=12\/(qe S t).k=13->b.1=zV))/\∀p,Q p->b.1.ok p:=λX Q=>⟨⟨zV,ς⟩,rfl,rfl,rfl,rfl,rfl,rfl,rfl,rfl,rfl,rfl,⟨X.symm,by show zV.pv.sn;rw[Ki];exact z51 (by decide) (by rw[j0];decide) (by decide) (by decide) (λk Z=>by cases Z) λv O=>(by cases O),by show zV.pv.wt<=_;rw[Ki,z53,Υ,qz,j0];decide,λh=>(by cases h),λ_=>rfl⟩,λq _=>jc q⟩;refine⟨⟨S,x⟩,rfl,sl,rfl,hS,λq hq=>hq,?_⟩;rintro a n c ⟨p1,hp1,B⟩;have hn:n=S.length:=B.1.trans H;refine⟨⟨x,t⟩,rfl,sl,rfl,rfl,λh=>no (by simp only[sl]at h;unfold zW;rw[h];rfl) _,λh=> ?_⟩;simp only[sl,φ,decide_eq_true_eq]at h;obtain⟨i,hi,rfl⟩:=vR h;have u:=(LA hS G).1;refine⟨⟨by omega,by omega⟩,(z25 B (show i<(qC S).length by omega)).1,qg (qC S) i,λq hq=>(z25 hq.2 (show i<(qC S).length by omega)).2,λT=>no ?_ _,λU=>⟨⟨S,x,(a,n,c),qC S⟩,rfl,sl,rfl,rfl,rfl,rfl,⟨hS,zjw G (by omega)⟩,λq hq=>⟨hq.1,hq.2⟩,?_⟩⟩
 ·cases J:zW S (i:Int)with
  |false=>rfl
  |true=>have:=(uL.1 J).2.1;omega
 rintro a5 n2 c1 ⟨p2,_,C⟩;have hn2:n2=S.length:=C.1.trans u.1;have hwl:=u.1;refine⟨⟨by omega,by omega⟩,(z25 C (show i<(wts S (qC S)).length by omega)).1,qg (wts S (qC S)) i,λq hq=>(z25 hq.2 (show i<(wts S (qC S)).length by omega)).2,λY=>no ?_ _,λhle=> ?_⟩
 ·cases J:zW S (i:Int)with
  |false=>rfl
  |true=>have:=(uL.1 J).2.2;omega
 have A:zW S (i:Int)=true:=uL.2 ⟨h,by omega,by omega⟩;refine⟨⟨S,x,(i:Int),(a,n,c)⟩,rfl,sl,rfl,rfl,rfl,rfl,rfl,⟨hS,A⟩,λq hq=>⟨hq.1.1,hq.1.2⟩,?_⟩;rintro v O _;obtain⟨v1,v2,v3,v4⟩:=O;refine⟨⟨v,ι⟩,rfl,rfl,rfl,rfl,rfl,rfl,rfl,rfl,rfl,rfl,⟨A.symm,v2,?_,λ_=>v1,λh=>h.elim (λh=>(by cases h)) v4⟩,λq hq=>hq.2⟩;have v3:(v.pv.wt:Int)<=30*qg (wts S (qC S)) i:=v3;show v.pv.wt<=60000;omega
def ziw:q1p P 21 zhp:=by
  obtain⟨C,a2,a3,a4⟩:=z9l;refine⟨C,a2,a3,λs=> ?_⟩;obtain⟨X,e0,r⟩:=a4 s;refine⟨X,e0,λF I w vs G H J O hp T U V=>(r F I w vs G H J O hp.1 T U V).mono λe w' h=> ?_⟩;obtain⟨⟨v,b⟩,A,u,e1,z,B,he,hr,g,hm⟩:=h;have Z:v=zV:=u.2.2.2.2 (.inr (.inl hp.2));subst Z;refine⟨b,A,u.1,e1,z,B,he,?_,g,hm⟩;have hr:VR B (.tup [zV.av, .sv (.bool b)]) z:=hr;cases hr with
  | tup h=>cases h with
    | cons A Y=>cases A with
      | agg h=>
        have:=qi6 (l:=zV.cells) h;subst this;exact .tup (.cons (.agg (.cons (.int _ _) (.cons (.str _) (.cons .nsl (.cons .nsl (.cons (.int _ _) .nil)))))) Y)
def ka(d:Int):Nat:=60000*8 ^ (6- d).toNat
abbrev xh:=List AT×SV×Int×Int×SV×List Int×Int
abbrev jd:=GV×Bool×Int
def k0c(S:List AT) (x y:SV) (L:List Int):PF:=⟨ι,λp=>qd S x p/\qc qj y L p,λ_ _ h e=>⟨yG h e.1,ji h e.2⟩⟩
def zy(S:List AT) (t d:Int) (L:List Int) (n:Int) (v:GV) (b:Bool) (n':Int):Prop:=b=zW S t/\(n<=n'/\n'<=L.length)/\v.pv.sn/\v.pv.wt<=ka d/\(b=ι->Φ S t v.pv)
def wa(κ:AT->Prop):CtR where
 σ:=xh
 args:=λ⟨S,x,t,d,y,L,n⟩=>[.ptr 1 0,kh x, .sv (.int .i64 t), .sv (.int .i64 d)]
 h:=λ⟨S,x,t,d,y,L,n⟩=>jf y n
 m:=2
 pre:=λ⟨S,x,t,d,y,L,n⟩=>qx S/\(0<=t/\t<S.length)/\κ (qe S t)/\(0<=d/\d<=6)/\0<=n/\n<=L.length/\z8 L
 mem:=λ⟨S,x,t,d,y,L,n⟩=>k0c S x y L
 β:=λ_=>jd
 post:=λ⟨S,x,t,d,y,L,n⟩ ⟨v,b,n'⟩=>zy S t d L n v b n'
 pm:=λ_ ⟨v,b,n'⟩=>vM v
 r:=λ_ ⟨v,b,n'⟩=> .tup [v.av, .sv (.bool b)]
 h':=λ⟨S,x,t,d,y,L,n⟩ ⟨v,b,n'⟩=>jf y n'
 m':=2
def yy:xh->Nat:=λ⟨S,x,t,d,y,L,n⟩=>(10- d).toNat
def K1(k:Int):Bool:=decide (k=12\/k=13)
def X1(a:AT):Prop:=a.k=12
def X3(a:AT):Prop:=a.k≠12
def uj(a:AT):Prop:=True
def fF(h:T AO) (u n:Nat):AO:=match h.get u with
 |some (.cells ty fz g [a,b,_,d,e])=> .cells ty fz g [a,b, .ssl 40 0 n 5 41,d,e]
 |_=> .cells 0 ρ ς []
def Qf(S:List AT) (a:AT) (L:List Int) (d n i h:Int) (l:List PV):Prop:=(0<=i/\i+l.length<=3)/\(n<=h/\h<=L.length)/\(∀v∈l,Φ S a.it v/\v.sn)/\Υ l<=l.length*ka (d+1)
def Zj(S:List AT) (a:AT) (L:List Int) (d n i h:Int) (v:GV):Prop:=(0<=i/\i<=3)/\(n<=h/\h<=L.length)/\(v.n=0/\v.s=mkS []/\v.b=0)/\(v.ks.length=v.l.length/\v.l.length<=3- i)/\yN v.ks=ι/\(∀w∈ε v.l,Φ S a.it w/\w.sn)/\(∀k∈v.ks,k.size<1000)/\((qz v.ks+Υ (ε v.l):Nat):Int)<=(3- i)*(ka (d+1)+12)
def Zz(S:List AT) (a:AT) (L:List Int) (d n:Int) (j:Nat) (h:Int) (l:List PV):Prop:=(l.length=j/\j<=a.fs.length)/\(n<=h/\h<=L.length)/\(∀(i:Nat) (u:i<l.length) (A:i<a.fs.length),Φ S (a.fs[i]).ty l[i])/\(∀v∈l,v.sn)/\Υ l<=l.length*ka (d+1)
def kdc(s b k:Nat) (keep:List Nat) (B:T AV) (A:T AO):Option LT:=match AE B b with
  | some u=>match A.get u with
    |some (.cells ty fz g (_::r))=>χ {σ:=Unit,t:=λ_=>[(s, .int .i64 k)],h:=λ_=>[(u, .cells ty fz g (.int .i64 k::r))],more:=0,μ:=λ_=>0,keep:=keep}
    |_=>ρ
  |none=>ρ
def LW(arr:Bool):xh->WayF:=λ⟨S,x,t,d,y,L,n⟩=>{
  pubE:=[206]
  spl:=λi=>match i with
    |24=>χ 9
    |32=>χ 10
    |43=>χ 9
    |_=>ρ
  flo:=λi=>match i with
    |24=>χ (13,[9])
    |32=>χ (14,[10])
    |_=>ρ
  cut :=λi C B=>match i with
    | 6=>match arr with
      |true=>kdc 46 12 12 [0,2,3,5,8,10,12] C B
      |false=>ρ
    | 36=>match arr with
      |true=>ρ
      |false=>xN K1 166 46 [0,3,5,8,10,12,46] C
    |_=>ρ
  ann :=λid C B=>match AE C 10 with
    | some A=>match id with
      |1=>χ {σ:=Nat×Int×List GV,pre:=λ⟨j,u,fs⟩=>Zz S (qe S t) L d n j u (ε fs),mem:=λ⟨j,u,fs⟩=>yh fs,t:=λ⟨j,u,fs⟩=>[(16, .sv (.int .i64 (j:Int)))],h:=λ⟨j,u,fs⟩=>jf y u++[(A,fF B A fs.length),(40, .row 36 0 (qa Ι fs))],more:=60,μ:=λ⟨j,u,fs⟩=>(qe S t).fs.length- j,keep:=[0,3,5,8,10,12]}
      | _=>match arr with
        |true=>χ {σ:=Int×Int×List GV,pre:=λ⟨i,u,fs⟩=>Qf S (qe S t) L d n i u (ε fs),mem:=λ⟨i,u,fs⟩=>yh fs,t:=λ⟨i,u,fs⟩=>[(19, .sv (.int .i64 i))],h:=λ⟨i,u,fs⟩=>jf y u++[(A,fF B A fs.length),(40, .row 36 0 (qa Ι fs))],more:=60,μ:=λ⟨i,u,fs⟩=>i.toNat,keep:=[0,3,5,8,10,12]}
        |false=>χ {σ:=Int×Int×GV,pre:=λ⟨i,u,v⟩=>Zj S (qe S t) L d n i u v,mem:=λ⟨i,u,v⟩=>vM v,t:=λ⟨i,u,v⟩=>[(19, .sv (.int .i64 i))],h:=λ⟨i,u,v⟩=>jf y u++[(A,Vc v)],more:=0,μ:=λ⟨i,u,v⟩=>i.toNat,keep:=[0,3,5,8,10,12]}
    |none=>ρ}
def zy8(l:List GV):qqn (l.length*5) (qa Ι l)=qa Ι l:=Ζ (by rw[qv zn];exact Α _)
section
theorem CR{s:Ck} (h:s.size=0):s=mkS []:=by obtain⟨⟨l⟩⟩:=s;have:l=[]:=List.length_eq_zero_iff.1 h;subst this;rfl
theorem Yb{S:List AT} {i:Nat} (hi:i<S.length) {v:GV} (h:qq1 S i v.pv=ι):(zo S[i].k=ι->v.s=mkS []/\v.l=[]/\v.ks=[]/\v.b=0)/\(q8 S[i].k=ι->v.n=0/\v.l=[]/\v.ks=[]/\v.b=0)/\(qp S[i].k=ι->v.n=0/\v.s=mkS []/\(S[i].k≠13->v.ks=[])/\(S[i].k≠14->v.b=0)):=by
 rw[qqb,qq1,if_neg (by omega)]at h;simp only[γ,ν hi,ξ]at h;refine⟨λu=> ?_,λu=> ?_,λu=> ?_⟩
 ·rw[if_pos u]at h;unfold Z8 at h;simp only[φ,decide_eq_true_eq]at h;obtain⟨⟨_,A⟩,⟨B,C⟩,G⟩:=h;exact⟨CR A,List.length_eq_zero_iff.1 B,List.length_eq_zero_iff.1 C,G⟩
 ·have H:¬zo S[i].k=true:=λg=>by unfold q8 at u;unfold zo at g;have:=of_decide_eq_true u;have:=of_decide_eq_true g;omega
  rw[if_neg H,if_pos u]at h;unfold Z8 at h;simp only[φ,decide_eq_true_eq]at h;obtain⟨⟨_,A⟩,⟨B,C⟩,G⟩:=h;exact⟨A,List.length_eq_zero_iff.1 B,List.length_eq_zero_iff.1 C,G⟩
 ·have H:¬zo S[i].k=true:=λg=>by unfold qp at u;unfold zo at g;have:=of_decide_eq_true u;have:=of_decide_eq_true g;omega
  have J:¬q8 S[i].k=true:=λg=>by unfold qp at u;unfold q8 at g;have:=of_decide_eq_true u;have:=of_decide_eq_true g;omega
  rw[if_neg H,if_neg J,if_pos u]at h;simp only[φ,decide_eq_true_eq]at h;obtain⟨⟨⟨A,_⟩,B⟩,C⟩:=h;have O:¬(v.ks.length>0/\S[i].k≠13\/v.b≠0/\S[i].k≠14):=λg=>by unfold vj at A;rw[if_pos g]at A;cases A
  exact⟨B,CR C,λu=>List.length_eq_zero_iff.1 (by omega),λu=>by omega⟩
theorem QJ(d:Int):60000<=ka d:=by unfold ka;exact Nat.le_mul_of_pos_right _ (Nat.pow_pos (by decide))
theorem HA{d:Int} (h:d<=5):ka d=8*ka (d+1):=by unfold ka;rw[show(6- d).toNat=(6- (d+1)).toNat+1 by omega,Nat.pow_succ];omega
structure AvH(S:List AT) (i:Nat) (hi:i<S.length) (v:GV) (d:Int):Prop where
 hS:qx S
 ls:zW S i=ι
 ft:Φ S i v.pv
 sn:v.pv.sn
 wt:v.pv.wt<=60000
 nl:S[i].k=12\/S[i].k=13->v.l=[]
 d5:d<=5
section
variable {S:List AT} {i:Nat} {hi:i<S.length} {v:GV} {d:Int} {L:List Int} {n n':Int}
theorem zv7(h:AvH S i hi v d) (u:n<=n'/\n'<=L.length):zy S i d L n v ι n':=⟨h.ls.symm,u,h.sn,qqz h.wt (QJ d),λ_=>h.ft⟩
theorem Vb(h:AvH S i hi v d) (C:n<=n'/\n'<=L.length) {N:Int} (u:zo S[i].k=ι) (B:0<=N/\N<18446744073709551616) (G:vi S[i] N=ι):zy S i d L n (.mk N v.s v.x v.l v.y v.ks v.b) ι n':=by
 obtain⟨e1,e2,e3,A⟩:=(Yb hi h.ft.1).1 u;have ep:(GV.mk N v.s v.x v.l v.y v.ks v.b).pv= .mk N (mkS []) [] [] 0:=by rw[υ,e1,e2,e3,A,ε]
 unfold zy;rw[ep,z53,Υ,qz,j0];have:=QJ d;exact⟨h.ls.symm,C,z51 B (by rw[j0];decide) (by decide) (by decide) (λk u=>by cases u) (λv H=>by cases H),by omega,λ_=>zvk hi u G⟩
theorem Cn(h:AvH S i hi v d) (B:n<=n'/\n'<=L.length) {s:Ck} (u:q8 S[i].k=ι) (hs:s.size<=1000) (C:yV S[i] s=ι):zy S i d L n (.mk v.n s v.x v.l v.y v.ks v.b) ι n':=by
 obtain⟨e1,e2,e3,A⟩:=(Yb hi h.ft.1).2.1 u;have ep:(GV.mk v.n s v.x v.l v.y v.ks v.b).pv= .mk 0 s [] [] 0:=by rw[υ,e1,e2,e3,A,ε]
 unfold zy;rw[ep,z53,Υ,qz];have:=QJ d;exact⟨h.ls.symm,B,z51 (by decide) (by omega) (by decide) (by decide) (λk u=>by cases u) (λv G=>by cases G),by omega,λ_=>PZ hi u C (by split<;>omega)⟩
theorem Uy{k:Int} (h:k=9\/k=12\/k=13\/k=14):qp k=true:=by unfold qp;exact decide_eq_true h
theorem jj1(h:AvH S i hi v d) {b:Nat} (A:S[i].k=14) (B:b<S[i].brs.length) {w:GV} {x:SV} {m:Int} (hm:n<=m) (hw:zy S (S[i].brs[b]) (d+1) L m w ι n'):zy S i d L n (.mk v.n v.s x [w] v.y v.ks (b:Int)) ι n':=by
 obtain⟨e1,e2,e3,J⟩:=(Yb hi h.ft.1).2.2 (Uy (by omega));have e3:=e3 (by omega);obtain⟨w1,C,G,O,H⟩:=hw;have ep:(GV.mk v.n v.s x [w] v.y v.ks (b:Int)).pv= .mk 0 (mkS []) [w.pv] [] b:=by rw[υ,e1,e2,e3,ε,ε]
 have hd:=HA h.d5;have:=QJ (d+1);unfold zy;rw[ep,z53,qz,j0,Kb];exact⟨h.ls.symm,⟨by omega,C.2⟩,z51 (by decide) (by rw[j0];decide) (by show 1<=1000;decide) (by decide) (λk A=>by cases A) (λu hu=>by simp at hu;subst hu;exact G),by omega,λ_=>zdd hi A B (by rw[Yi B];exact H rfl)⟩
theorem jj0(h:AvH S i hi v d) (A:S[i].k=9) {fs:List GV} {x:SV} {j:Nat} (O:S[i].fs.length<=j) (B:Zz S S[i] L d n j n' (ε fs)):zy S i d L n (.mk v.n v.s x fs v.y v.ks v.b) ι n':=by
 obtain⟨e1,e2,e3,u⟩:=(Yb hi h.ft.1).2.2 (Uy (by omega));have e3:=e3 (by omega);have u:=u (by omega);obtain⟨⟨T,U⟩,C,G,H,V⟩:=B;have J:=(h.hS.2 S[i] (δ hi)).2.2.2.2.2.2.2.1;have ep:(GV.mk v.n v.s x fs v.y v.ks v.b).pv= .mk 0 (mkS []) (ε fs) [] 0:=by rw[υ,e1,e2,e3,u]
 have hd:=HA h.d5;have:=QJ (d+1);have hm:(ε fs).length*ka (d+1)<=7*ka (d+1):=qq4 _ (by omega);unfold zy;rw[ep,z53,qz,j0];exact⟨h.ls.symm,C,z51 (by decide) (by rw[j0];decide) (by omega) (by decide) (λk A=>by cases A) H,by omega,λ_=>zdc hi A (by omega) G⟩
theorem Cx(h:AvH S i hi v d) (B:S[i].k=12) {fs:List GV} {x:SV} {m:Int} (G:Qf S S[i] L d n m n' (ε fs)):zy S i d L n (.mk v.n v.s x fs v.y v.ks v.b) ι n':=by
 obtain⟨e1,e2,e3,A⟩:=(Yb hi h.ft.1).2.2 (Uy (by omega));have e3:=e3 (by omega);have A:=A (by omega);obtain⟨⟨J,O⟩,H,C,T⟩:=G;have ep:(GV.mk v.n v.s x fs v.y v.ks v.b).pv= .mk 0 (mkS []) (ε fs) [] 0:=by rw[υ,e1,e2,e3,A]
 have hd:=HA h.d5;have:=QJ (d+1);have hm:(ε fs).length*ka (d+1)<=3*ka (d+1):=qq4 _ (by omega);unfold zy;rw[ep,z53,qz,j0];exact⟨h.ls.symm,H,z51 (by decide) (by rw[j0];decide) (by omega) (by decide) (λk B=>by cases B) (λu hu=>(C u hu).2),by omega,λ_=>zda hi B λu hu=>(C u hu).1⟩
theorem Cy(h:AvH S i hi v d) (A:S[i].k=13) {u:GV} {m:Int} (G:Zj S S[i] L d n m n' u):zy S i d L n u ι n':=by
 obtain⟨⟨U,V⟩,H,⟨e1,e2,C⟩,⟨X,Y⟩,J,B,O,Z⟩:=G;have ep:u.pv= .mk 0 (mkS []) (ε u.l) u.ks 0:=by rw[qqb,e1,e2,C]
 have hd:=HA h.d5;have:=QJ (d+1);have hm:(3- m)*((ka (d+1):Int)+12)<=3*((ka (d+1):Int)+12):=Int.mul_le_mul_of_nonneg_right (by omega) (by omega);have T:=ξ u.l;unfold zy;rw[ep,z53,j0];exact⟨h.ls.symm,H,z51 (by decide) (by rw[j0];decide) (by omega) (by omega) (λk A=>by have:=O k A;omega) (λu hu=>(B u hu).2),by omega,λ_=>zdb hi A (by omega) J λu hu=>(B u hu).1⟩
variable {a:AT} {fs:List GV}
theorem zqf{j:Nat} {B n2:Int} (Y:j<a.fs.length) (H:Zz S a L d n j B (ε fs)) {w:GV} {b:Bool} (J:zW S (a.fs[j]).ty=ι) (hw:zy S (a.fs[j]).ty (d+1) L B w b n2):Zz S a L d n (j+1) n2 (ε (fs++[w])):=by
 obtain⟨⟨A,Z⟩,l3,O,T,l6⟩:=H;obtain⟨w1,U,V,w4,X⟩:=hw;rw[Pd];refine⟨⟨by simp[A],by omega⟩,⟨by omega,U.2⟩,λk C G=> ?_,λu hu=> ?_,?_⟩
 ·by_cases h:k<(ε fs).length
  ·rw[qqv h];exact O k h G
  ·obtain rfl:k=j:=(by simp at C;omega);rw[qqr (by omega)];simp only[A,qzi,qqx];exact X (w1.trans J)
 ·rcases List.mem_append.1 hu with hu|hu
  ·exact T u hu
  ·simp at hu;subst hu;exact V
 ·rw[z21,Kb,qqa,Nat.add_mul];show _<=_+1*_;omega
theorem zo3{m h n2:Int} (hm:0<m) (A:Qf S a L d n m h (ε fs)) {w:GV} (hw:zy S a.it (d+1) L h w ι n2):Qf S a L d n (m- 1) n2 (ε (fs++[w])):=by
 obtain⟨⟨J,O⟩,T,B,U⟩:=A;obtain⟨w1,C,G,V,H⟩:=hw;rw[Pd];refine⟨⟨by omega,by rw[qqa,Τ];omega⟩,⟨by omega,C.2⟩,λu hu=> ?_,?_⟩
 ·rcases List.mem_append.1 hu with hu|hu
  ·exact B u hu
  ·simp at hu;subst hu;exact⟨H rfl,G⟩
 ·rw[z21,Kb,qqa,Nat.add_mul];show _<=_+1*_;omega
theorem zyx{m O n2 H:Int} {u z:GV} (hm:0<m) (U:Zj S a L d n m O u) {w:GV} {k:Ck} (V:qP k=ι) (X:k.size=2) (hw:zy S a.it (d+1) L O w ι n2) (C:n2<=H/\H<=L.length) (J:z.pv= .mk u.n u.s (zC k u.ks (ε u.l) w.pv) (qO k u.ks) u.b):Zj S a L d n (m- 1) H z:=by
 obtain⟨⟨l1,l2⟩,l3,⟨e1,e2,T⟩,⟨Y,l5⟩,Z,l7,l8,l9⟩:=U;obtain⟨w1,w2,w3,w4,w5⟩:=hw;rw[qqb]at J;injection J with z1 z2 z3 z4 z5
 have A:=PG k u.ks (ε u.l) w.pv (by rw[ξ];exact Y);rw[←z3,←z4,ξ,ξ]at A;have B:=zzg (k:=k) (ks:=u.ks);have G:=zzk (k:=k) (ks:=u.ks) (l:=ε u.l) (w:=w.pv);rw[←z3]at G;rw[←z4]at B;have hmul:(3- (m- 1))*((ka (d+1):Int)+12)=(3- m)*((ka (d+1):Int)+12)+((ka (d+1):Int)+12):=by rw[show 3- (m- 1)=(3- m)+1 by omega,Int.add_mul,Int.one_mul]
 refine⟨⟨by omega,by omega⟩,⟨by omega,C.2⟩,⟨z1.trans e1,z2.trans e2,z5.trans T⟩,⟨A.1,by omega⟩,by rw[z4];exact zdk V Z,λy h=> ?_,λy h=> ?_,by rw[hmul];omega⟩
 ·rw[z3]at h;rcases zdz h with rfl|h
  ·exact⟨w5 rfl,w3⟩
  ·exact l7 y h
 ·rw[z4]at h;rcases z82 h with rfl|h
  ·omega
  ·exact l8 y h
end
theorem Lo(M:List Int) {r:Nat} (h:r<M.length):∀(j:Nat) v,[qqk .u64 (M.getD r 0)][j]? =χ v->(M.map (qqk .u64))[0+r*1+j]? =χ v:=λj v u=>by
  cases j with
  |succ j=>simp at u
  | zero=>
    rw[Ρ,qqo,qqy,qqi,ν h,←u,Yi h];rfl
theorem Lp{M:List Int} {p:Int->Prop} (hp:∀x∈M,p x) {r:Nat} (h:r<M.length):p (M.getD r 0):=hp _ (Um h)
theorem zvt(M:List Ck) {r:Nat} (h:r<M.length):∀(j:Nat) v,[qzf (M.getD r (mkS []))][j]? =χ v->(M.map qzf)[0+r*1+j]? =χ v:=λj v u=>by
  cases j with
  |succ j=>simp at u
  | zero=>
    rw[Ρ,qqo,qqy,qqi,ν h,←u,Η,ν h];rfl
theorem zvs{M:List Ck} {p:Ck->Prop} (hp:∀x∈M,p x) {r:Nat} (h:r<M.length):p (M.getD r (mkS [])):=hp _ (by rw[Η,ν h];exact δ h)
theorem ZC{q:Pub} {v:GV} (h:v.ok q) (N:Int) (s:Ck) (b:Int):(GV.mk N s v.x v.l v.y v.ks b).ok q:=by rw[qqd]at h;unfold η;exact h
end
section
variable (F:Bool) (d:SV) (i:Int) (f:List AT) (l k:Int) (g:List Int) (e:SV) (X:Nat) (h:Int×Int×List GV) (I:Int) (J:Ck) (r:Option Addr) (K L:Nat) (M:Option Addr) (N O:Nat) (Q:Ck) (x19:Int) (R:Option Addr) (S T:Nat) (U:Option Addr) (V x25:Nat) (c:jd) (E:xh) (x28:Prop) (x29:Nat->Option Obj) (x30:List Int)
 abbrev kn:=(True/\qd f d x29/\qc qj e g x29)/\η zV x29
 def E7:=(θ c.1).1=noA/\(θ c.1).2.1=0/\(θ c.1).2.2=0/\ψ c.1=0/\x28
 def Qc:=d.1=d.1/\d.2.1=d.2.1/\d.2.2=d.2.2/\x28
 def FS:=∃(a:jd),τ a.1=0/\π a.1=mkS []/\(ζ a.1).1=noA/\(ζ a.1).2.1=0/\(ζ a.1).2.2=0/\E7 a (a.2.1=F/\Qc d (a.2.2=i/\zy f l k g i a.1 a.2.1 a.2.2/\(∀o,kn e f g d o->η a.1 o)/\True))
 def E8:=(∀a,kn d f g e a->qc qj (e.1,e.2.1,e.2.2) x30 a)
 def XF:=length h.2.2<=X/\qgm x29 r (take (length h.2.2*nat_lit 5) (qa Ι h.2.2))
 def E5:=τ c.1=0/\π c.1=mkS []/\(ζ c.1).1=r/\(ζ c.1).2.1=length h.2.2/\(ζ c.1).2.2=X/\E7 c (c.2.1=ι/\x28)
 def E6:=d.1=E.2.2.2.2.1.1/\d.2.1=E.2.2.2.2.1.2.1/\d.2.2=E.2.2.2.2.1.2.2/\x28
 def jz5:=length (qa Ι h.2.2)=length h.2.2*5/\(length h.2.2+nat_lit 1)*80<=140737488355328/\Jb (h.1- 1)/\∃(a:Int×Int×List GV),i=i/\a.1=h.1- 1/\E6 d E (a.2.1=c.2.2/\length a.2.2=length h.2.2+nat_lit 1/\Qc e (J=J/\r=r/\X=X/\K=K/\l=l/\M=M/\L=L/\N=N/\F=F/\Q=Q/\k=k/\R=R/\O=O/\S=S/\U=U/\T=T/\V=V/\qa Ι a.2.2=qa Ι h.2.2++[int u64 (τ c.1),string (π c.1),slice (ζ c.1).1 (ζ c.1).2.1 (ζ c.1).2.2,slice (θ c.1).1 (θ c.1).2.1 (θ c.1).2.2,int i64 (ψ c.1)]/\(∀o,((kn e f g d o)/\Γ h.2.2 o)/\η c.1 o->kn e f g d o)/\(∀m,((kn e f g d m)/\Γ h.2.2 m)/\η c.1 m->Γ a.2.2 m)/\Qf f (qe f I) g i x19 a.1 a.2.1 (ε a.2.2)/\toNat a.1<toNat h.1/\True))
 def jz4:=((!c.2.1)=ι->∀(a o m:Nat) (t:Option Addr) (i4 W:Nat),(∃H,(((kn d f g e H)/\Γ h.2.2 H)/\η c.1 H)/\XF W h t H)->∃(D:jd),E5 W h t D (E6 e E (D.2.2=c.2.2/\zy f i l g k D.1 D.2.1 D.2.2/\(∀i8,(((kn d f g e i8)/\Γ h.2.2 i8)/\η c.1 i8)/\XF W h t i8->η D.1 i8)/\True)))/\((!c.2.1)=ς->jz5 F e l f I x19 g d X h i J r K L M N O Q k R S T U V c E)
 def jz3:=Jb (i+1)/\∃(a:xh),a.2.1.1=d.1/\a.2.1.2.1=d.2.1/\a.2.1.2.2=d.2.2/\a.2.2.1=l/\a.2.2.2.1=i+1/\a.2.2.2.2.1.1=e.1/\a.2.2.2.2.1.2.1=e.2.1/\a.2.2.2.2.1.2.2=e.2.2/\a.2.2.2.2.2.2=h.2.1/\(yy a<X/\qx a.1/\(0<=a.2.2.1/\a.2.2.1<(↑(length a.1):Int))/\uj (qe a.1 a.2.2.1)/\(0<=a.2.2.2.1/\a.2.2.2.1<=6)/\0<=a.2.2.2.2.2.2/\a.2.2.2.2.2.2<=(↑(length a.2.2.2.2.2.1):Int)/\z8 a.2.2.2.2.2.1)/\(∀o,(kn d f g e o)/\Γ h.2.2 o->qd a.1 a.2.1 o/\qc qj a.2.2.2.2.1 a.2.2.2.2.2.1 o)/\∀(m:jd),zy a.1 a.2.2.1 a.2.2.2.1 a.2.2.2.2.2.1 a.2.2.2.2.2.2 m.1 m.2.1 m.2.2->(∃t,((kn d f g e t)/\Γ h.2.2 t)/\η m.1 t)->jz4 F d k f i I g e K h l J r L N M O S Q x19 R T V U x25 m a
 def jz2:=Ji (0<h.1) (jz3 F d i f l k g e X h I J r K L M N O Q x19 R S T U V x25) (∀(i16 q i18:Nat) (Y:Option Addr) (i20 Z:Nat),(∃p,((kn d f g e p)/\Γ h.2.2 p)/\XF Z h Y p)->∃(C:jd),E5 Z h Y C (Qc e (C.2.2=h.2.1/\zy f k i g I C.1 C.2.1 C.2.2/\(∀j,((kn d f g e j)/\Γ h.2.2 j)/\XF Z h Y j->η C.1 j)/\True)))
 def jz1:=(0<=i/\i<(↑d.2.1:Int))/\d.1≠noA/\∃(a:Int),∃o,∃m,∃(t:Nat),∃(i4:Nat),∃(W:Int),∃H,∃(D:Nat),∃(i8:Nat),∃(i9:Bool),∃u,∃(v:Int),∃w,∃(z:Nat),∃(A:Nat),∃B,∃(i16:Nat),∃(q:Nat),(∀i18,kn d f g e i18->q37 i18 (adr d.1 (toNat i*10)) [int i64 a,string o,slice m t i4,int i64 W,slice H D i8,bool i9,string u,int i64 v,slice w z A,slice B i16 q])/\(∃(Y:Unit),l=l/\i=i/\(↑(12:Nat):Int)=a/\Qc e (k=k/\Qc d ((↑(12:Nat):Int)=a/\o=o/\m=m/\t=t/\i4=i4/\W=W/\H=H/\D=D/\i8=i8/\i9=i9/\u=u/\v=v/\w=w/\z=z/\A=A/\B=B/\i16=i16/\q=q/\(∀i20,kn d f g e i20->kn d f g e i20)/\True/\True)))/\∀(Z:Unit),True->∃(p:List Int),(4:Int)=4/\Qc e (k=k/\(0<=k/\k<=(↑(length p):Int)/\(0:Int)<4/\(4:Int)<1000000/\z8 p)/\E8 d f g e p/\(∃(j:Int×Int×List GV),l=l/\j.1=qo p k 4/\Qc e (j.2.1=qh p k/\length j.2.2=0/\Qc d (o=o/\m=m/\t=t/\i4=i4/\W=W/\H=H/\D=D/\i8=i8/\i9=i9/\u=u/\v=v/\w=w/\z=z/\A=A/\B=B/\i16=i16/\q=q/\(∀i25,kn d f g e i25->kn d f g e i25)/\(∀i26,kn d f g e i26->Γ j.2.2 i26)/\Qf f (qe f i) g l k j.1 j.2.1 (ε j.2.2)/\True)))/\∀(G:Int×Int×List GV),Qf f (qe f i) g l k G.1 G.2.1 (ε G.2.2)->(∃i28,(kn d f g e i28)/\Γ G.2.2 i28)->jz2 i9 d l f W i g e X G k o m t i4 H D i8 u v w z A B i16 q)
 def jz0:=Ji (5<i) (FS F d l f k i g e) (∃(m:List Int),Qc d (l=l/\True/\E8 e f g d m/\Ji ((↑(length m):Int)<=l) (FS F d l f k i g e) (jz1 e k f i l g d X)))
 def jyz:=((!F)=ι->FS F d i f l k g e)/\((!F)=ς->jz0 F d k f i l g e X)
end
def zha(c:Nat) (S:List AT) (x:SV) (t d:Int) (y:SV) (L:List Int) (n:Int):qk3 P (qf5 [(23,Q4),(22,UE)]) (qg7 [(10,(wa uj).below yy c),(21,zhp),(24,Q5)]) Tryz.f10 ((wa X1).below yy (c+1)) (LW ι) ⟨S,x,t,d,y,L,n⟩=(yy (S,x,t,d,y,L,n)<c+1/\qx S/\(0<=t/\t<(↑(length S):Int))/\X1 (qe S t)/\(0<=d/\d<=6)/\0<=n/\n<=(↑(length L):Int)/\z8 L->(∃(p:Pub),True/\qd S x p/\qc qj y L p)->∃(s:List AT×(Option Addr×Nat×Nat)×Int),s.2.1.1=x.1/\s.2.1.2.1=x.2.1/\s.2.1.2.2=x.2.2/\s.2.2=t/\(qx s.1/\AT.k (qe s.1 s.2.2)=12)/\(∀(p:Pub),True/\qd S x p/\qc qj y L p->qd s.1 s.2.1 p)/\∀(b:Bool),b=zW s.1 s.2.2->(∃(p:Pub),kn x S L y p)->jyz b y n S t d L x c):=by kernel_rfl
def zo6:=λc S x t d y L n=>Ν (zha c S x t d y L n) (by delta Ji Jb Jt Jf kn E7 Qc FS E8 XF E5 E6 jz5 jz4 jz3 jz2 jz1 jz0 jyz;exact rfl)
section
variable (c:GV×Bool) (e:SV) (j:Int) (f:List AT) (k J:Int) (i:List Int) (h:SV) (L:Nat) (M:Int) (q:Nat) (p:Option Addr) (u:Nat) (v:Ck) (w:Option Addr) (z A:Nat) (B:Int) (C:Option Addr) (D:Nat) (E:Bool) (F:Ck) (K:Int) (G:Option Addr) (H I N:Nat) (a:jd) (S:List Int) (m:xh) (g:Int×Int×GV) (t:Nat×Int×List GV) (T:Prop) (W:Nat->Option Obj) (x34 x35 x36 x37 x38:Int) (V:GV)
 abbrev zQ:=(True/\qd f e W/\qc qj h i W)/\η c.1 W
 def YV:=τ a.1=τ c.1/\π a.1=π c.1/\T
 def R1:=(θ a.1).1=(θ c.1).1/\(θ a.1).2.1=(θ c.1).2.1/\(θ a.1).2.2=(θ c.1).2.2/\T
 def XG:=(ζ a.1).1=(ζ c.1).1/\(ζ a.1).2.1=(ζ c.1).2.1/\(ζ a.1).2.2=(ζ c.1).2.2/\R1 c a (ψ a.1=ψ c.1/\T)
 def jz:=e.1=e.1/\e.2.1=e.2.1/\e.2.2=e.2.2/\T
 abbrev Q3:=zy f j k i J a.1 a.2.1 a.2.2
 def RZ:=∃(d:jd),YV c d (XG c d (d.2.1=c.2/\jz e (d.2.2=j/\Q3 k f J j i d/\(∀O,zQ c h f i e O->η d.1 O)/\True)))
 def XJ:=(∀d,zQ c e f i h d->qc qj (h.1,h.2.1,h.2.2) S d)
 def KU:=j=j/\(0<=j/\j<=(↑(length i):Int)/\0<k/\k<1000000/\z8 i)/\XJ c e f S h i/\T
 def KT:=XG c a (a.2.1=ι/\jz e (a.2.2=qh i j/\Q3 k f J j S a/\(∀d,zQ c h f S e d->η a.1 d)/\True))
 abbrev XK:=nat_lit 0+toNat (qo i j k)*1
 def RW:=(Jt (j=B)->∃(d:List Int),(7:Int)=7/\jz e (KU c h k f 7 d e i ((0<=qo d k 7/\qo d k (7:Int)<(↑(nat_lit 7):Int))/\∃(O:Int),qga [int u64 0,int u64 K,int u64 x34,int u64 x35,int u64 x36,int u64 x37,int u64 x38] (XK k 7 d) [int u64 O]/\∃(o:jd),τ o.1=O/\π o.1=π c.1/\KT c e k f J M d h o i)))
 def Ah:=j=j/\(0<=j/\j<=(↑(length i):Int)/\0<(↑L:Int)/\(↑L:Int)<1000000/\z8 i)/\T
 abbrev R3:=Jb (j+1)
 def RY:=m.2.1.1=e.1/\m.2.1.2.1=e.2.1/\m.2.1.2.2=e.2.2/\m.2.2.1=j/\m.2.2.2.1=k+1/\m.2.2.2.2.1.1=h.1/\m.2.2.2.2.1.2.1=h.2.1/\m.2.2.2.2.1.2.2=h.2.2/\T
 def RX:=(yy m<L/\qx m.1/\(0<=m.2.2.1/\m.2.2.1<(↑(length m.1):Int))/\uj (qe m.1 m.2.2.1)/\(0<=m.2.2.2.1/\m.2.2.2.1<=6)/\0<=m.2.2.2.2.2.2/\m.2.2.2.2.2.2<=(↑(length m.2.2.2.2.2.1):Int)/\z8 m.2.2.2.2.2.1)
 def R2:=qd m.1 m.2.1 W/\qc qj m.2.2.2.2.1 m.2.2.2.2.2.1 W
 abbrev Af:=slice (ζ a.1).1 (ζ a.1).2.1 (ζ a.1).2.2
 abbrev Ag:=slice (θ a.1).1 (θ a.1).2.1 (θ a.1).2.2
 def E_:=AV.agg [AV.sv (int u64 (τ a.1)),AV.sv (string (π a.1)),AV.sv (Af a),AV.sv (Ag a),AV.sv (int i64 (ψ a.1))]=AV.agg [AV.sv (int u64 (τ a.1)),AV.sv (string (π a.1)),AV.sv (Af a),AV.sv (Ag a),AV.sv (int i64 (ψ a.1))]
 abbrev Ab:=q37 W (Κ L q ρ) [int u64 (τ a.1),string (π a.1),slice (ζ a.1).1 (ζ a.1).2.1 (ζ a.1).2.2,slice (θ a.1).1 (θ a.1).2.1 (θ a.1).2.2,int i64 (ψ a.1)]
 def YU:=e.1=m.2.2.2.2.1.1/\e.2.1=m.2.2.2.2.1.2.1/\e.2.2=m.2.2.2.2.1.2.2/\T
 def fq:=E_ a/\∀(d O o:Nat),(∃r,((zQ c e f i h r)/\η a.1 r)/\Ab d O a r)->∃(Q:jd),YV c Q ((ζ Q.1).1=χ (Κ d (O+nat_lit 0) ρ)/\(ζ Q.1).2.1=nat_lit 1/\(ζ Q.1).2.2=nat_lit 1/\R1 c Q (ψ Q.1=qo S j (↑L:Int)/\Q.2.1=ι/\YU h m (Q.2.2=a.2.2/\Q3 k f J j i Q/\(∀U,((zQ c e f i h U)/\η a.1 U)/\Ab d O a U->η Q.1 U)/\True)))
 def ff:=(a.2.1=ι->fq c e j f k J i h L a S m)/\(a.2.1=ς->∃(Z:jd),YV c Z (XG c Z (Z.2.1=ι/\YU h m (Z.2.2=a.2.2/\Q3 k f J j i Z/\(∀i7,(zQ c e f i h i7)/\η a.1 i7->η Z.1 i7)/\True))))
 def E9:=(0<=qo i j (↑L:Int)/\qo i j (↑L:Int)<(↑L:Int))/\p≠noA/\∃(d:Int),(∀O,zQ c e f S h O->q37 O (adr p (toNat (qo i j (↑L:Int))*1)) [int i64 d])/\R3 k/\∃(o:xh),RY e d k h o (o.2.2.2.2.2.2=qh i j/\RX q o/\(∀r,zQ c e f S h r->R2 o r)/\∀(Q:jd),zy o.1 o.2.2.1 o.2.2.2.1 o.2.2.2.2.2.1 o.2.2.2.2.2.2 Q.1 Q.2.1 Q.2.2->(∃U,(zQ c e f S h U)/\η Q.1 U)->ff c e j f J k S h L Q i o)
 def XH:=(θ c.1).1=(θ c.1).1/\(θ c.1).2.1=(θ c.1).2.1/\(θ c.1).2.2=(θ c.1).2.2/\ψ c.1=ψ c.1/\T
 def XI:=j=j/\v=v/\p=p/\L=L/\q=q/\k=k/\w=w/\u=u/\z=z/\E=E/\F=F/\J=J/\C=C/\A=A/\D=D/\G=G/\H=H/\I=I/\(∀d,zQ c e f i h d->zQ c e f i h d)/\T
 def fo:=length (qa Ι t.2.2)=length t.2.2*5/\(length t.2.2+nat_lit 1)*80<=140737488355328/\Jb ((↑t.1:Int)+1)/\∃(d:Nat×Int×List GV),j=j/\(↑d.1:Int)=(↑t.1:Int)+1/\YU e m (d.2.1=a.2.2/\τ c.1=τ c.1/\π c.1=π c.1/\length d.2.2=length t.2.2+nat_lit 1/\XH c (jz h (k=k/\v=v/\p=p/\L=L/\q=q/\J=J/\w=w/\u=u/\z=z/\E=E/\F=F/\M=M/\C=C/\A=A/\D=D/\G=G/\H=H/\I=I/\qa Ι d.2.2=qa Ι t.2.2++[int u64 (τ a.1),string (π a.1),slice (ζ a.1).1 (ζ a.1).2.1 (ζ a.1).2.2,slice (θ a.1).1 (θ a.1).2.1 (θ a.1).2.2,int i64 (ψ a.1)]/\(∀O,((zQ c h f i e O)/\Γ t.2.2 O)/\η a.1 O->zQ c h f i e O)/\(∀o,((zQ c h f i e o)/\Γ t.2.2 o)/\η a.1 o->Γ d.2.2 o)/\Zz f (qe f B) i j K d.1 d.2.1 (ε d.2.2)/\length (AT.fs (qe f B))- d.1<length (AT.fs (qe f B))- t.1/\True)))
 def E':=(0<=(↑t.1:Int)/\(↑t.1:Int)<(↑L:Int))/\p≠noA/\∃(d:Int),(∀O,(zQ c e f i h O)/\Γ t.2.2 O->q37 O (Ο (adr p (toNat (↑t.1:Int)*9)) 2) [int i64 d])/\R3 j/\∃(o:xh),RY e d j h o (o.2.2.2.2.2.2=t.2.1/\RX q o/\(∀r,(zQ c e f i h r)/\Γ t.2.2 r->R2 o r)/\∀(Q:jd),zy o.1 o.2.2.1 o.2.2.2.1 o.2.2.2.2.2.1 o.2.2.2.2.2.2 Q.1 Q.2.1 Q.2.2->(∃U,((zQ c e f i h U)/\Γ t.2.2 U)/\η Q.1 U)->fo c h j f k J i e u M z w A v C D L B p H E F K G I N Q o t)
 def fj:=(E' c e j f k J i h L M q p u v w z A B C D E F K G H I N t)/\E' c e j f k J i h L M q p u v w z A B C D E F K G H I N t
 def fh:=Ji ((↑t.1:Int)<(↑L:Int)) (fj c e j f k J i h L M q p u v w z A B C D E F K G H I N t) (∀(i18 i19 i20:Nat) (X:Option Addr) (i22 i23:Nat),(∃i24,((zQ c e f i h i24)/\Γ t.2.2 i24)/\length t.2.2<=i23/\qgm i24 X (take (length t.2.2*nat_lit 5) (qa Ι t.2.2)))->∃(R:jd),YV c R ((ζ R.1).1=X/\(ζ R.1).2.1=length t.2.2/\(ζ R.1).2.2=i23/\R1 c R (ψ R.1=ψ c.1/\R.2.1=ι/\jz h (R.2.2=t.2.1/\Q3 B f j K i R/\(∀Y,((zQ c e f i h Y)/\Γ t.2.2 Y)/\length t.2.2<=i23/\qgm Y X (take (length t.2.2*nat_lit 5) (qa Ι t.2.2))->η R.1 Y)/\True))))
 def fe:=(∃(d:Nat×Int×List GV),j=j/\(↑d.1:Int)=0/\jz e (d.2.1=k/\τ c.1=τ c.1/\π c.1=π c.1/\length d.2.2=0/\XH c (jz h (XI c h J f M B i e L q p u v w z A C D E F G H I ((∀o,zQ c h f i e o->Γ d.2.2 o)/\Zz f (qe f K) i j k d.1 d.2.1 (ε d.2.2)/\True)))))/\∀(r:Nat×Int×List GV),Zz f (qe f K) i j k r.1 r.2.1 (ε r.2.2)->(∃Q,(zQ c h f i e Q)/\Γ r.2.2 Q)->fh c h j f J M i e A B N C L v p q u K w z E F k G D H I r
 def Ac:=τ c.1=τ c.1/\π c.1=π c.1/\(ζ c.1).1=(ζ c.1).1/\(ζ c.1).2.1=(ζ c.1).2.1/\(ζ c.1).2.2=(ζ c.1).2.2/\T
 def Z2:=((zQ c e f i h W)/\η g.2.2 W)/\η a.1 W
 def Aa:=τ a.1=τ g.2.2/\π a.1=π g.2.2/\(ζ a.1).1=(ζ g.2.2).1/\(ζ a.1).2.1=(ζ g.2.2).2.1/\(ζ a.1).2.2=(ζ g.2.2).2.2/\(θ a.1).1=(θ g.2.2).1/\(θ a.1).2.1=(θ g.2.2).2.1/\(θ a.1).2.2=(θ g.2.2).2.2/\ψ a.1=ψ g.2.2/\a.2.1=ι/\T
 abbrev Ad:=slice (ζ g.2.2).1 (ζ g.2.2).2.1 (ζ g.2.2).2.2
 abbrev Ae:=slice (θ g.2.2).1 (θ g.2.2).2.1 (θ g.2.2).2.2
 def fu:=Jb (g.1- 1)/\∃(d:Int×Int×GV),j=j/\d.1=g.1- 1/\YU e m (d.2.1=qh i a.2.2/\τ d.2.2=τ V/\π d.2.2=π V/\(ζ d.2.2).1=(ζ V).1/\(ζ d.2.2).2.1=(ζ V).2.1/\(ζ d.2.2).2.2=(ζ V).2.2/\(θ d.2.2).1=(θ V).1/\(θ d.2.2).2.1=(θ V).2.1/\(θ d.2.2).2.2=(θ V).2.2/\ψ d.2.2=ψ V/\jz h (k=k/\v=v/\p=p/\L=L/\q=q/\J=J/\w=w/\u=u/\z=z/\E=E/\F=F/\M=M/\C=C/\A=A/\D=D/\G=G/\H=H/\I=I/\(∀O,(Z2 c h f S e a g O)/\η V O->zQ c h f S e O)/\(∀o,(Z2 c h f S e a g o)/\η V o->η d.2.2 o)/\Zj f (qe f B) S j K d.1 d.2.1 d.2.2/\toNat d.1<toNat g.1/\True))
 def fp:=Ji (j=12) (False) (∃(d:List Int),(5:Int)=5/\m.2.2.2.2.1.1=m.2.2.2.2.1.1/\m.2.2.2.2.1.2.1=m.2.2.2.2.1.2.1/\m.2.2.2.2.1.2.2=m.2.2.2.2.1.2.2/\a.2.2=a.2.2/\(0<=a.2.2/\a.2.2<=(↑(length d):Int)/\(0:Int)<5/\(5:Int)<1000000/\z8 d)/\(∀O,Z2 c e f i h a g O->qc qj (m.2.2.2.2.1.1,m.2.2.2.2.1.2.1,m.2.2.2.2.1.2.2) d O)/\((-9223372036854775808:Int)<=97+qo d a.2.2 5/\(97:Int)+qo d a.2.2 (5:Int)<=9223372036854775807)/\∃o,size o=1/\qga [int u8 (Δ u8 ((97:Int)+qo d a.2.2 5))] 0 (q18 o)/\size (mkS [107])+size o<=9223372036854775807/\AV.agg [AV.sv (int u64 (τ g.2.2)),AV.sv (string (π g.2.2)),AV.sv (Ad g),AV.sv (Ae g),AV.sv (int i64 (ψ g.2.2))]=AV.agg [AV.sv (int u64 (τ g.2.2)),AV.sv (string (π g.2.2)),AV.sv (Ad g),AV.sv (Ae g),AV.sv (int i64 (ψ g.2.2))]/\E_ a/\∃(r:GV×Ck×GV),τ r.1=τ g.2.2/\π r.1=π g.2.2/\(ζ r.1).1=(ζ g.2.2).1/\(ζ r.1).2.1=(ζ g.2.2).2.1/\(ζ r.1).2.2=(ζ g.2.2).2.2/\(θ r.1).1=(θ g.2.2).1/\(θ r.1).2.1=(θ g.2.2).2.1/\(θ r.1).2.2=(θ g.2.2).2.2/\ψ r.1=ψ g.2.2/\r.2.1=mkS [107]++o/\τ r.2.2=τ a.1/\π r.2.2=π a.1/\(ζ r.2.2).1=(ζ a.1).1/\(ζ r.2.2).2.1=(ζ a.1).2.1/\(ζ r.2.2).2.2=(ζ a.1).2.2/\(θ r.2.2).1=(θ a.1).1/\(θ r.2.2).2.1=(θ a.1).2.1/\(θ r.2.2).2.2=(θ a.1).2.2/\ψ r.2.2=ψ a.1/\(length (Ω r.1)=length (qqg r.1)/\length (qqg r.1)<1000000)/\(∀Q,Z2 c e f i h a g Q->η r.1 Q/\η r.2.2 Q)/\∀(U:GV),υ U=PV.mk (τ r.1) (π r.1) (zC r.2.1 (Ω r.1) (ε (qqg r.1)) (υ r.2.2)) (qO r.2.1 (Ω r.1)) (ψ r.1)->(∃Z,(Z2 c e f i h a g Z)/\η U Z)->fu c h k f j J d e L M q p u v w z A B C D E F K G H I a i m g U)
 def fk:=((!a.2.1)=ι->∃(d:jd),Aa d g (YU e m (d.2.2=a.2.2/\Q3 j f k J i d/\(∀O,Z2 c h f i e a g O->η d.1 O)/\True)))/\((!a.2.1)=ς->fp c h M f k B i e L K q p u v w z A j C D E F J G H I a m g)
 def fi:=R3 j/\∃(d:xh),RY e k j h d (d.2.2.2.2.2.2=g.2.1/\RX L d/\(∀O,(zQ c e f i h O)/\η g.2.2 O->R2 d O)/\∀(o:jd),zy d.1 d.2.2.1 d.2.2.2.1 d.2.2.2.2.2.1 d.2.2.2.2.2.2 o.1 o.2.1 o.2.2->(∃r,Z2 c e f i h o g r)->fk c h J f j M i e q B u p z v w A D k C H E F K G I N o d g)
 def fg:=Ji (0<g.1) (fi c e j f k J i h L M q p u v w z A B C D E F K G H I N g) (∃(i16:jd),Aa i16 g (jz h (i16.2.2=g.2.1/\Q3 J f j M i i16/\(∀i17,(zQ c e f i h i17)/\η g.2.2 i17->η i16.1 i17)/\True)))
 def fc:=(K1 j=ι->∃(d:List Int),(4:Int)=4/\jz e (KU c h k f 4 d e i ((∃(o:Int×Int×GV),J=J/\o.1=qo d k 4/\jz e (o.2.1=qh d k/\τ o.2.2=τ c.1/\π o.2.2=π c.1/\(ζ o.2.2).1=(ζ c.1).1/\(ζ o.2.2).2.1=(ζ c.1).2.1/\(ζ o.2.2).2.2=(ζ c.1).2.2/\(θ o.2.2).1=(θ c.1).1/\(θ o.2.2).2.1=(θ c.1).2.1/\(θ o.2.2).2.2=(θ c.1).2.2/\ψ o.2.2=ψ c.1/\jz h (XI c h j f M B i e L q p u v w z A C D E F G H I ((∀Q,zQ c h f i e Q->η o.2.2 Q)/\Zj f (qe f K) i J k o.1 o.2.1 o.2.2/\True))))/\∀(U:Int×Int×GV),Zj f (qe f K) i J k U.1 U.2.1 U.2.2->(∃Z,(zQ c h f i e Z)/\η U.2.2 Z)->fg c h J f M K i e N k L p q v w u z j C A E F B G D H I U)))/\(K1 j=ς->∃(R:jd),YV c R (XG c R (R.2.1=ι/\jz e (R.2.2=k/\Q3 K f J k i R/\(∀Y,zQ c h f i e Y->η R.1 Y)/\True))))
 def fa:=(Ji (j=12) (∃(d:Unit),k=k/\K1 j=decide (j=12)/\j=j/\jz e (J=J/\Ac c (XH c (jz h (XI c h j f M B i e L q p u v w z A C D E F G H I (True/\True)))))) (∃(o:Unit),k=k/\K1 j=decide (j=13)/\j=j/\jz e (J=J/\Ac c (XH c (jz h (XI c h j f M B i e L q p u v w z A C D E F G H I (True/\True)))))))/\∀(Q:Unit),True->fc c e j f J k i h L M q p u v w z A B C D E F K G H I N
 def e_:=Ji (j=9) (fe c e k f J j i h L M q p u v w z A B C D E F K G H I N) (fa c e j f k J i h L M q p u v w z A B C D E F K G H I N)
 def eZ:=Ji (j=14) (∃(d:List Int),(↑L:Int)=(↑L:Int)/\jz e (Ah k d L (XJ c h f i e d/\(E9 c h k f J M d e L q p i)/\E9 c h k f J M d e L q p i))) (e_ c e j f J k i h u B z w A v C D H K G I E F M p L N q)
 def jzf:=Ji (j=10) (∃(d:List Int),(↑L:Int)=(↑L:Int)/\jz e (Ah k d L (XJ c h f i e d/\∃(o:jd),τ o.1=Δ u64 (qo d k (↑L:Int))/\π o.1=π c.1/\KT c e k f J M d h o i))) (eZ c e j f k M i h q J u p z v w A L B C D E F K G H I N)
 def jze:=Ji (j=7) (∃(d:List Int),(4:Int)=4/\jz e (KU c h k f 4 d e i ((0<=qo d k 4/\qo d k (4:Int)<(↑(nat_lit 4):Int))/\∃o,qga [string (mkS []),string (mkS [255]),string (mkS [0]),string (mkS [98])] (XK k 4 d) [string o]/\∃(r:jd),τ r.1=τ c.1/\π r.1=o/\KT c e k f J M d h r i))) (jzf c e j f k J i h L M q p u v w z A B C D E F K G H I N)
 def jzd:=Ji (j=8) (∃(d:List Int),(4:Int)=4/\jz e (KU c h k f 4 d e i ((0<=qo d k 4/\qo d k (4:Int)<(↑(nat_lit 4):Int))/\∃o,qga [string (mkS []),string (mkS [97]),string (mkS [195,164]),string (mkS [116,101,120,116])] (XK k 4 d) [string o]/\∃(r:jd),τ r.1=τ c.1/\π r.1=o/\KT c e k f J M d h r i))) (jze c e j f k J i h L M q p u v w z A B C D E F K G H I N)
 def jzc:=Ji (j=6) (∃(d:List Int),(5:Int)=5/\jz e (KU c h k f 5 d e i ((0<=qo d k 5/\qo d k (5:Int)<(↑(nat_lit 5):Int))/\∃(o:Int),qga [int u64 0,int u64 4607182418800017408,int u64 1,int u64 9223372036854775808,int u64 9218868437227405312] (XK k 5 d) [int u64 o]/\∃(r:jd),τ r.1=o/\π r.1=π c.1/\KT c e k f J M d h r i))) (jzd c e j f k J i h L M q p u v w z A B C D E F K G H I N)
 def jzb:=RW c e j f k J i h M 5 1065353216 2139095040 1 3212836864 2143289345 2147483648/\(Jf (j=5)->jzc c e j f k J i h L M q p u v w z A B C D E F K G H I N)
 def jza:=RW c e j f k J i h M 4 1 18446744073709551615 1099511627776 9223372036854775807 9223372036854775808 9007199254740993/\(Jf (j=4)->jzb c e j f k J i h L M q p u v w z A B C D E F K G H I N)
 def jz9:=RW c e j f k J i h M 3 1 18446744073709551615 300 2147483647 18446744071562067968 16777217/\(Jf (j=3)->jza c e j f k J i h L M q p u v w z A B C D E F K G H I N)
 def jz8:=(0<=j/\j<(↑e.2.1:Int))/\e.1≠noA/\∃(d:Int),∃O,∃o,∃(r:Nat),∃(Q:Nat),∃(U:Int),∃Z,∃(i7:Nat),∃(i8:Nat),∃(i9:Bool),∃i10,∃(i11:Int),∃i12,∃(i13:Nat),∃(i14:Nat),∃i15,∃(i16:Nat),∃(i17:Nat),(∀i18,zQ c e f i h i18->q37 i18 (adr e.1 (toNat j*10)) [int i64 d,string O,slice o r Q,int i64 U,slice Z i7 i8,bool i9,string i10,int i64 i11,slice i12 i13 i14,slice i15 i16 i17])/\Ji (d=2) (∃(i19:List Int),(2:Int)=2/\jz h (KU c e k f 2 i19 h i (∃(X:jd),τ X.1=Δ u64 (qo i19 k 2)/\π X.1=π c.1/\KT c h k f j J i19 e X i))) (jz9 c h d f k j i e i7 J i16 i15 L O o r Q U Z i8 i9 i10 i11 i12 i13 i14 i17)
 def jz7:=Ji (5<j) (RZ c e k f J j i h) (∃(o:List Int),jz e (k=k/\True/\XJ c h f i e o/\Ji ((↑(length o):Int)<=k) (RZ c e k f J j i h) (jz8 c h J f k j i e L)))
 def jz6:=((!c.2)=ι->RZ c e j f k J i h)/\((!c.2)=ς->jz7 c e J f j k i h L)
end
def zh9(c:Nat) (S:List AT) (x:SV) (t d:Int) (y:SV) (L:List Int) (n:Int):qk3 P (qf5 [(23,Q4),(22,UE)]) (qg7 [(10,(wa uj).below yy c),(21,Pr),(24,Q5)]) Tryz.f10 ((wa X3).below yy (c+1)) (LW ς) ⟨S,x,t,d,y,L,n⟩=(yy (S,x,t,d,y,L,n)<c+1/\qx S/\(0<=t/\t<(↑(length S):Int))/\X3 (qe S t)/\(0<=d/\d<=6)/\0<=n/\n<=(↑(length L):Int)/\z8 L->(∃(p:Pub),True/\qd S x p/\qc qj y L p)->∃(s:List AT×(Option Addr×Nat×Nat)×Int),s.2.1.1=x.1/\s.2.1.2.1=x.2.1/\s.2.1.2.2=x.2.2/\s.2.2=t/\qx s.1/\(∀(p:Pub),True/\qd S x p/\qc qj y L p->qd s.1 s.2.1 p)/\∀(b:GV×Bool),b.2=zW s.1 s.2.2/\PV.sn (υ b.1)/\PV.wt (υ b.1)<=60000/\(b.2=ι->Φ s.1 s.2.2 (υ b.1))/\(b.2=ς\/AT.k (qe s.1 s.2.2)=12\/AT.k (qe s.1 s.2.2)=13->b.1=zV)->(∃(p:Pub),zQ b x S L y p)->jz6 b y n S t d L x c):=by kernel_rfl
def zo4:=λc S x t d y L n=>Ν (zh9 c S x t d y L n) (by delta Ji Jb Jt Jf zQ YV R1 XG jz Q3 RZ XJ KU KT XK RW Ah R3 RY RX R2 Af Ag E_ Ab YU fq ff E9 XH XI fo E' fj fh fe Ac Z2 Aa Ad Ae fu fp fk fi fg fc fa e_ eZ jzf jze jzd jzc jzb jza jz9 jz8 jz7 jz6;exact rfl)
def zo5(c:Nat) (ha:q1p P 10 ((wa uj).below yy c)):q1p P 10 ((wa X3).below yy (c+1)):=by
 refine zh (qcl (qgj Kf (qgj PD qjq))) (qdd (qgi ha (qgi z9l (qgi z78 qjp)))) (W:=LW ς) Tryz.func10 λ⟨S,(x:SV),(t:Int),(d:Int),(y:SV),L,(n:Int)⟩=>(zo4 c S x t d y L n).mpr ?_;rintro⟨hmu,hS,ht,V,⟨hd0,hd6⟩,B,A,hL⟩ ⟨p,_,hx,hy⟩;have hmu:(10- d).toNat<c+1:=hmu;obtain⟨i,hi,rfl⟩:=vR ht;have V:S[i].k≠12:=by have:=V;unfold X3 at this;rw[kB hi]at this;exact this
 have sl:x.2.1=S.length:=hx.1.1;have hat:=λq (hq:qd S x q)=>y_ hq hi;have hao:=λq (hq:qd S x q)=>hq.2 S[i] (δ hi);have O:=hS.2 S[i] (δ hi);have h60:=hS.1;obtain⟨_,syl,fl,bl⟩:=yH (hao p hx);have hkk:=O.1;have hit:=O.2.1;have hbr:=O.2.2.1;have hne:=O.2.2.2.1;have hfr:=λf (hf:f∈S[i].fs)=>(O.2.2.2.2.1 f hf).1;have hsy:=O.2.2.2.2.2.1;have hf30:=O.2.2.2.2.2.2.2.1;have hb30:=O.2.2.2.2.2.2.2.2.1;have hs30:=O.2.2.2.2.2.2.2.2.2;clear O;have hLl:=hL.1;have nb:=yI A;have nr:=λ(m:Int) (h:0<m)=>yJ (n:=n) (m:=m) hL h;have ix:∀{m:Int} (h:0<m),∃r:Nat,(r:Int)<m/\qo L n m=r:=λ{m} h=>by obtain⟨r,hr⟩:=Λ (nr m h).1;exact⟨r,by have:=(nr m h).2;omega,hr⟩
 simp only[qB,exists_const,forall_const,γ,sl,kB hi];refine⟨⟨S,x,(i:Int)⟩,rfl,sl,rfl,rfl,hS,λq hq=>hq.1,?_⟩;rintro⟨v,bb⟩ ⟨hb,vsn,vwt,vf⟩ ⟨p1,⟨hx1,hy1⟩,hv⟩;simp only at hb vsn vwt vf hv⊢;have J:∃b:jd,b.1.n=v.n/\b.1.s=v.s/\b.1.x.1=v.x.1/\b.1.x.2.1=v.x.2.1/\b.1.x.2.2=v.x.2.2/\b.1.y.1=v.y.1/\b.1.y.2.1=v.y.2.1/\b.1.y.2.2=v.y.2.2/\b.1.b=v.b/\b.2.1=bb/\b.2.2=n/\zy S i d L n b.1 b.2.1 b.2.2/\∀q,(qd S x q/\qc qj y L q)/\v.ok q->b.1.ok q:=⟨⟨v,bb,n⟩,rfl,rfl,rfl,rfl,rfl,rfl,rfl,rfl,rfl,rfl,rfl,⟨hb,⟨ω _,A⟩,vsn,qqz vwt (QJ d),vf.1⟩,λq hq=>hq.2⟩;refine⟨λ_=>J,λhbt=>⟨λ_=>J,λhd5=>⟨L,λq hq=>hq.1.2,λ_=>J,λhov=> ?_⟩⟩⟩;obtain rfl:bb=true:=hbt;have vft:=vf.1 rfl;have vnl:S[i].k=12\/S[i].k=13->v.l=[]:=λh=>by have:=vf.2 (.inr (by rw[kB hi];exact h));rw[this];rfl
 have H:AvH S i hi v d:=⟨hS,hb.symm,vft,vsn,vwt,vnl,by omega⟩;clear J vf;have hpp:(qd S x p1/\qc qj y L p1)/\v.ok p1:=⟨⟨hx1,hy1⟩,hv⟩;have nn:n<=qh L n/\qh L n<=L.length:=⟨nb.1,nb.2.1⟩;refine⟨⟨by omega,by omega⟩,(hat p1 hx1).1,S[i].k,S[i].nm,S[i].al.1,S[i].al.2.1,S[i].al.2.2,S[i].it,S[i].sy.1,S[i].sy.2.1,S[i].sy.2.2,S[i].hd,S[i].df,S[i].sz,S[i].f.1,S[i].f.2.1,S[i].f.2.2,S[i].br.1,S[i].br.2.1,S[i].br.2.2,λq hq=>(hat q hq.1.1).2,λk2=> ?_,λk2=>⟨λk3=> ?_,λk3=>⟨λk4=> ?_,λk4=>⟨λk5=> ?_,λk5=>⟨λk6=> ?_,λk6=>⟨λk8=> ?_,λk8=>⟨λk7=> ?_,λk7=>⟨λk10=> ?_,λk10=>⟨λk14=> ?_,λk14=>⟨λk9=> ?_,λk9=> ?_⟩⟩⟩⟩⟩⟩⟩⟩⟩⟩
 ·obtain⟨r,hr,e⟩:=ix (m:=2) (by decide);have w:Δ .u64 (r:Int)=r:=by rw[To];omega
  exact⟨L,⟨B,A,by decide,by decide,hL⟩,λq hq=>hq.1.2,⟨.mk r v.s v.x v.l v.y v.ks v.b,ι,qh L n⟩,by rw[e,w];rfl,rfl,rfl,rfl,rfl,rfl,rfl,rfl,rfl,rfl,rfl,Vb H nn (by unfold zo;exact decide_eq_true (by omega)) (by omega) (by unfold vi;rw[if_neg (by omega),if_pos k2];exact decide_eq_true (by omega)),λq hq=>ZC hq.2 _ _ _⟩
 ·obtain⟨r,hr,e⟩:=ix (m:=7) (by decide);have G:=Lp (M:=[0,1,18446744073709551615,300,2147483647,18446744071562067968,16777217]) (p:=λx=>(0<=x/\x<18446744073709551616)/\(x<2147483648\/18446744071562067968<=x)) (by decide) (r:=r) (by simp;omega);refine⟨L,?_⟩;rw[e];exact⟨⟨B,A,by decide,by decide,hL⟩,λq hq=>hq.1.2,⟨by omega,hr⟩,_,Lo [0,1,18446744073709551615,300,2147483647,18446744071562067968,16777217] (r:=r) (by simp;omega),⟨.mk _ v.s v.x v.l v.y v.ks v.b,ι,qh L n⟩,rfl,rfl,rfl,rfl,rfl,rfl,rfl,rfl,rfl,rfl,rfl,Vb H nn (by unfold zo;exact decide_eq_true (by omega)) G.1 (by unfold vi;rw[if_neg (by omega),if_neg (by omega),if_pos k3];exact decide_eq_true G.2),λq hq=>ZC hq.2 _ _ _⟩
 ·obtain⟨r,hr,e⟩:=ix (m:=7) (by decide);have G:=Lp (M:=[0,1,18446744073709551615,1099511627776,9223372036854775807,9223372036854775808,9007199254740993]) (p:=λx=>(0<=x/\x<18446744073709551616)) (by decide) (r:=r) (by simp;omega);refine⟨L,?_⟩;rw[e];exact⟨⟨B,A,by decide,by decide,hL⟩,λq hq=>hq.1.2,⟨by omega,hr⟩,_,Lo [0,1,18446744073709551615,1099511627776,9223372036854775807,9223372036854775808,9007199254740993] (r:=r) (by simp;omega),⟨.mk _ v.s v.x v.l v.y v.ks v.b,ι,qh L n⟩,rfl,rfl,rfl,rfl,rfl,rfl,rfl,rfl,rfl,rfl,rfl,Vb H nn (by unfold zo;exact decide_eq_true (by omega)) G (by unfold vi;rw[if_neg (by omega),if_neg (by omega),if_neg (by omega),if_neg (by omega),if_neg (by omega)]),λq hq=>ZC hq.2 _ _ _⟩
 ·obtain⟨r,hr,e⟩:=ix (m:=7) (by decide);have G:=Lp (M:=[0,1065353216,2139095040,1,3212836864,2143289345,2147483648]) (p:=λx=>(0<=x/\x<18446744073709551616)/\x<4294967296) (by decide) (r:=r) (by simp;omega);refine⟨L,?_⟩;rw[e];exact⟨⟨B,A,by decide,by decide,hL⟩,λq hq=>hq.1.2,⟨by omega,hr⟩,_,Lo [0,1065353216,2139095040,1,3212836864,2143289345,2147483648] (r:=r) (by simp;omega),⟨.mk _ v.s v.x v.l v.y v.ks v.b,ι,qh L n⟩,rfl,rfl,rfl,rfl,rfl,rfl,rfl,rfl,rfl,rfl,rfl,Vb H nn (by unfold zo;exact decide_eq_true (by omega)) G.1 (by unfold vi;rw[if_neg (by omega),if_neg (by omega),if_neg (by omega),if_pos k5];exact decide_eq_true G.2),λq hq=>ZC hq.2 _ _ _⟩
 ·obtain⟨r,hr,e⟩:=ix (m:=5) (by decide);have G:=Lp (M:=[0,4607182418800017408,1,9223372036854775808,9218868437227405312]) (p:=λx=>(0<=x/\x<18446744073709551616)) (by decide) (r:=r) (by simp;omega);refine⟨L,?_⟩;rw[e];exact⟨⟨B,A,by decide,by decide,hL⟩,λq hq=>hq.1.2,⟨by omega,hr⟩,_,Lo [0,4607182418800017408,1,9223372036854775808,9218868437227405312] (r:=r) (by simp;omega),⟨.mk _ v.s v.x v.l v.y v.ks v.b,ι,qh L n⟩,rfl,rfl,rfl,rfl,rfl,rfl,rfl,rfl,rfl,rfl,rfl,Vb H nn (by unfold zo;exact decide_eq_true (by omega)) G (by unfold vi;rw[if_neg (by omega),if_neg (by omega),if_neg (by omega),if_neg (by omega),if_neg (by omega)]),λq hq=>ZC hq.2 _ _ _⟩
 ·obtain⟨r,hr,e⟩:=ix (m:=4) (by decide);have G:=zvs (M:=[mkS [],mkS [97],mkS [195,164],mkS [116,101,120,116]]) (p:=λx=>x.size<=1000/\qP x=ι) (by decide+kernel) (r:=r) (by simp;omega);refine⟨L,?_⟩;rw[e];exact⟨⟨B,A,by decide,by decide,hL⟩,λq hq=>hq.1.2,⟨by omega,hr⟩,_,zvt [mkS [],mkS [97],mkS [195,164],mkS [116,101,120,116]] (r:=r) (by simp;omega),⟨.mk v.n _ v.x v.l v.y v.ks v.b,ι,qh L n⟩,rfl,rfl,rfl,rfl,rfl,rfl,rfl,rfl,rfl,rfl,rfl,Cn H nn (by unfold q8;exact decide_eq_true (by omega)) G.1 (by unfold yV;rw[if_pos k8];exact G.2),λq hq=>ZC hq.2 _ _ _⟩
 ·obtain⟨r,hr,e⟩:=ix (m:=4) (by decide);have G:=zvs (M:=[mkS [],mkS [255],mkS [0],mkS [98]]) (p:=λx=>x.size<=1000) (by decide+kernel) (r:=r) (by simp;omega);refine⟨L,?_⟩;rw[e];exact⟨⟨B,A,by decide,by decide,hL⟩,λq hq=>hq.1.2,⟨by omega,hr⟩,_,zvt [mkS [],mkS [255],mkS [0],mkS [98]] (r:=r) (by simp;omega),⟨.mk v.n _ v.x v.l v.y v.ks v.b,ι,qh L n⟩,rfl,rfl,rfl,rfl,rfl,rfl,rfl,rfl,rfl,rfl,rfl,Cn H nn (by unfold q8;exact decide_eq_true (by omega)) G (by unfold yV;rw[if_neg (by omega),if_neg (by omega)]),λq hq=>ZC hq.2 _ _ _⟩
 ·have hsp:=List.length_pos_iff.2 (hsy k10);rw[syl];obtain⟨r,hr,e⟩:=ix (m:=S[i].sys.length) (by omega);have w:Δ .u64 (r:Int)=r:=by rw[To];omega
  exact⟨L,⟨B,A,by omega,by omega,hL⟩,λq hq=>hq.1.2,⟨.mk r v.s v.x v.l v.y v.ks v.b,ι,qh L n⟩,by rw[e,w];rfl,rfl,rfl,rfl,rfl,rfl,rfl,rfl,rfl,rfl,rfl,Vb H nn (by unfold zo;exact decide_eq_true (by omega)) (by omega) (by unfold vi;rw[if_neg (by omega),if_neg (by omega),if_neg (by omega),if_neg (by omega),if_pos k10];exact decide_eq_true (by omega)),λq hq=>ZC hq.2 _ _ _⟩
 ·have hbp:=List.length_pos_iff.2 (hne k14);rw[bl];obtain⟨r,hr,e⟩:=ix (m:=S[i].brs.length) (by omega);have hrl:r<S[i].brs.length:=by omega
  have bat:=λq hq=>uO (hao q hq) hrl;have bin:=hbr _ (δ hrl);have hun:=λw x m n' hm (hw:zy S S[i].brs[r] (d+1) L m w ι n')=>jj1 (n:=n) H k14 hrl (w:=w) (x:=x) (m:=m) (n':=n') hm hw;generalize S[i].brs[r]=bt at*;refine⟨L,⟨B,A,by omega,by omega,hL⟩,λq hq=>hq.1.2,?_⟩;rw[e];simp only[γ];refine⟨?xa,?xb⟩;case xa|xb=>
   refine⟨⟨by omega,by omega⟩,(bat p1 hx1).1,bt,λq hq=>(bat q hq.1.1).2,⟨by omega,by omega⟩,⟨S,x,bt,d+1,y,L,qh L n⟩,rfl,sl,rfl,rfl,rfl,rfl,rfl,rfl,rfl,⟨by show(10- (d+1)).toNat<c;omega,hS,bin,trivial,⟨by show 0<=d+1;omega,by show d+1<=6;omega⟩,by show 0<=qh L n;omega,nn.2,hL⟩,λq hq=>hq.1,?_⟩;rintro⟨w,b2,n2⟩ hw _;have hw:zy S bt (d+1) L (qh L n) w b2 n2:=hw;simp only;refine⟨λT b s _=>⟨⟨.mk v.n v.s (χ ⟨b,s+0,ρ⟩,1,1) [w] v.y v.ks r,ι,n2⟩,rfl,rfl,rfl,rfl,rfl,rfl,rfl,rfl,rfl,rfl,trivial,trivial,trivial,rfl,?_,λq hq=> ?_⟩,λT=>⟨⟨v,ι,n2⟩,rfl,rfl,rfl,rfl,rfl,rfl,rfl,rfl,rfl,rfl,trivial,trivial,trivial,rfl,zv7 H ⟨by have:=hw.2.1.1;show n<=n2;omega,hw.2.1.2⟩,λq hq=>hq.1.2⟩⟩
   ·subst T;exact hun w _ _ n2 nn.1 hw
   ·have X:=hq.1.1.2;rw[qqd]at X;unfold η;exact⟨⟨rfl,Α _, .inr ⟨_,rfl,rfl,hq.2⟩⟩,X.2.1,vQ hq.1.2⟩
 ·refine⟨⟨⟨0,n,[]⟩,rfl,rfl,rfl,λq hq=>GV.oks_iff.2 λv h=>(by cases h),⟨rfl,Θ _⟩,⟨ω _,A⟩,λk h1 h2=>absurd h1 (by rw[ε];simp),λv hv=>(by rw[ε]at hv;cases hv),by rw[ε,Υ];exact Θ _⟩,?_⟩;rintro⟨j,Z,fs⟩ C ⟨p2,hp2,hfs⟩;have C:Zz S S[i] L d n j Z (ε fs):=C;simp only at hfs⊢;have l1:fs.length=j:=by rw[←ξ];exact C.1.1
  have l2:=C.1.2;have l3:=C.2.1;have hfl:=Pz hS hi k9 hb.symm;refine⟨λhlt=>⟨?xc,?xd⟩,λhge a cc _=>⟨⟨.mk v.n v.s (a,fs.length,cc) fs v.y v.ks v.b,ι,Z⟩,rfl,rfl,rfl,rfl,rfl,rfl,rfl,rfl,rfl,rfl,rfl,jj0 H k9 (by omega) C,λq hq=> ?_⟩⟩;case xc|xd=>
   have U:j<S[i].fs.length:=(by omega);have bat:=λq hq=>Ll (hao q hq) U;have bne:=(w_ (hao p1 hx1) U).1;have bin:=hfr _ (δ U);have bls:=hfl.2 _ (δ U);have hsn:=λw n2 b hw=>zqf U C (w:=w) (n2:=n2) (b:=b) bls hw;generalize S[i].fs[j]=f at*;refine⟨⟨by omega,by omega⟩,bne,f.ty,λq hq=>bat q hq.1.1.1,⟨by omega,by omega⟩,⟨S,x,f.ty,d+1,y,L,Z⟩,rfl,sl,rfl,rfl,rfl,rfl,rfl,rfl,rfl,⟨by show(10- (d+1)).toNat<c;omega,hS,bin,trivial,⟨by show 0<=d+1;omega,by show d+1<=6;omega⟩,by show 0<=Z;omega,l3.2,hL⟩,λq hq=>hq.1.1,?_⟩;rintro⟨w,b2,n2⟩ hw _;have hw:zy S f.ty (d+1) L Z w b2 n2:=hw;simp only;exact⟨qv zn fs,by omega,⟨by omega,by omega⟩,⟨j+1,n2,fs++[w]⟩,by show((j+1:Nat):Int)=_;omega,trivial,trivial,trivial,rfl,by simp,by rw[zu];rfl,λq hq=>hq.1.1,λq hq=>uJ hq.1.2 (vQ hq.2),hsn w n2 b2 hw,by show _- (j+1)<_;omega⟩
  ·have h2:=hq.2.2;rw[Ζ (by rw[qv zn];exact Α _)]at h2;have X:=hq.1.1.2;rw[qqd]at X;unfold η;exact⟨⟨rfl,hq.2.1,h2⟩,X.2.1,hq.1.2⟩
 ·refine⟨⟨λh=>absurd h V,λh=> ?_⟩,λham=> ?_,λham=> ?_⟩
  ·unfold K1;exact j6 ⟨λg=>by omega,λg=> .inr g⟩
  ·have Y:S[i].k=13:=by unfold K1 at ham;have:=of_decide_eq_true ham;omega
   have vl0:=vnl (.inr Y);obtain⟨e1,e2,_,e4⟩:=(Yb hi vft.1).2.2 (Uy (by omega));have e4:=e4 (by omega);have vk0:v.ks=[]:=by have:=hv;rw[qqd]at this;have hh:=vft.1;rw[qqb,qq1,if_neg (by omega)]at hh;simp only[γ,ν hi,ξ]at hh;rw[if_neg (by unfold zo;rw[decide_eq_false (by omega)];decide),if_neg (by unfold q8;rw[decide_eq_false (by omega)];decide),if_pos (Uy (by omega))]at hh;simp only[φ]at hh;have ho:=hh.1.1.1;unfold vj at ho;rw[if_neg (by omega),if_neg (by omega),if_neg (by omega),if_pos Y,φ,decide_eq_true_eq,vl0]at ho;exact List.length_eq_zero_iff.1 ho.1.symm
   obtain⟨r,hr,e⟩:=ix (m:=4) (by decide);refine⟨L,⟨B,A,by decide,by decide,hL⟩,λq hq=>hq.1.2,⟨⟨r,qh L n,v⟩,e.symm,rfl,rfl,rfl,rfl,rfl,rfl,rfl,rfl,rfl,rfl,λq hq=>hq.2,⟨⟨by show(0:Int)<=r;omega,by show(r:Int)<=3;omega⟩,nn,⟨e1,e2,e4⟩,⟨by rw[vk0,vl0];rfl,by rw[vl0];show(0:Int)<=3- r;omega⟩,by rw[vk0];rfl,λw hw=>(by rw[vl0,ε]at hw;cases hw),λk hk=>(by rw[vk0]at hk;cases hk),?_⟩⟩,?_⟩
   ·rw[vk0,vl0,ε,Υ,qz];have:0<=(3- (r:Int))*((ka (d+1):Int)+12):=Int.mul_nonneg (by omega) (by omega);exact this
   rintro⟨m,Z,u⟩ C ⟨p2,hp2,hu⟩;have C:Zj S S[i] L d n m Z u:=C;simp only at hu⊢;have hI1:=C.1;have hI2:=C.2.1;have hI4:=C.2.2.2.1;have tin:=hit (.inr Y);refine⟨λhpos=> ?_,λhneg=>⟨⟨u,ι,Z⟩,rfl,rfl,rfl,rfl,rfl,rfl,rfl,rfl,rfl,rfl,rfl,Cy H Y C,λq hq=>hq.2⟩⟩;refine⟨⟨by omega,by omega⟩,⟨S,x,S[i].it,d+1,y,L,Z⟩,rfl,sl,rfl,rfl,rfl,rfl,rfl,rfl,rfl,⟨by show(10- (d+1)).toNat<c;omega,hS,tin,trivial,⟨by show 0<=d+1;omega,by show d+1<=6;omega⟩,by show 0<=Z;omega,hI2.2,hL⟩,λq hq=>hq.1.1,?_⟩;rintro⟨w,b2,n2⟩ hw _;have hw:zy S S[i].it (d+1) L Z w b2 n2:=hw;simp only;have hw1:=hw.2.1;have e5:=yJ (n:=n2) (m:=5) hL (by decide);have n5:=yI hw1.2;refine⟨λT=>⟨⟨u,ι,n2⟩,rfl,rfl,rfl,rfl,rfl,rfl,rfl,rfl,rfl,rfl,trivial,trivial,trivial,rfl,Cy (m:=m) H Y ?_,λq hq=>hq.1.2⟩,λT=>⟨λh=>absurd h (by omega),λ_=> ?_⟩⟩
   ·obtain⟨a1,a2,a3⟩:=C;exact⟨a1,⟨by show n<=n2;omega,hw1.2⟩,a3⟩
   subst T;obtain⟨z,G⟩:=Λ e5.1;have hz5:z<5:=(by omega);have w8:Δ .u8 (97+(z:Int))=((97+z:Nat):Int):=(by rw[Yu];omega);have s1:(mkS [97+z]).size=1:=rfl;have s2:(mkS [107]++mkS [97+z]).size=2:=(by rw[ByteArray.size_append,s1];rfl);have s0:(mkS [107]).size=1:=rfl;refine⟨L,⟨by show 0<=n2;omega,hw1.2,by decide,by decide,hL⟩,λq hq=>hq.1.1.1.2,⟨by omega,by omega⟩,mkS [97+z],s1,λj a hj=> ?_,by omega,⟨u,mkS [107]++mkS [97+z],w⟩,rfl,rfl,rfl,rfl,rfl,rfl,rfl,rfl,rfl,rfl,rfl,rfl,rfl,rfl,rfl,rfl,rfl,rfl,rfl,⟨hI4.1,by show u.l.length<1000000;omega⟩,λq hq=>⟨hq.1.2,hq.2⟩,?_⟩
   ·rw[fC _ (by omega)]at hj;rw[G,w8,Ρ];exact hj
   rintro g O _;have O:g.pv=PV.mk u.n u.s (zC (mkS [107]++mkS [97+z]) u.ks (ε u.l) w.pv) (qO (mkS [107]++mkS [97+z]) u.ks) u.b:=O;have hvk:qP (mkS [107]++mkS [97+z])=true:=by rcases(by omega:z=0\/z=1\/z=2\/z=3\/z=4)with rfl|rfl|rfl|rfl|rfl<;>decide+kernel
   exact⟨⟨by omega,by omega⟩,⟨m- 1,qh L n2,g⟩,rfl,trivial,trivial,trivial,rfl,rfl,rfl,rfl,rfl,rfl,rfl,rfl,rfl,rfl,λq hq=>hq.1.1.1,λq hq=>hq.2,zyx hpos C hvk s2 hw ⟨n5.1,n5.2.1⟩ O,by show(m- 1).toNat<m.toNat;omega⟩
  ·exact⟨⟨v,ι,n⟩,rfl,rfl,rfl,rfl,rfl,rfl,rfl,rfl,rfl,rfl,rfl,zv7 H ⟨ω _,A⟩,λq hq=>hq.2⟩
def zo7(c:Nat) (ha:q1p P 10 ((wa uj).below yy c)):q1p P 10 ((wa X1).below yy (c+1)):=by
 refine zh (qcl (qgj Kf (qgj PD qjq))) (qdd (qgi ha (qgi ziw (qgi z78 qjp)))) (W:=LW ι) Tryz.func10 λ⟨S,(x:SV),(t:Int),(d:Int),(y:SV),L,(n:Int)⟩=>(zo6 c S x t d y L n).mpr ?_;rintro⟨V,hS,ht,u,⟨hd0,hd6⟩,hn0,O,hL⟩ ⟨p,_,hx,hy⟩;have V:(10- d).toNat<c+1:=V;obtain⟨i,hi,rfl⟩:=vR ht;have u:S[i].k=12:=by have:=u;unfold X1 at this;rw[kB hi]at this;exact this
 have sl:x.2.1=S.length:=hx.1.1;have T:=λq (hq:qd S x q)=>y_ hq hi;have hao:=λq (hq:qd S x q)=>hq.2 S[i] (δ hi);have B:=hS.2 S[i] (δ hi);have h60:=hS.1;obtain⟨_,syl,fl,bl⟩:=yH (hao p hx);have hkk:=B.1;have hit:=B.2.1;have hbr:=B.2.2.1;have hne:=B.2.2.2.1;have hfr:=λf (hf:f∈S[i].fs)=>(B.2.2.2.2.1 f hf).1;have hsy:=B.2.2.2.2.2.1;have hf30:=B.2.2.2.2.2.2.2.1;have hb30:=B.2.2.2.2.2.2.2.2.1;have hs30:=B.2.2.2.2.2.2.2.2.2;clear B;have hLl:=hL.1;have nb:=yI O;have nr:=λ(m:Int) (h:0<m)=>yJ (n:=n) (m:=m) hL h;have ix:∀{m:Int} (h:0<m),∃r:Nat,(r:Int)<m/\qo L n m=r:=λ{m} h=>by obtain⟨r,hr⟩:=Λ (nr m h).1;exact⟨r,by have:=(nr m h).2;omega,hr⟩
 simp only[qB,exists_const,forall_const,γ,sl,kB hi];refine⟨⟨S,x,(i:Int)⟩,rfl,sl,rfl,rfl,⟨hS,by show(qe S (i:Int)).k=12;rw[kB hi];exact u⟩,λq hq=>hq.1,?_⟩;rintro bb hb ⟨p1,⟨hx1,hy1⟩,hv⟩;simp only at hb;have nn:n<=qh L n/\qh L n<=L.length:=⟨nb.1,nb.2.1⟩;have zsn:zV.pv.sn:=by rw[Ki];exact z51 (by decide) (by rw[j0];decide) (by decide) (by decide) (λk hk=>by cases hk) λv hv=>by cases hv
 have zwt:zV.pv.wt<=60000:=by rw[Ki,z53,Υ,qz,j0];decide
 have Z:bb=ι->Φ S i zV.pv:=λh=>(zds hS hi (hb.symm.trans h) (by omega) (by omega) (by omega)).1;have A:∃b:jd,b.1.n=0/\b.1.s=mkS []/\b.1.x.1=noA/\b.1.x.2.1=0/\b.1.x.2.2=0/\b.1.y.1=noA/\b.1.y.2.1=0/\b.1.y.2.2=0/\b.1.b=0/\b.2.1=bb/\b.2.2=n/\zy S i d L n b.1 b.2.1 b.2.2/\∀q,(qd S x q/\qc qj y L q)/\zV.ok q->b.1.ok q:=⟨⟨zV,bb,n⟩,rfl,rfl,rfl,rfl,rfl,rfl,rfl,rfl,rfl,rfl,rfl,⟨hb,⟨ω _,O⟩,zsn,qqz zwt (QJ d),Z⟩,λq _=>jc q⟩;refine⟨λ_=>A,λG=>⟨λ_=>A,λhd5=>⟨L,λq hq=>hq.1.2,λ_=>A,λhov=> ?_⟩⟩⟩;clear A;have H:AvH S i hi zV d:=⟨hS,hb.symm.trans G,Z G,zsn,zwt,λ_=>rfl,by omega⟩;refine⟨⟨by omega,by omega⟩,(T p1 hx1).1,S[i].k,S[i].nm,S[i].al.1,S[i].al.2.1,S[i].al.2.2,S[i].it,S[i].sy.1,S[i].sy.2.1,S[i].sy.2.2,S[i].hd,S[i].df,S[i].sz,S[i].f.1,S[i].f.2.1,S[i].f.2.2,S[i].br.1,S[i].br.2.1,S[i].br.2.2,λq hq=>(T q hq.1.1).2,⟨by omega,by omega⟩,?_⟩;obtain⟨r,hr,e⟩:=ix (m:=4) (by decide);have tin:=hit (.inl u);have gok:∀(q:Pub) (a:Option Addr) (C:Nat) (fs:List GV),fs.length<=C->qgm q a (qqn (fs.length*5) (qa Ι fs))->Γ fs q->(GV.mk 0 (mkS []) (a,fs.length,C) fs (ρ,0,0) [] 0).ok q:=λq a C fs h1 h2 h3=>by rw[zy8]at h2;unfold η;exact⟨⟨rfl,h1,h2⟩,qV,h3⟩
 refine⟨L,⟨hn0,O,by decide,by decide,hL⟩,λq hq=>hq.1.2,⟨⟨r,qh L n,[]⟩,e.symm,rfl,rfl,λq hq=>GV.oks_iff.2 λv h=>(by cases h),⟨⟨by show(0:Int)<=r;omega,by rw[ε];show(r:Int)+0<=3;omega⟩,nn,λw hw=>(by rw[ε]at hw;cases hw),by rw[ε,Υ];exact Θ _⟩⟩,?_⟩;rintro⟨m,Y,fs⟩ J ⟨p2,hp2,hfs⟩;have J:Qf S S[i] L d n m Y (ε fs):=J;simp only at hfs⊢;have hI1:=J.1;rw[ξ]at hI1;have hI2:=J.2.1;refine⟨λX=> ?_,λhneg a C _=>⟨⟨.mk 0 (mkS []) (a,fs.length,C) fs (ρ,0,0) [] 0,ι,Y⟩,rfl,rfl,rfl,rfl,rfl,rfl,rfl,rfl,rfl,by simp[G],rfl,Cx H u J,λq hq=>gok q a C fs hq.2.1 hq.2.2 hq.1.2⟩⟩;refine⟨⟨by omega,by omega⟩,⟨S,x,S[i].it,d+1,y,L,Y⟩,rfl,sl,rfl,rfl,rfl,rfl,rfl,rfl,rfl,⟨by show(10- (d+1)).toNat<c;omega,hS,tin,trivial,⟨by show 0<=d+1;omega,by show d+1<=6;omega⟩,by show 0<=Y;omega,hI2.2,hL⟩,λq hq=>hq.1.1,?_⟩;rintro⟨w,b2,n2⟩ hw _;have hw:zy S S[i].it (d+1) L Y w b2 n2:=hw;simp only;have hw1:=hw.2.1;have hI3:Qf S S[i] L d n m n2 (ε fs):=⟨J.1,⟨by show n<=n2;omega,hw1.2⟩,J.2.2⟩;refine⟨λU a C _=>⟨⟨.mk 0 (mkS []) (a,fs.length,C) fs (ρ,0,0) [] 0,ι,n2⟩,rfl,rfl,rfl,rfl,rfl,rfl,rfl,rfl,rfl,by simp[G],trivial,trivial,trivial,rfl,Cx H u hI3,λq hq=>gok q a C fs hq.2.1 hq.2.2 hq.1.1.2⟩,λU=> ?_⟩;subst U;exact⟨qv zn fs,by omega,⟨by omega,by omega⟩,⟨m- 1,n2,fs++[w]⟩,rfl,trivial,trivial,trivial,rfl,by simp,by rw[zu];rfl,λq hq=>hq.1.1,λq hq=>uJ hq.1.2 (vQ hq.2),zo3 X J hw,by show(m- 1).toNat<m.toNat;omega⟩
def zo8(c:Nat) (G:q1p P 10 ((wa uj).below yy c)):q1p P 10 ((wa uj).below yy (c+1)):=by
 have hA:=zo7 c G;have U:=zo5 c G;refine⟨hA.1,hA.2.1,hA.2.2.1,λs=> ?_⟩;obtain⟨T,e0,V⟩:=hA.2.2.2 s;obtain⟨C,e1,X⟩:=U.2.2.2 s;have e:C=T:=Option.some.inj (e1.symm.trans e0);subst e;refine⟨C,e0,λF I w vs u a2 a3 a4 hp a5 A B=> ?_⟩;obtain⟨m,H,J,Y,O⟩:=hp;by_cases h:(qe s.1 s.2.2.1).k=12
 ·exact V F I w vs u a2 a3 a4 ⟨m,H,J,h,O⟩ a5 A B
 ·exact X F I w vs u a2 a3 a4 ⟨m,H,J,h,O⟩ a5 A B
def zcn:∀c,q1p P 10 ((wa uj).below yy c)
 |0=>qqf (by decide) (by decide) (Sen.enters_of Tryz.func10 (by kernel_rfl)) λs=>rfl
 |c+1=>zo8 c (zcn c)
def zo9:q1p P 10 (wa uj):=qqj zcn
def zyq(n k:Int):qk2 P (λ_=>ρ) Tryz.f80 Au (fH) ⟨n,k⟩=(((0:Int)<=k/\k<=(8:Int))/\(0:Int)<=n/\n<(18446744073709551616:Int)->(∃(s:Nat),n / (↑((2:Nat) ^ ((8:Nat)*s)):Int)=n/\k=k/\jE n s=mkS []/\(↑s:Int)=(0:Int)/\(↑s:Int)<=k/\True)/\∀(s:Nat),(↑s:Int)<=k->(decide ((↑s:Int)<k)=ι->(256:Int)≠(0:Int)/\∃(s_1:Ck),size s_1=(1:Nat)/\qga [int u8 (Δ u8 (qqs (n / (↑((2:Nat) ^ ((8:Nat)*s)):Int)) (256:Int)))] (0:Nat) (q18 s_1)/\size (jE n s)+size s_1<=(9223372036854775807:Nat)/\(256:Int)≠(0:Int)/\((-9223372036854775808:Int)<=(↑s:Int)+(1:Int)/\(↑s:Int)+(1:Int)<=(9223372036854775807:Int))/\∃(s_2:Nat),n / (↑((2:Nat) ^ ((8:Nat)*s_2)):Int)=Δ u64 (Int.tdiv (n / (↑((2:Nat) ^ ((8:Nat)*s)):Int)) (256:Int))/\k=k/\jE n s_2=jE n s++s_1/\(↑s_2:Int)=(↑s:Int)+(1:Int)/\(↑s_2:Int)<=k/\toNat k- s_2<toNat k- s/\True)/\(decide ((↑s:Int)<k)=ς->jE n (toNat k)=jE n s/\True)):=by kernel_rfl
section
variable (a:Int) (t:SV) (u:List AT) (c:GV) (r:Int) (w:Ck) (z:Option Addr) (A B:Nat) (v:Int) (e:Option Addr) (f g:Nat) (h:Bool) (i:Ck) (q:Int) (j:Option Addr) (k l:Nat) (m:Option Addr) (o p:Nat)
 abbrev FT:=(Jt (a=v)->∃(d:Int×Int),d.1=τ c/\d.2=q/\((0<=d.2/\d.2<=8)/\0<=d.1/\d.1<18446744073709551616)/\qqw u r (υ c)=jE d.1 (toNat d.2)/\True)
 def JE:=t.1=t.1/\t.2.1=t.2.1/\t.2.2=t.2.2/\a=a/\w=w/\z=z/\A=A/\B=B/\r=r/\e=e/\f=f/\g=g/\h=h/\i=i/\v=v/\j=j/\k=k/\l=l/\m=m/\o=o/\p=p/\τ c=τ c/\π c=π c/\(ζ c).1=(ζ c).1/\(ζ c).2.1=(ζ c).2.1/\(ζ c).2.2=(ζ c).2.2/\(θ c).1=(θ c).1/\(θ c).2.1=(θ c).2.1/\(θ c).2.2=(θ c).2.2/\ψ c=ψ c/\(∀d,True/\qd u t d/\η c d->True/\qd u t d/\η c d)/\True/\True
 def jzn:=Ji (a=4) (∃(d:Unit),r=r/\u7 a=decide (a=4)/\a=a/\JE a t u c v w z A B q e f g h i j k l m o p) (∃(D:Unit),r=r/\u7 a=decide (a=10)/\a=a/\JE a t u c v w z A B q e f g h i j k l m o p)
 abbrev R4:=qzh (Proofs.YtniogjgfomaicaaGreat.Rv.venc (zg a))
 def fw:=Ji (a=11) (qqw u r (υ c)=π c/\True) ((∃(d:Unit),r=r/\ς=decide (a=14)/\1=a/\JE a t u c v w z A B q e f g h i j k l m o p)/\∀(D:Unit),True->qqw u r (υ c)=mkS []/\True)
 def jzm:=(Q7 a=ι->∃(d:Int),d=(↑(size (π c)):Int)/\((-9223372036854775808:Int)<=d/\d<9223372036854775808)/\size (qqq (R4 d))+size (π c)<=9223372036854775807/\AV.sv (string (π c))=AV.sv (string (π c))/\qqw u r (υ c)=qqq (R4 d)++π c/\True)/\(Q7 a=ς->fw a t u c r w z A B v e f g h i q j k l m o p)
 def jzl:=(Ji (a=7) (∃(d:Unit),r=r/\a=a/\Q7 a=decide (a=7)/\JE a t u c v w z A B q e f g h i j k l m o p) (∃(D:Unit),r=r/\a=a/\Q7 a=decide (a=8)/\JE a t u c v w z A B q e f g h i j k l m o p))/\∀(L:Unit),True->jzm a t u c r w z A B v e f g h i q j k l m o p
 def jzk:=FT a u c r 6 8/\(Jf (a=6)->jzl a t u c r w z A B v e f g h i q j k l m o p)
 def jzj:=FT a u c r 5 4/\(Jf (a=5)->jzk a t u c r w z A B v e f g h i q j k l m o p)
 def jzi:=(u7 a=ι->∃(d:Int),d=Δ i64 (τ c)/\((-9223372036854775808:Int)<=d/\d<9223372036854775808)/\qqw u r (υ c)=qqq (R4 d)/\True)/\(u7 a=ς->jzj a t u c r w z A B v e f g h i q j k l m o p)
 def jzh:=(Ji (a=3) (∃(d:Unit),r=r/\u7 a=decide (a=3)/\a=a/\JE a t u c v w z A B q e f g h i j k l m o p) (jzn a t u c r w z A B v e f g h i q j k l m o p))/\∀(M:Unit),True->jzi a t u c r w z A B v e f g h i q j k l m o p
 def jzg:=(0<=a/\a<(↑t.2.1:Int))/\t.1≠noA/\∃(d:Int),∃D,∃L,∃(N:Nat),∃(O:Nat),∃(Q:Int),∃M,∃(R:Nat),∃(i8:Nat),∃(S:Bool),∃E,∃(F:Int),∃G,∃(H:Nat),∃(I:Nat),∃J,∃(i16:Nat),∃(K:Nat),(∀C,True/\qd u t C/\η c C->q37 C (adr t.1 (toNat a*10)) [int i64 d,string D,slice L N O,int i64 Q,slice M R i8,bool S,string E,int i64 F,slice G H I,slice J i16 K])/\FT d u c a 2 1/\(Jf (d=2)->jzh d t u c a D L N O Q M R i8 S E F G H I J i16 K)
end
def zon(S:List AT) (x:SV) (t:Int) (v:GV):qk2 P (qf5 [(80,Au),(25,Lb)]) Tryz.f41 Cb (CX) ⟨S,x,t,v⟩=((small S/\PV.sz (υ v)/\PV.wt (υ v)<90000000000000/\qq1 S t (υ v)=ι)/\Vu (S,x,t,v)->(∃(p:Pub),True/\qd S x p/\η v p)->jzg t x S v):=by kernel_rfl
def zy1:=λS x t v=>Ν (zon S x t v) (by delta Ji Jt Jf FT JE jzn R4 fw jzm jzl jzk jzj jzi jzh jzg;exact rfl)
section
variable (d:List AT) (e:Int) (c:GV) (h:SV) (m:Int) (a:yd) (o:Prop) (i:Nat->Option Obj) (k l g:Nat) (f:(Option Addr×Nat×Nat)×Int)
 abbrev Nn:= !(decide (0<=f.2)&&decide (f.2<(↑f.1.2.1:Int)))
 def jzp:=0=size (kX d e (υ c)).2/\qgn i noA 0 0 (q18 (kX d e (υ c)).2)
 def FU:=∃(p:Unit),noA=noA/\(0:Nat)=0/\(0:Nat)=0/\(kX d e (υ c)).1=m/\Pl noA/\True/\(∀j,True/\qd d h j/\η c j->jzp d e c j)/\True
 def Nl:=a.2.1.1=h.1/\a.2.1.2.1=h.2.1/\a.2.1.2.2=h.2.2/\a.2.2.1=e/\τ a.2.2.2=τ c/\π a.2.2.2=π c/\(ζ a.2.2.2).1=(ζ c).1/\(ζ a.2.2.2).2.1=(ζ c).2.1/\(ζ a.2.2.2).2.2=(ζ c).2.2/\(θ a.2.2.2).1=(θ c).1/\(θ a.2.2.2).2.1=(θ c).2.1/\(θ a.2.2.2).2.2=(θ c).2.2/\ψ a.2.2.2=ψ c/\o
 abbrev Zb:=qqw a.1 a.2.2.1 (υ a.2.2.2)
 def Nm:=(True/\qd d h i/\η c i)/\True/\size (Zb a)<=k / 1/\qgm i (χ (Κ l g ρ)) (take (size (Zb a)*1) (q18 (Zb a)))
 def jzo:=size (Zb a)=size (kX d e (υ c)).2/\qgn i (χ (Κ k l ρ)) (size (Zb a)) (g / nat_lit 1) (q18 (kX d e (υ c)).2)
end
def zaw(S:List AT) (x:SV) (t:Int) (v:GV):qk2 P (qf5 [(30,KX),(40,H' False),(41,Cb)]) Tryz.f26 Ya (zei) ⟨S,x,t,v⟩=((small S/\QG S/\PV.sz (υ v)/\PV.wt (υ v)<90000000000000)/\Vu (S,x,t,v)->(∃(p:Pub),True/\qd S x p/\η v p)->∃(s:(Option Addr×Nat×Nat)×Int),s.1.1=x.1/\s.1.2.1=x.2.1/\s.1.2.2=x.2.2/\s.2=t/\True/\((Nn s)=ι->FU S t v x 1)/\((Nn s)=ς->∃(s:yd),Nl t v x s (((small s.1/\QG s.1/\qq5 (υ s.2.2.2))/\Np False s)/\(∀(p:Pub),True/\qd S x p/\η v p->qd s.1 s.2.1 p/\η s.2.2.2 p)/\((!PV.fits s.1 s.2.2.1 (υ s.2.2.2))=ι->FU S t v x 7)/\((!PV.fits s.1 s.2.2.1 (υ s.2.2.2))=ς->∃(s:yd),Nl t v x s (((small s.1/\PV.sz (υ s.2.2.2)/\PV.wt (υ s.2.2.2)<90000000000000/\qq1 s.1 s.2.2.1 (υ s.2.2.2)=ι)/\Vu s)/\(∀(p:Pub),True/\qd S x p/\η v p->qd s.1 s.2.1 p/\η s.2.2.2 p)/\Ji (5000<(↑(size (Zb s)):Int)) (FU S t v x 3) (∀(b s_1 u:Nat),(∃(p:Pub),Nm S v x s p u b s_1)->∃(h:Unit),χ (Κ b s_1 ρ)=χ (Κ b s_1 ρ)/\size (Zb s)=size (Zb s)/\u / nat_lit 1=u / nat_lit 1/\(kX S t (υ v)).1=0/\Pl (χ (Κ b s_1 ρ))/\True/\(∀(p:Pub),Nm S v x s p u b s_1->jzo S t v s p b s_1 u)/\True)))))):=by kernel_rfl
def zf5:=λS x t v=>Ν (zaw S x t v) (by delta Ji Jt Jf Nn jzp FU Nl Zb Nm jzo;exact rfl)
def zyr:q4p P 80 Au:=by
 refine qA js (W:=fH) Tryz.func80 λ⟨(n:Int),(k:Int)⟩=>(zyq n k).mpr ?_;rintro⟨⟨A,H⟩,u,O⟩;simp only[decide_eq_true_eq,decide_eq_false_iff_not,and_true,true_and];refine⟨⟨0,by simp,rfl,rfl,A⟩,λj T=>⟨λJ=>⟨by decide,?_⟩,λG=> ?_⟩⟩
 ·have e2:(2:Int) ^ (8*j)=((2 ^ (8*j):Nat):Int):=by norm_cast
  have e3:n / ((2 ^ (8*(j+1)):Nat):Int)=n / ((2 ^ (8*j):Nat):Int) / 256:=by rw[show 8*(j+1)=8*j+8 by omega,Nat.pow_add,Int.natCast_mul,Int.ediv_ediv_of_nonneg (qq8 _)];rfl
  have m0:0<=n / ((2 ^ (8*j):Nat):Int):=Int.ediv_nonneg u (qq8 _);have m1:n / ((2 ^ (8*j):Nat):Int)<=n:=Int.ediv_le_self _ u;have B:jE n (j+1)=jE n j++mkS [(n / ((2 ^ (8*j):Nat):Int) % 256).toNat]:=by rw[jE,e2]
  have C:=HG n j;generalize n / ((2 ^ (8*j):Nat):Int)=m at*;refine⟨mkS [(m % 256).toNat],rfl,λi w h=> ?_,?_,by decide,⟨by omega,by omega⟩,j+1,?_,B,by omega,by omega,by omega⟩
  ·rw[j8e _ (by omega)]at h;rw[qqt m0,Yu,Ρ,show m % 256 % 256=(((m % 256).toNat:Nat):Int)by omega];exact h
  ·rw[C];show j+1<=_;omega
  ·rw[e3,Int.tdiv_eq_ediv_of_nonneg m0,wrap_u64];omega
 ·obtain rfl:j=k.toNat:=by omega
  rfl
def Qm(S:List AT) (a:AT) (v:GV):Ck:=
 if a.k=2 then jE v.n 1 else
 if a.k=3\/a.k=4\/a.k=10 then vz (Δ .i64 v.n)else
 if a.k=5 then jE v.n 4 else
 if a.k=6 then jE v.n 8 else
 if a.k=7\/a.k=8 then vz v.s.size++v.s else
 if a.k=11 then v.s else
 if a.k=14 then vz v.b++PV.fbL S (qG a v.b) v.ks 0 (ε v.l)else
 if a.k=9 then PV.fbL S (qG a v.b) v.ks 0 (ε v.l)else
 if a.k=12\/a.k=13 then R' v.l.length++PV.fbL S (qG a v.b) v.ks 0 (ε v.l)++vz 0 else mkS []
def jj8{S:List AT} {t:Int} {a:AT} {v:GV} (hs:S[t.toNat]? =χ a):qqw S t v.pv=Qm S a v:=by rw[qqb,qqw,hs,ξ];rfl
def zy2:q4p P 41 Cb:=by
 refine qA (qcl (qgj zyr (qgj zdr qjq))) (W:=CX) Tryz.func41 λ⟨S,(x:SV),(t:Int),v⟩=>(zy1 S x t v).mpr ?_;rintro⟨⟨hS,hv,hw,u⟩,B⟩ ⟨p,_,hx,A⟩;have B:qp (qe S t).k=ς/\1<=(qe S t).k/\(qe S t).k<=14:=B;have xs:x.2.1=S.length:=hx.1.1;have xl:=GV.x_len A;have yl:=GV.y_len A;have wl:=GV.wt_len v;have hs1:=GV.ss_s hv;have hvs:=hv.1;rw[qzg]at hvs;obtain⟨V,hss,vl,kl,ksz,_⟩:=hvs;obtain⟨t0,t1⟩:=Pb u;have hsz:=zi4 v.pv t hv hw u hS;obtain⟨j,rfl⟩:=Λ t0;have U:j<S.length:=by omega
 rw[kB U]at B;obtain⟨O,hk1,hk14⟩:=B;unfold qp at O;have O:=of_decide_eq_false O;have hsj:S[((j:Nat):Int).toNat]? =χ S[j]:=by rw[γ,ν U]
 have Z:=λq (hq:qd S x q/\v.ok q)=>y_ hq.1 U;have Y:=λq (hq:qd S x q/\v.ok q)=>hq.1.2 S[j] (δ U);have hsm:=hS.2 S[j] (δ U);have hqq:=j95 (v:=v) hsj u;have H:=λ(r:Ck) (h:Qm S S[j] v=r)=>(jj8 (v:=v) hsj).trans h;have bl:S[j].br.2.1=S[j].brs.length:=(Y p ⟨hx,A⟩).2.2.2.1.1;have fl:S[j].f.2.1=S[j].fs.length:=(Y p ⟨hx,A⟩).2.2.1.1;simp only[qB,γ,exists_const,xl,yl,kB U];refine⟨⟨by omega,by omega⟩,(Z p ⟨hx,A⟩).1,S[j].k,S[j].nm,S[j].al.1,S[j].al.2.1,S[j].al.2.2,S[j].it,S[j].sy.1,S[j].sy.2.1,S[j].sy.2.2,S[j].hd,S[j].df,S[j].sz,S[j].f.1,S[j].f.2.1,S[j].f.2.2,S[j].br.1,S[j].br.2.1,S[j].br.2.2,λq hq=>(Z q hq).2,?_⟩;generalize S[j]=a at*;generalize qqw S (j:Int) v.pv=F at*;refine⟨λC=> ?_,λC=>⟨⟨λh=>by unfold u7;exact j6 (by omega),λh3=>⟨λh=>by unfold u7;exact j6 (by omega),λh4=>by unfold u7;exact j6 (by omega)⟩⟩,?_⟩⟩
 ·exact⟨⟨v.n,1⟩,rfl,rfl,⟨⟨(by decide:(0:Int)<=1),(by decide:(1:Int)<=8)⟩,V.1,V.2⟩,H _ (by unfold Qm;rw[if_pos C];rfl)⟩
 intro _ _;refine⟨λhL=> ?_,λhL=> ?_⟩
 ·unfold u7 at hL;rw[decide_eq_true_eq]at hL;exact⟨_,rfl,z32 v.n,H _ (by unfold Qm;rw[if_neg C,if_pos hL];rfl)⟩
 unfold u7 at hL;rw[decide_eq_false_iff_not]at hL;refine⟨λT=> ?_,λT=>⟨λX=> ?_,λX=>⟨⟨λh=>by unfold Q7;exact j6 (by omega),λh=>by unfold Q7;exact j6 (by omega)⟩,?_⟩⟩⟩
 ·exact⟨⟨v.n,4⟩,rfl,rfl,⟨⟨(by decide:(0:Int)<=4),(by decide:(4:Int)<=8)⟩,V.1,V.2⟩,H _ (by unfold Qm;rw[if_neg C,if_neg hL,if_pos T];rfl)⟩
 ·exact⟨⟨v.n,8⟩,rfl,rfl,⟨⟨(by decide:(0:Int)<=8),(by decide:(8:Int)<=8)⟩,V.1,V.2⟩,H _ (by unfold Qm;rw[if_neg C,if_neg hL,if_neg T,if_pos X];rfl)⟩
 intro _ _;refine⟨λG=> ?_,λG=> ?_⟩
 ·unfold Q7 at G;rw[decide_eq_true_eq]at G;have hz:=yK (v.s.size:Int) (by omega) (by omega);refine⟨_,rfl,⟨by omega,by omega⟩,?_,H _ (by unfold Qm;rw[if_neg C,if_neg hL,if_neg T,if_neg X,if_pos G];rfl)⟩;show(vz (v.s.size:Int)).size+v.s.size<=_;omega
 unfold Q7 at G;rw[decide_eq_false_iff_not]at G;refine⟨λJ=> ?_,λJ=> ?_⟩
 ·exact H _ (by unfold Qm;rw[if_neg C,if_neg hL,if_neg T,if_neg X,if_neg G,if_pos J])
 refine⟨⟨(decide_eq_false (by omega)).symm,by omega⟩,λ_ _=>H _ (by unfold Qm;rw[if_neg C,if_neg hL,if_neg T,if_neg X,if_neg G,if_neg J,if_neg (by omega),if_neg (by omega),if_neg (by omega)])⟩
def zf6:q4p P 26 Ya:=by
 refine qA (qcl (qgj Ut (qgj zi6 (qgj zy2 qjq)))) (W:=zei) Tryz.func26 λ⟨S,(x:SV),(t:Int),v⟩=>(zf5 S x t v).mpr ?_;rintro⟨⟨hS,J,H,hw⟩,A⟩ ⟨p,_,hx,O⟩;have A:qp (qe S t).k=ς/\1<=(qe S t).k/\(qe S t).k<=14:=A;have xs:x.2.1=S.length:=hx.1.1;have nil:∀q,qgn q noA 0 0 (q18 (mkS [])):=λq=>⟨Α _, .inl ⟨rfl,Yg⟩⟩;simp only[qB,γ,exists_const];refine⟨⟨x,t⟩,rfl,rfl,rfl,rfl,λh=> ?_,λh=>⟨⟨S,x,t,v⟩,?_⟩⟩
 ·have:kX S t v.pv=(1,mkS []):=by unfold kX;simp only[qqe,decide_eq_false_iff_not]at h;rw[if_pos (by omega)]
  rw[this];exact⟨rfl,Yg,λq _=>⟨rfl,nil q⟩⟩
 simp only[φ,decide_eq_true_eq]at h;have hr:¬(t<0\/S.length<=t):=by omega
 simp only[true_and,eq_self];refine⟨⟨⟨hS,J,H.1⟩,λg=>(by rw[A.1]at g;cases g)⟩,λq hq=>hq,λG=> ?_,λG=>⟨⟨S,x,t,v⟩,?_⟩⟩
 ·have:kX S t v.pv=(7,mkS []):=by unfold kX;rw[if_neg hr,if_pos G]
  rw[this];exact⟨rfl,Yg,λq _=>⟨rfl,nil q⟩⟩
 have B:=zi3 hr G;simp only[true_and,eq_self];refine⟨⟨⟨hS,H,hw,G⟩,A⟩,λq hq=>hq,λhe=> ?_,λhe=> ?_⟩
 ·rw[B,if_neg (by omega)];exact⟨rfl,Yg,λq _=>⟨rfl,nil q⟩⟩
 ·rw[B,if_pos (by omega)];rintro b s u ⟨q,hq,T,C⟩;refine⟨rfl,rowP_Pl C,λr hr=>⟨rfl,?_⟩⟩;have:=hr.2.2;rw[qqo,←q2t,qqc]at this;exact⟨hr.2.1,this⟩
def Z9(b:Int):List Value:=[.int .u16 b]
def j0c(b:Int):(Z9 b).length=1:=rfl
abbrev LmS:=SV×List Int×SV×List Int×SV×List Int×SV×List Int×SV×List Int
def lmM(x:SV) (L:List Int) (y:SV) (M:List Int) (z:SV) (N:List Int) (a:SV) (A:List Int) (w:SV) (T:List Int):PF:=⟨ι,λp=>qc qj x L p/\qc qj y M p/\qc qj z N p/\qc Z9 a A p/\qc qj w T p,λ_ _ h e=>⟨ji h e.1,ji h e.2.1,ji h e.2.2.1,ji h e.2.2.2.1,ji h e.2.2.2.2⟩⟩
def zve:Ct:=Zg LmS (λ⟨x,L,y,M,z,N,a,A,w,T⟩=>[zI x,zI y,zI z,zI a,zI w]) (λ⟨x,L,y,M,z,N,a,A,w,T⟩=>ZN L/\ZN M/\ZN N/\(A.length<9223372036854775808/\∀b∈A,0<=b/\b<65536)/\ZN T) (λ⟨x,L,y,M,z,N,a,A,w,T⟩=>lmM x L y M z N a A w T) λ_=> .sv (.bool ι)
def zwg:LmS->WayF:=λ⟨x,L,y,M,z,N,a,A,w,T⟩=>{
 pub:=λi k=>match i,k with
  |16,2=>[93]
  |_,_=>[]
 spl:=λi=>match i with
  |8=>χ 3
  |11=>χ 4
  |_=>ρ
 flo:=λi=>match i with
  |8=>χ (7,[3])
  |_=>ρ
 ann:=λ_ t _=>match t.get 15 with
  |some (.msl r n e)=>χ {σ:=Nat×List Int,pre:=λ⟨j,B⟩=>j<=A.length/\B.length=n/\∀b∈B,0<=b/\b<256,t:=λ⟨j,B⟩=>[(16, .sv (.int .i64 (j:Nat)))],h:=λ⟨j,B⟩=>[(r, .row 5 0 (qa qj B))],more:=0,μ:=λ⟨j,B⟩=>A.length- j,keep:=[3,4,11,15]}
  |_=>ρ}
section
variable (i:jd) (e:SV) (g:List AT×(Option Addr×Nat×Nat)×Bool×Int) (l:SV) (m:List Int) (o:SV) (p q:List Int) (r:SV) (k:List Int) (c:SV) (d:List Int) (f:Ck×Int) (h:Nat×List Int) (u:Nat->Option Obj) (A:Prop) (B:Option Addr×Nat×Nat) (z:wz) (D:Int) (E F G:Nat)
 abbrev YW:=True/\qc qj e m u/\qc qj l p u/\qc qj o q u/\qc Z9 r k u/\qc qj c d u
 abbrev u0:=(↑e.2.1:Int)
 def XM:=(Jt (D<(u0 e))->ι=ι/\True)
 def An:=B.1=e.1/\B.2.1=e.2.1/\B.2.2=e.2.2/\True/\A
 abbrev Ar:=slice g.2.1.1 g.2.1.2.1 g.2.1.2.2
 def Ak:=An e (AV.agg [AV.sv (Ar g)]=AV.agg [AV.sv (Ar g)]/\A) B
 def z91:=((YW e l m o p q r k c d u)/\qd g.1 g.2.1 u)/\η i.1 u
 abbrev Ao:=slice (ζ i.1).1 (ζ i.1).2.1 (ζ i.1).2.2
 abbrev Ap:=slice (θ i.1).1 (θ i.1).2.1 (θ i.1).2.2
 def XL:=e.1=e.1/\e.2.1=e.2.1/\e.2.2=e.2.2/\A
 def Am:=h.1<=length m/\length h.2=size f.1/\∀(j:Int),j∈h.2->0<=j/\j<256
 def Al:=g.2.1.1=g.2.1.1/\g.2.1.2.1=g.2.1.2.1/\g.2.1.2.2=g.2.1.2.2/\(∀j,z91 i e g l m o p q r k c d j->z91 i e g l m o p q r k c d j)/\(Am k f h)/\A
 abbrev Z3:=(↑(size f.1):Int)
 def fy:=(0<=(↑h.1:Int)/\(↑h.1:Int)<(u0 e))/\e.1≠noA/\∃(j:Int),(∀a,z91 i l g o m r p q e k c d a->q37 a (adr e.1 (toNat (↑h.1:Int)*1)) [int IntKind.u16 j])/\Jb (j)/\(Z3 f)≠0/\(0<=(↑h.1:Int)/\(↑h.1:Int)<(u0 c))/\c.1≠noA/\∃(v:Int),(∀t,z91 i l g o m r p q e k c d t->q37 t (adr c.1 (toNat (↑h.1:Int)*1)) [int u8 v])/\(0<=qqs j (Z3 f)/\qqs j (Z3 f)<(Z3 f))/\(0:Nat)+toNat (qqs j (Z3 f))*nat_lit 1+length [int u8 v]<=length (qa qj h.2)/\Jb ((↑h.1:Int)+1)/\∃(w:Nat×List Int),XL e (size f.1=size f.1/\XL c ((↑w.1:Int)=(↑h.1:Int)+1/\qa qj w.2=spl (qa qj h.2) ((0:Nat)+toNat (qqs j (Z3 f))*nat_lit 1) [int u8 v]/\Al i l g o m r p q e k c d f w (length k- w.1<length k- h.1/\True)))
 def Aq:=True/\size f.1<=E / nat_lit 1/\qgm u (χ (Κ F G ρ)) (take (size f.1*nat_lit 1) (qa qj h.2))
 def fA:=qd z.1 z.2.1 u/\z.2.2.2.1.2.1=size z.2.2.2.2/\qgn u z.2.2.2.1.1 z.2.2.2.1.2.1 z.2.2.2.1.2.2 (q18 z.2.2.2.2)
 def Aj:=∀(j a v:Nat),(∃t,(z91 i e g l m o p q r k c d t)/\Aq f h t v j a)->∃(w:wz),w.2.1.1=g.2.1.1/\w.2.1.2.1=g.2.1.2.1/\w.2.1.2.2=g.2.1.2.2/\w.2.2.1=0/\w.2.2.2.1.1=χ (Κ j a ρ)/\w.2.2.2.1.2.1=size f.1/\w.2.2.2.1.2.2=v / nat_lit 1/\(zp w.1/\size w.2.2.2.2<100000000000000000)/\(∀C,(z91 i e g l m o p q r k c d C)/\Aq f h C v j a->fA C w)/\ι=ι/\True
 def jzy:=Ji (0<(Z3 f)) (fy i e g l m o p q r k c d f h) (Aj i l g o m r p q e k c d f h)
 def jzs:=Ji ((↑h.1:Int)<(u0 e)) (jzy i e g l m o p q r k c d f h) (Aj i l g o m r p q e k c d f h)
 def jzr:=(∃(j:Nat×List Int),XL e (size f.1=size f.1/\XL l ((↑j.1:Int)=0/\qa qj j.2=q18 f.1/\Al i o g r m c p q e k l d f j True)))/\∀(t:Nat×List Int),(Am k f t)->jzs i e g o m r p q c k l d f t
 def jzq:=((!i.2.1)=ι->ι=ι/\True)/\((!i.2.1)=ς->∃(j:Option Addr×Nat×Nat),Ak e g (AV.agg [AV.sv (int u64 (τ i.1)),AV.sv (string (π i.1)),AV.sv (Ao i),AV.sv (Ap i),AV.sv (int i64 (ψ i.1))]=AV.agg [AV.sv (int u64 (τ i.1)),AV.sv (string (π i.1)),AV.sv (Ao i),AV.sv (Ap i),AV.sv (int i64 (ψ i.1))]/\∃(a:uq),a.2.1.1=g.2.1.1/\a.2.1.2.1=g.2.1.2.1/\a.2.1.2.2=g.2.1.2.2/\a.2.2.1=0/\τ a.2.2.2.1=τ i.1/\π a.2.2.2.1=π i.1/\(ζ a.2.2.2.1).1=(ζ i.1).1/\(ζ a.2.2.2.1).2.1=(ζ i.1).2.1/\(ζ a.2.2.2.1).2.2=(ζ i.1).2.2/\(θ a.2.2.2.1).1=(θ i.1).1/\(θ a.2.2.2.1).2.1=(θ i.1).2.1/\(θ a.2.2.2.1).2.2=(θ i.1).2.2/\ψ a.2.2.2.1=ψ i.1/\a.2.2.2.2.1.1=j.1/\a.2.2.2.2.1.2.1=j.2.1/\a.2.2.2.2.1.2.2=j.2.2/\a.2.2.2.2.2.2=0/\Yn a/\(∀v,z91 i l g o m e p q r k c d v->(qd a.1 a.2.1 v/\η a.2.2.2.1 v)/\qc qj a.2.2.2.2.1 a.2.2.2.2.2.1 v)/\∀(t:Ck×Int),xQ a t->jzr i r g c m l p q o k e d t) j)
 def Ai:=∃(j:Option Addr×Nat×Nat),Ak e g (∃(a:xh),a.2.1.1=g.2.1.1/\a.2.1.2.1=g.2.1.2.1/\a.2.1.2.2=g.2.1.2.2/\a.2.2.1=0/\a.2.2.2.1=0/\a.2.2.2.2.1.1=j.1/\a.2.2.2.2.1.2.1=j.2.1/\a.2.2.2.2.1.2.2=j.2.2/\a.2.2.2.2.2.2=0/\(qx a.1/\(0<=a.2.2.1/\a.2.2.1<(↑(length a.1):Int))/\uj (qe a.1 a.2.2.1)/\(0<=a.2.2.2.1/\a.2.2.2.1<=6)/\0<=a.2.2.2.2.2.2/\a.2.2.2.2.2.2<=(↑(length a.2.2.2.2.2.1):Int)/\z8 a.2.2.2.2.2.1)/\(∀v,(YW l e m o p q r k c d v)/\qd g.1 g.2.1 v->qd a.1 a.2.1 v/\qc qj a.2.2.2.2.1 a.2.2.2.2.2.1 v)/\∀(t:jd),zy a.1 a.2.2.1 a.2.2.2.1 a.2.2.2.2.2.1 a.2.2.2.2.2.2 t.1 t.2.1 t.2.2->(∃w,z91 t l g e m o p q r k c d w)->jzq t o g l m e p q r k c d) j
 def fx:=(Ai e g l m o p q r k c d)/\Ai e g l m o p q r k c d
 def jzz:=((!g.2.2.1)=ι->ι=ι/\True)/\((!g.2.2.1)=ς->fx e g l m o p q r k c d)
 def jzx:=Ji ((u0 e)<(u0 l)) (ι=ι/\True) (∃(j:Option Addr×Nat×Nat),An o (∃(a:K9),a.1.1=j.1/\a.1.2.1=j.2.1/\a.1.2.2=j.2.2/\a.2.2=0/\Yt a/\(∀v,YW o r m c p q l k e d v->qc qj a.1 a.2.1 v)/\∀(t:List AT×(Option Addr×Nat×Nat)×Bool×Int),qx t.1/\(t.2.2.1=ι->t.1≠[])/\a.2.2<=t.2.2.2/\t.2.2.2<=(↑(length a.2.1):Int)->(∃w,(YW o r m c p q l k e d w)/\qd t.1 t.2.1 w)->jzz r t o m c p q l k e d) j)
 def jzw:=XM e 3/\(Jf (3<(u0 e))->jzx l e m o p q r k c d)
 def jzv:=XM e 20/\(Jf (20<(u0 e))->jzw l o m r p q c k e d)
 def jzu:=XM e 60/\(Jf (60<(u0 e))->jzv l o m r p q c k e d)
 def jzt:=XM e 120/\(Jf (120<(u0 e))->jzu l o m r p q c k e d)
end
def ziu(x:SV) (L:List Int) (y:SV) (M:List Int) (z:SV) (N:List Int) (a:SV) (A:List Int) (w:SV) (T:List Int):qk4 P (qf5 [(7,HB),(8,Ta),(12,PQ)]) (qg7 [(9,P_),(10,wa uj),(11,Jh)]) Tryz.f3 zve (zwg) ⟨x,L,y,M,z,N,a,A,w,T⟩=(ZN L/\ZN M/\ZN N/\(length A<9223372036854775808/\∀(b:Int),b∈A->0<=b/\b<65536)/\ZN T->(∃(p:Pub),YW x y L z M N a A w T p)->∃(s:Unit),True/\((!true)=ι->ι=ς/\True)/\((!true)=ς->jzt x y L z M N a A w T)):=by kernel_rfl
def zpj:=λx L y M z N a A w T=>Ν (ziu x L y M z N a A w T) (by delta Ji Jb Jt Jf YW u0 XM An Ar Ak z91 Ao Ap XL Am Al Z3 fy Aq fA Aj jzy jzs jzr jzq Ai fx jzz jzx jzw jzv jzu jzt;exact rfl)
section
 open Go.ChangeShapes Go.WideShapes Go.ChangeAt Go.Joins Go.Deep
abbrev Wf(w:World):Pub:=q11 (λ_ b=>b<w.heap.size) w
variable {w:World} {a:Addr}
def HE{v:Value} (h:w.cell? a=χ v):q5n (Wf w) a=χ v/\a.spot=none:=by
  unfold World.cell? at h;cases u:w.heap[a.block]? with
  |none=>rw[u]at h;cases h
  | some o=>
    have A:a.block<w.heap.size:=(Array.getElem?_eq_some_iff.1 u).1;have hp:Wf w a.block=χ o:=q03.2 ⟨A,u⟩;rw[u]at h;unfold q5n;rw[hp];cases o<;>simp only at h<;>first|cases h|skip
    cases hs:a.spot with
    |none=>rw[hs]at h;simp[qah,hs]at h⊢;exact h
    |some k=>rw[hs]at h;simp at h
def zf0{p:Pub} {x y:List Value} (u:q37 p a x) (A:q37 p (a.add x.length) y):q37 p a (x++y):=λj v h=>by
 by_cases hx:j<x.length
 ·rw[List.getElem?_append_left hx]at h;exact u j v h
 ·rw[List.getElem?_append_right (by omega)]at h;have:=A _ v h;rw[Ψ,show x.length+(j- x.length)=j by omega]at this;exact this
def O9{α:Type} {f:α->List Value} {p:Pub} {k:Nat}:∀(l:List α) (a:Addr),(∀g∈l,(f g).length=k)->(∀(i:Nat) (h:i<l.length),q37 p (a.add (i*k)) (f l[i]))->q37 p a (qa f l)
  | [],a,_,_=>λj v C=>by simp[qa]at C
  | g::l,a,A,h=>by have u:=h 0 (by simp);have e:a.add (0*k)=a:=(by unfold Ο;rw[if_pos (by omega)]);rw[e]at u;show q37 p a (f g++qa f l);refine zf0 u ?_;rw[A g qq6];refine O9 l (a.add k) (λg B=>A g (qq2 _ B)) λi hi=> ?_;have:=h (i+1) (by simp;omega);rw[Ψ,show k+i*k=(i+1)*k by rw[Nat.succ_mul];omega];simpa using this
def zyk{f:Nat} {C:Ct} (h:q4p P f C) (s:C.σ) (vs:List Value) (O:∀I,VRs I (C.args s) vs) (U:C.h s=[]) (r:Value) (hr:C.r s= .sv r) (w:World) (hp:C.pre s) (hm:(C.mem s).ok (Wf w)):
  Calls P f ⟨vs⟩ w λe B=>e= .returned r/\Below w.heap.size w B:=by
 obtain⟨h1,h2,_,H⟩:=h;obtain⟨Z,G,e1,e2,J⟩:=H s;rw[U]at e1;cases e1;refine(J (λ_ b=>b<w.heap.size) (λi=>if i=0 then χ (0,0,0)else ρ) w vs (O _) ⟨λid o b t h=> ?_,λid X o o' b t t' h=> ?_,λid o b t h=> ?_⟩ (λ_ h=>h) (λ_ h=>h) hp hm (λi hi=>if_neg (by omega)) (if_pos rfl)).mono λe B he=> ?_
 ·rw[T.get_e]at h;cases h
 ·rw[T.get_e]at h;cases h
 ·rw[T.get_e]at h;cases h
 obtain⟨z,Y,rfl,A,u,_⟩:=he;rw[hr]at A;cases A;exact⟨rfl,⟨u.same.1,u.same.2,u.same.3,u.size,λk V=>u.fr k V⟩⟩
def UA(w:World) (a:Option Addr) (len cap:Nat) (z:List Int):Prop:=(a=ρ/\len=0/\cap=0/\z=[])\/∃x,a=χ x/\len<=cap/\cap<=maxLen/\z.length=cap/\(∀i,i<z.length->w.cell? (x.add i)=χ (.int .u8 (z.getD i 0)))/\∀n∈z,(Lit.int .u8 n).wf=ι
def Lu{a:Option Addr} {len cap:Nat} {z:List Int} (h:UA w a len cap z):∃L:List Int,qc qj (a,len,cap) L (Wf w)/\L.length<9223372036854775808/\∀b∈L,0<=b/\b<256:=by
  rcases h with⟨rfl,rfl,rfl,rfl⟩|⟨x,rfl,T,hm,X,O,hw⟩
  · exact⟨[],⟨rfl,Α _, .inl ⟨rfl,trivial⟩⟩,by simp,λb G=>by cases G⟩
  have hlen:(z.take len).length=len:=by rw[qza];omega
  have u:∀(i:Nat) (hi:i<(z.take len).length),w.cell? (x.add i)=χ (.int .u8 (z.take len)[i]):=λi hi=>by have A:i<z.length:=(by omega);have:=O i A;rw[Η,ν A]at this;simpa using this
  refine⟨z.take len,⟨hlen.symm,T,?_⟩,by unfold maxLen at hm;omega,λb G=> ?_⟩
  · by_cases H:z.take len=[]
    · rw[H];exact .inl ⟨rfl,trivial⟩
    · have C:0<(z.take len).length:=List.length_pos_iff.2 H;have e0:x.add 0=x:=(by unfold Ο;rw[if_pos rfl]);have B:=HE (u 0 C);rw[e0]at B;refine .inr ⟨x,rfl,B.2,O9 (k:=1) _ x (λg _=>rfl) λi hi j v J=> ?_⟩;cases j with
      |succ j=>simp[qj]at J
      | zero=>
        have:=(HE (u i hi)).1;rw[Ψ,show i*1+0=i by omega,this,←J];rfl
  · have hw:=hw b (qq3 G);simp only[Lit.wf,φ,decide_eq_true_eq]at hw;have U:qzc .u8=0:=(by decide);have V:qzd .u8=255:=(by decide);omega
end
def CA:∀{L:List Int},(∀b∈L,0<=b/\b<256)->qa qj L=q18 (mkS (L.map qzb))/\(mkS (L.map qzb)).size=L.length
  | [],_=>⟨rfl,rfl⟩
  | b::l,h=>by obtain⟨i1,i2⟩:=CA (L:=l) λx hx=>h x (qq2 _ hx);obtain⟨u,A⟩:=h b qq6;refine⟨?_,by rw[q0v];simp⟩;rw[qa,i1];unfold q18 mkS qj;simp;omega
def zxc(r:Ck):∃B:List Int,qa qj B=q18 r/\B.length=r.size/\∀b∈B,0<=b/\b<256:=by
 refine⟨r.data.toList.map λb=>(b.toNat:Int),?_,by simp,λb h=> ?_⟩
 ·unfold q18;induction r.data.toList with
  |nil=>rfl
  |cons a l u=>rw[qze,qa,u];rfl
 ·obtain⟨c,_,rfl⟩:=List.mem_map.1 h;have:=c.toNat_lt;show(0:Int)<=(c.toNat:Int)/\(c.toNat:Int)<256;omega
def zpk:q4p P 3 zve:=by
 refine As (qcl (qgj zeu (qgj zpx (qgj zo1 qjq)))) (qdd (qgi zxa (qgi zo9 (qgi (j8j zf6) qjp)))) (W:=zwg) Tryz.func3 λ⟨(x:SV),L,(y:SV),M,(z:SV),N,(a:SV),A,(w:SV),T⟩=>(zpj x L y M z N a A w T).mpr ?_;rintro⟨⟨hL,hLb⟩,⟨hM,hMb⟩,⟨hN,hNb⟩,⟨hA,hAb⟩,⟨hT,hTb⟩⟩ ⟨p,_,hx,hy,hz,ha,hw⟩;have Y:x.2.1=L.length:=hx.1;have Z:y.2.1=M.length:=hy.1;have hzl:z.2.1=N.length:=hz.1;have hal:a.2.1=A.length:=ha.1;have hwl:w.2.1=T.length:=hw.1;simp only[qB,exists_const,forall_const,γ,Y,Z,hzl,hal,hwl]
 refineλh120 h60 h20 h3 hT3=>⟨x,rfl,Y,rfl,⟨x,L,0⟩,rfl,rfl,rfl,rfl,⟨by show(0:Int)<=0;decide,by show(0:Int)<=_;omega,by omega,hLb⟩,λq hq=>hq.1,?_⟩
 rintro⟨S,H,b,n'⟩ ⟨hS,hne, -, -⟩ ⟨p2,hp2,hz2⟩
 refineλhb=>⟨?xa,?xb⟩
 case xa|xb=>
  have hS0:0<S.length:=List.length_pos_iff.2 (hne hb);refine⟨y,rfl,Z,rfl,⟨S,H,0,0,y,M,0⟩,rfl,rfl,rfl,rfl,rfl,rfl,rfl,rfl,rfl,⟨hS,⟨by show(0:Int)<=0;decide,by show(0:Int)<(S.length:Int);omega⟩,trivial,⟨by show(0:Int)<=0;decide,by show(0:Int)<=6;decide⟩,by show(0:Int)<=0;decide,by show(0:Int)<=(M.length:Int);omega,by show M.length<1000000;omega,hMb⟩,λq hq=>⟨hq.2,hq.1.2.1⟩,?_⟩;rintro⟨v,b2,n2⟩ hv ⟨p3,⟨hp3,_⟩,_⟩;have hv:zy S 0 0 M 0 v b2 n2:=hv;obtain⟨v1,v2,v3,v4,v5⟩:=hv;simp only;intro hb2;have v5:=v5 hb2;have hw0:ka 0=15728640000:=by decide
  have X:=zy6 hS;refine⟨z,rfl,hzl,rfl,⟨S,H,0,v,z,N,0⟩,rfl,rfl,rfl,rfl,rfl,rfl,rfl,rfl,rfl,rfl,rfl,rfl,rfl,rfl,rfl,rfl,rfl,⟨X,v5.1,v5.2,v3,by show v.pv.wt<_;omega,by show(0:Int)<=0;decide,by show(0:Int)<=(N.length:Int);omega,by show N.length<1000000;omega,hNb⟩,λq hq=>⟨⟨hq.1.2,hq.2⟩,hq.1.1.2.2.1⟩,?_⟩;rintro⟨r,n3⟩ ⟨_,r2,_,_⟩;have r2:r.size+20<=400*v.pv.wt:=r2;obtain⟨B0,e0,l0,b0⟩:=zxc r;refine⟨⟨⟨0,B0⟩,rfl,e0,Θ _,l0,b0⟩,?_⟩;rintro⟨j,B⟩ ⟨hj,C,J⟩;simp only at hj C J⊢;have G:∀(O s4 u:Nat),(∃p,((((qc qj x L p/\qc qj y M p/\qc qj z N p/\qc Z9 a A p/\qc qj w T p)/\qd S H p)/\v.ok p)/\r.size<=u / 1/\qgm p (χ ⟨O,s4,ρ⟩) (qqn (r.size*1) (qa qj B))))->∃s:wz,s.2.1.1=H.1/\s.2.1.2.1=H.2.1/\s.2.1.2.2=H.2.2/\s.2.2.1=0/\s.2.2.2.1.1=χ ⟨O,s4,ρ⟩/\s.2.2.2.1.2.1=r.size/\s.2.2.2.1.2.2=u / 1/\(zp s.1/\s.2.2.2.2.size<100000000000000000)/\∀p,(((qc qj x L p/\qc qj y M p/\qc qj z N p/\qc Z9 a A p/\qc qj w T p)/\qd S H p)/\v.ok p)/\r.size<=u / 1/\qgm p (χ ⟨O,s4,ρ⟩) (qqn (r.size*1) (qa qj B))->qd s.1 s.2.1 p/\s.2.2.2.1.2.1=s.2.2.2.2.size/\qgn p s.2.2.2.1.1 s.2.2.2.1.2.1 s.2.2.2.1.2.2 (q18 s.2.2.2.2):=λO s4 u _=>by obtain⟨e1,e2⟩:=CA J;have hl:(qa qj B).length=r.size*1:=(by rw[qv Uu,C]);refine⟨⟨S,H,0,(χ ⟨O,s4,ρ⟩,r.size,u / 1),mkS (B.map qzb)⟩,rfl,rfl,rfl,rfl,rfl,rfl,rfl,⟨X,by show(mkS _).size<_;rw[e2,C];omega⟩,λq hq=>⟨hq.1.1.2,by show r.size=_;rw[e2,C],hq.2.1,?_⟩⟩;have h3:=hq.2.2;rw[Ζ (by rw[hl];exact Α _),e1]at h3;exact h3
  refine⟨λhlt=>⟨λhn=> ?_,λ_=>G⟩,λ_=>G⟩;have U:j<A.length:=by omega
  have V:j<T.length:=by omega
  obtain⟨a0,a1⟩:=hAb _ (δ U);obtain⟨t0,t1⟩:=hTb _ (δ V);have ca:=λq (hq:qc Z9 a A q)=>jX j0c (by decide) hq U;have ct:=λq (hq:qc qj w T q)=>jX Uu (by decide) hq V;have hm:=qqt (b:=(r.size:Int)) a0;have m0:=Int.emod_nonneg A[j] (show(r.size:Int)≠0 by omega);have m1:=Int.emod_lt_of_pos A[j] (show(0:Int)<r.size by omega);obtain⟨k,hk⟩:=Λ m0;rw[hk]at hm m1;have hkB:k<B.length:=by omega
  refine⟨⟨by omega,by omega⟩,(ca p ha).1,A[j],λq hq=>(ca q hq.1.1.2.2.2.1).2,⟨by omega,by omega⟩,by omega,⟨by omega,by omega⟩,(ct p hw).1,T[j],λq hq=>(ct q hq.1.1.2.2.2.2).2,by rw[hm];omega,by rw[hm,qv Uu];show 0+k*1+1<=_;omega,⟨by omega,by omega⟩,⟨j+1,B.set k T[j]⟩,by show((j+1:Nat):Int)=_;omega,by rw[hm];exact HI Uu B k hkB T[j],⟨by show j+1<=_;omega,by show(B.set k T[j]).length=_;rw[qqp];exact C,λb hb=> ?_⟩,by show A.length- (j+1)<A.length- j;omega⟩;rcases List.mem_or_eq_of_mem_set hb with h|h
  ·exact J b h
  ·rw[h];exact⟨t0,t1⟩
def Cv(w:World) (a:Option Addr) (len cap:Nat) (h:List Int):Prop:=(a=ρ/\len=0/\cap=0/\h=[])\/∃x,a=χ x/\len<=cap/\cap<=maxLen/\h.length=cap/\(∀i,i<h.length->w.cell? (x.add i)=χ (.int .u16 (h.getD i 0)))/\∀n∈h,(Lit.int .u16 n).wf=ι
def zqm{w:World} {a:Option Addr} {len cap:Nat} {z:List Int} (h:Cv w a len cap z):∃L:List Int,qc Z9 (a,len,cap) L (Wf w)/\L.length<9223372036854775808/\∀b∈L,0<=b/\b<65536:=by
  rcases h with⟨rfl,rfl,rfl,rfl⟩|⟨x,rfl,T,hm,X,O,hw⟩
  · exact⟨[],⟨rfl,Α _, .inl ⟨rfl,trivial⟩⟩,by simp,λb G=>by cases G⟩
  have hlen:(z.take len).length=len:=by rw[qza];omega
  have u:∀(i:Nat) (hi:i<(z.take len).length),w.cell? (x.add i)=χ (.int .u16 (z.take len)[i]):=λi hi=>by have A:i<z.length:=(by omega);have:=O i A;rw[Η,ν A]at this;simpa using this
  refine⟨z.take len,⟨hlen.symm,T,?_⟩,by unfold maxLen at hm;omega,λb G=> ?_⟩
  · by_cases H:z.take len=[]
    · rw[H];exact .inl ⟨rfl,trivial⟩
    · have C:0<(z.take len).length:=List.length_pos_iff.2 H;have e0:x.add 0=x:=(by unfold Ο;rw[if_pos rfl]);have B:=HE (u 0 C);rw[e0]at B;refine .inr ⟨x,rfl,B.2,O9 (k:=1) _ x (λg _=>rfl) λi hi j v J=> ?_⟩;cases j with
      |succ j=>simp[Z9]at J
      | zero=>
        have:=(HE (u i hi)).1;rw[Ψ,show i*1+0=i by omega,this,←J];rfl
  · have hw:=hw b (qq3 G);simp only[Lit.wf,φ,decide_eq_true_eq]at hw;have U:qzc .u16=0:=(by decide);have V:qzd .u16=65535:=(by decide);omega
def adecMade_law_wf(a0:Option Addr) (H h:Nat) (z0:List Int) (X:Option Addr) (J u:Nat) (z1:List Int) (a2:Option Addr) (O B:Nat) (z2:List Int) (a3:Option Addr) (U C:Nat) (z3:List Int) (a4:Option Addr) (V G:Nat) (z4:List Int) (w:World) (w0:UA w a0 H h z0) (w1:UA w X J u z1) (w2:UA w a2 O B z2) (w3:Cv w a3 U C z3) (w4:UA w a4 V G z4):Calls P 3 #[.slice a0 H h, .slice X J u, .slice a2 O B, .slice a3 U C, .slice a4 V G] w λe w'=>e= .returned (.bool ι)/\Below w.heap.size w w':=by obtain⟨L,hx,hL⟩:=Lu w0;obtain⟨M,hy,Y⟩:=Lu w1;obtain⟨N,hz,Z⟩:=Lu w2;obtain⟨A,ha,hA⟩:=zqm w3;obtain⟨T,ht,hT⟩:=Lu w4;exact zyk zpk ⟨(a0,H,h),L,(X,J,u),M,(a2,O,B),N,(a3,U,C),A,(a4,V,G),T⟩ [.slice a0 H h, .slice X J u, .slice a2 O B, .slice a3 U C, .slice a4 V G] (λI=> .cons (.sv _) (.cons (.sv _) (.cons (.sv _) (.cons (.sv _) (.cons (.sv _) .nil))))) rfl (.bool ι) rfl w ⟨hL,Y,Z,hA,hT⟩ ⟨hx,hy,hz,ha,ht⟩
end
end Go.Proofs.YtniogjgfomaicaaGreat.Wd
