/-
  What the functions do: contracts, and their questions answered. No condition but what its theorems ask.
-/
import Derived.Test.YtniogjgfomaicaaGreatT3
import Derived.WalkKit
import Derived.ProofKit
import Derived.OpenShut
import Derived.ShutString
import Derived.ChangeOld
import Derived.Lib.SmallJoins
namespace Go.Proofs.YtniogjgfomaicaaGreat.Wd
open Go.Proofs.YtniogjgfomaicaaGreat.Eng Go.Proofs.YtniogjgfomaicaaGreat.Sen Go.RowKit
set_option linter.defProp false
set_option linter.unusedVariables false
set_option linter.unusedSimpArgs false
set_option maxRecDepth 1000000
open Go.Value (int string slice bool)
open Go.IntKind (i64 u64 u8 u32 i32)
open _root_.List (length take drop)
open _root_.ByteArray (size)
open _root_.Int (toNat)
noncomputable section
section
variable {i:Nat}
def z49{B:List Int} (h:i<B.length):B.getD i 0=B[i]:=by rw[List.getD_eq_getElem?_getD,List.getElem?_eq_getElem h];rfl
def z8s:q4p P 76 WJ:=by
 refine qF (qcn qjr) (W:=zki) Tryz.func76 λ⟨a,(y:SV),R⟩=>(zhg a y R).mpr ?_;rintro⟨hRl,hb30,hbr⟩ ⟨p,_,ha,hy⟩;obtain⟨_,_,_,bl⟩:=yE ha;have yl:y.2.1=R.length:=hy.1;simp only[qH,exists_const,forall_const,Int.toNat_natCast,yl,bl];refine⟨⟨⟨0,0⟩,rfl,rfl,Nat.zero_le _,Nat.le_refl _,λ_=>rfl,rfl⟩,?_⟩;rintro⟨i,m⟩ ⟨hi,hmi,hm0,hc⟩;simp only at hi hmi hm0 hc⊢;refine⟨λhlt=>⟨?_,?_⟩,λhge=> ?_⟩
 ·have hil:i<a.brs.length:=by omega
  have hml:m<a.brs.length:=by omega
  have gi:=z49 hil;have gm:=z49 hml;have hap:a.ok p/\qc qi y R p:=⟨ha,hy⟩;have ci:=λq (hq:a.ok q/\qc qi y R q)=>z22 hq.1 hil;have cm:=λq (hq:a.ok q/\qc qi y R q)=>z22 hq.1 hml;obtain⟨j,hj,ej⟩:=vj (hbr _ (List.getElem_mem hil));obtain⟨k,hk,ek⟩:=vj (hbr _ (List.getElem_mem hml));rw[ej]at gi ci;rw[ek]at gm cm;unfold xP;rw[gi,gm];have rj:=λq (hq:a.ok q/\qc qi y R q)=>yG hq.2 hj;have rk:=λq (hq:a.ok q/\qc qi y R q)=>yG hq.2 hk;refine⟨⟨by omega,by omega⟩,(ci p hap).1,(j:Int),λq hq=>(ci q hq).2,⟨by omega,by omega⟩,(rj p hap).1,qg R j,λq hq=>(rj q hq).2,λh0=>⟨⟨by omega,by omega⟩,(cm p hap).1,(k:Int),λq hq=>(cm q hq).2,⟨by omega,by omega⟩,(rk p hap).1,qg R k,λq hq=>(rk q hq).2,?_⟩,?_⟩
  ·refine⟨λh1=>⟨λ_=>⟨λ_=>decide_eq_true ⟨h0, .inl h1⟩,λh=>absurd h0 h⟩,λh=>absurd h1 h⟩,λh1=>⟨⟨by omega,by omega⟩,(ci p hap).1,(j:Int),λq hq=>(ci q hq).2,⟨by omega,by omega⟩,(rj p hap).1,qg R j,λq hq=>(rj q hq).2,⟨by omega,by omega⟩,(cm p hap).1,(k:Int),λq hq=>(cm q hq).2,⟨by omega,by omega⟩,(rk p hap).1,qg R k,λq hq=>(rk q hq).2,λh=>absurd h h1,λ_=>⟨λ_=> ?_,λh=>absurd h0 h⟩⟩⟩;exact kA ⟨λh=>h.2.resolve_left h1,λh=>⟨h0, .inr h⟩⟩
  ·exactλh=>⟨λg=>absurd g h,λ_=>decide_eq_false λg=>h g.1⟩
 ·have e:a.brs.length- i=(a.brs.length- (i+1))+1:=by omega
  rw[e,yi]at hc;refine⟨λh=>⟨⟨by omega,by omega⟩,⟨i+1,i⟩,rfl,by show((i+1:Nat):Int)=_;omega,⟨by show i+1<=_;omega,by show i<=i+1;omega,λh=>(by have h:i=i+1:=h;omega),?_⟩,by show _- (i+1)<_;omega⟩,λh=>⟨⟨by omega,by omega⟩,⟨i+1,m⟩,rfl,by show((i+1:Nat):Int)=_;omega,⟨by show i+1<=_;omega,by show m<=i+1;omega,λh=>(by have h:m=i+1:=h;omega),?_⟩,by show _- (i+1)<_;omega⟩⟩
  ·unfold xP at h;rw[if_pos (of_decide_eq_true h)]at hc;exact hc
  ·unfold xP at h;rw[if_neg (of_decide_eq_false h)]at hc;exact hc
 ·rw[show a.brs.length- i=0 by omega,yi]at hc;rw[hc]
variable {S:List AT} {R:List Int} {k:Nat}
def zkr(hk:k<=S.length) (W:List Int):kO S R (k:Int) 0 W=wall S R (S.length+1- k) k W:=by unfold kO;rw[show S.length+1- k=(S.length- k)+1 by omega,wall,Int.toNat_natCast,Nat.sub_zero]
def zkq{k:Int} (hi:i<S.length) (h:¬qg R i=k) (W:List Int):kO S R k i W=kO S R k (i+1) W:=by unfold kO;rw[show S.length- i=(S.length- (i+1))+1 by omega,QE,if_neg h]
def zkp{k:Int} (hi:i<S.length) (h:qg R i=k) (W:List Int):kO S R k i W=kO S R k (i+1) (wfs (wU R W i S[i]) i S[i].fs):=by
 unfold kO;have e:S.getD i zA=S[i]:=by rw[List.getD_eq_getElem?_getD,List.getElem?_eq_getElem hi];rfl
 rw[show S.length- i=(S.length- (i+1))+1 by omega,QE,if_pos h,e,w1]
def zql(hi:S.length<=i) (W:List Int):kO S R (k:Int) i W=wall S R (S.length+1- (k+1)) ((k+1:Nat):Int) W:=by unfold kO;rw[show S.length- i=0 by omega,QE,Int.toNat_natCast,show S.length+1- (k+1)=S.length- k by omega];rfl
def z33{W:List Int} (hk:k<W.length):∀(j:Nat) v,[Value.int .i64 (qg W k)][j]? =some v->(qa qi W)[0+k*1+j]? =some v:=λj v h=>by
  cases j with
  |succ j=>simp at h
  | zero=>
    have e:qa qi W=W.map (Value.int .i64):=by
      clear hk h;induction W with
      |nil=>rfl
      |cons a W ih=>show [Value.int .i64 a]++qa qi W=_;rw[ih];rfl
    rw[e,Nat.zero_add,Nat.mul_one,Nat.add_zero,List.getElem?_map,List.getElem?_eq_getElem hk,←h,wy hk];rfl
def zfm:q4p P 36 Nd:=by
 refine qF (qcn (qgp z8s qjr)) (W:=ze8) Tryz.func36 λ⟨S,(x:SV),(y:SV),R⟩=>(zfl S x y R).mpr ?_;rintro⟨hS,hRl,hR⟩ ⟨p,_,hx,hy⟩;have sl:x.2.1=S.length:=hx.1.1;have yl:y.2.1=S.length:=hy.1.trans hRl;have h60:=hS.1;have hpp:qd S x p/\qc qi y R p:=⟨hx,hy⟩;simp only[qH,exists_const,forall_const,Int.toNat_natCast,sl,yl];have WB0:WB S.length (List.replicate S.length 0):=⟨by simp,λi hi=>by rw[wy (by simpa using hi)];simp⟩;refine⟨⟨by omega,by omega,by omega,by omega⟩,⟨⟨0,List.replicate S.length 0⟩,rfl,(NR _).symm,Nat.zero_le _,WB0,rfl⟩,?_⟩;rintro⟨k,W⟩ ⟨hk,hW,hw⟩;simp only at hk hW hw⊢;refine⟨λhle=> ?_,λhgt=> ?_⟩
 ·refine⟨⟨⟨0,W⟩,rfl,rfl,Nat.zero_le _,hW,by show kO S R (k:Int) 0 W=_;rw[zkr (by omega)];exact hw⟩,?_⟩;rintro⟨i,V⟩ ⟨hi,hV,hv⟩;simp only at hi hV hv⊢;refine⟨λhlt=> ?_,λhge=>⟨⟨by omega,by omega⟩,⟨k+1,V⟩,by show((k+1:Nat):Int)=_;omega,rfl,⟨by show k+1<=_;omega,hV,by show wall S R _ _ V=_;rw[←zql (i:=i) (by omega)];exact hv⟩,by show _- (k+1)<_;omega⟩⟩;have hil:i<S.length:=by omega
  have hat:=λq (hq:qd S x q/\qc qi y R q)=>wC hq.1 hil;have hao:=λq (hq:qd S x q/\qc qi y R q)=>hq.1.2 S[i] (List.getElem_mem hil);have hgd:=hS.2 S[i] (List.getElem_mem hil);have ri:=λq (hq:qd S x q/\qc qi y R q)=>yG hq.2 (show i<R.length by omega);obtain⟨_,_,fl,bl⟩:=yE (hao p hpp);have hbr:=hgd.2.2.1;have hne:=hgd.2.2.2.1;have hfr:=λf (hf:f∈S[i].fs)=>(hgd.2.2.2.2.1 f hf).1;have hb30:=hgd.2.2.2.2.2.2.2.2.1;have hf30:=hgd.2.2.2.2.2.2.2.1;clear hgd;have hVl:V.length=S.length:=hV.1;have hrw:=qv z24 V;have sp1:spl (qa qi V) (0+i*1) [.int .i64 1]=qa qi (V.set i 1):=(Jn V i (by omega) 1).symm;have hV1:=Vy hV hil (v:=1) (by omega);simp only[kz hil,sp1,hrw,qv z24,List.length_set,List.length_singleton];refine⟨⟨by omega,by omega⟩,(ri p hpp).1,qg R i,λq hq=>(ri q hq).2,λhnk=>⟨⟨by omega,by omega⟩,⟨i+1,V⟩,by show((i+1:Nat):Int)=_;omega,rfl,⟨by show i+1<=_;omega,hV,by show kO S R _ (i+1) V=_;rw[←zkq hil hnk];exact hv⟩,by show _- (i+1)<_;omega⟩,λhkk=>⟨⟨by omega,by omega⟩,by omega,⟨by omega,by omega⟩,(hat p hpp).1,S[i].k,S[i].nm,S[i].al.1,S[i].al.2.1,S[i].al.2.2,S[i].it,S[i].sy.1,S[i].sy.2.1,S[i].sy.2.2,S[i].hd,S[i].df,S[i].sz,S[i].f.1,S[i].f.2.1,S[i].f.2.2,S[i].br.1,S[i].br.2.1,S[i].br.2.2,λq hq=>(hat q hq).2,⟨λh14=> ?_,λh14=> ?_⟩,?_⟩⟩
  ·have hcl:zu R S[i].brs<S[i].brs.length:=Hh (hne h14);have bat:=λq (hq:qd S x q/\qc qi y R q)=>z22 (hao q hq) hcl;have gd:=z49 hcl;have bin:=hbr _ (List.getElem_mem hcl);have hdo:=zkp hil hkk V;have eU:wU R V i S[i]=(V.set i 1).set i (ky (qg (V.set i 1) i) (qg (V.set i 1) (S[i].brs.getD (zu R S[i].brs) 0))):=(by unfold wU;rw[if_pos h14]);rw[gd]at eU;generalize S[i].brs[zu R S[i].brs]=b at*;obtain⟨t,ht,rfl⟩:=vj bin;have e1:qg (V.set i 1) i=1:=(by rw[Qf (by omega),if_pos rfl]);have hl1:(V.set i 1).length=S.length:=hV1.1;have g1:=z33 (W:=V.set i 1) (k:=i) (by omega);have g2:=z33 (W:=V.set i 1) (k:=t) (by omega);have rt:=hV1.2 t ht;rw[e1]at g1 eU;refine⟨⟨by omega,by omega⟩,1,g1,⟨S[i],y,R⟩,rfl,rfl,rfl,rfl,rfl,rfl,rfl,rfl,rfl,rfl,rfl,rfl,rfl,rfl,rfl,rfl,rfl,rfl,rfl,yl,rfl,⟨by show R.length<1000;omega,hb30,λb hb=>by have:=hbr b hb;show 0<=b/\b<(R.length:Int);omega⟩,λq hq=>⟨hao q hq,hq.2⟩,⟨by omega,by show((zu R S[i].brs:Nat):Int)<_;omega⟩,(bat p hpp).1,(t:Int),λq hq=>(bat q hq).2,⟨by omega,by omega⟩,qg (V.set i 1) t,λj v h=>g2 j v h,⟨by omega,by omega⟩,⟨by omega,by omega⟩,by omega,1,g1,rfl,wU R V i S[i],?_,?_,?_⟩
   ·rw[eU];exact Jn _ _ (by omega) _
   ·rw[eU];exact Vy hV1 hil (Hx (by omega) rt.1)
   ·rw[←hdo];exact hv
  ·have hdo:=zkp hil hkk V;have eU:wU R V i S[i]=V.set i 1:=(by unfold wU;rw[if_neg h14]);refine⟨wU R V i S[i],by rw[eU],by rw[eU];exact hV1,by rw[←hdo];exact hv⟩
  ·rintro V2 ⟨hV2,hw2⟩;refine⟨⟨⟨0,V2⟩,rfl,rfl,Nat.zero_le _,hV2,hw2⟩,?_⟩;rintro⟨m,V3⟩ ⟨hm,hV3,hw3⟩;simp only at hm hV3 hw3⊢;refine⟨λhlt=> ?_,λhge=>⟨⟨by omega,by omega⟩,⟨i+1,V3⟩,by show((i+1:Nat):Int)=_;omega,rfl,⟨by show i+1<=_;omega,hV3,?_⟩,by show _- (i+1)<_;omega⟩⟩
   ·have hml:m<S[i].fs.length:=(by omega);have bat:=λq hq=>WO (hao q hq) hml;have bne:=(wB (hao p hpp) hml).1;have bin:=hfr _ (List.getElem_mem hml);rw[List.drop_eq_getElem_cons hml,wfs]at hw3;generalize S[i].fs[m]=f at*;obtain⟨t,ht,e⟩:=vj bin;rw[e]at hw3;have hl3:V3.length=S.length:=hV3.1;have g1:=z33 (W:=V3) (k:=i) (by omega);have g2:=z33 (W:=V3) (k:=t) (by omega);have r1:=hV3.2 i hil;have r2:=hV3.2 t ht;refine⟨⟨by omega,by omega⟩,qg V3 i,g1,⟨by omega,by omega⟩,bne,(t:Int),λq hq=>(by have:=bat q hq;rw[e]at this;exact this),⟨by omega,by omega⟩,qg V3 t,λj v h=>g2 j v h,⟨by omega,by omega⟩,⟨by omega,by omega⟩,by omega,⟨by omega,by omega⟩,⟨m+1,V3.set i (ky (qg V3 i) (qg V3 t))⟩,by show((m+1:Nat):Int)=_;omega,Jn _ _ (by omega) _,⟨by show m+1<=_;omega,Vy hV3 hil (Hx r1.1 r2.1),hw3⟩,by show _- (m+1)<_;omega⟩
   ·rw[List.drop_of_length_le (by omega),wfs]at hw3;exact hw3
 ·rw[show S.length+1- k=0 by omega,wall]at hw;rintro b s u _;have hl:W.length=S.length:=hW.1;refine⟨trivial,λq hq=>⟨by show S.length=(wts S R).length;rw[←hw,hl],hq.2.1,?_⟩⟩;have h2:=hq.2.2;rw[List.take_of_length_le (by rw[qv z24,hl];exact Nat.le_refl _)]at h2;rw[←hw];exact h2
end
def zjg:q4p P 35 z76:=by
 refine qF (qcn (qgp zje qjr)) (W:=zko) Tryz.func35 λ⟨S,(x:SV)⟩=>(zjf S x).mpr ?_;rintro hS ⟨p,_,hx⟩;have sl:x.2.1=S.length:=hx.1.1;have h60:=hS.1;simp only[qH,exists_const,forall_const,Int.toNat_natCast,sl];have ml:(S.map kj).length=(List.replicate S.length (0:Int)).length:=by simp
 refine⟨⟨by omega,by omega,by omega,by omega⟩,⟨0,rfl,by rw[zdg];exact(NR _).symm,Nat.zero_le _⟩,?_⟩;intro i hi;refine⟨λhlt=> ?_,λhge=> ?_⟩
 ·have hil:i<S.length:=by omega
  have hat:=λq (hq:qd S x q)=>wC hq hil;have c0:∀q,qd S x q->q37 q ((adr x.1 (i*10)).add 0) [.int .i64 S[i].k]:=λq hq j v hj=>by
   cases j with
   |zero=>have:=(hat q hq).2 0 v hj;rw[Addr.add_add];exact this
   |succ j=>simp at hj
  have ei:qg (S.map kj) i=kj S[i]:=by rw[wy (by simpa using hil)];simp
  have hrl:(qa qi (jt (S.map kj) (List.replicate S.length 0) i)).length=S.length*1:=by rw[qv z24,G2 ml];simp
  have two:spl (spl (qa qi (jt (S.map kj) (List.replicate S.length 0) i)) (0+i*1) [.int .i64 (-1)]) (0+i*1) [.int .i64 0]=spl (qa qi (jt (S.map kj) (List.replicate S.length 0) i)) (0+i*1) [.int .i64 0]:=by have hm:i<(jt (S.map kj) (List.replicate S.length 0) i).length:=(by rw[G2 ml];simpa using hil);rw[←Jn _ _ hm,←Jn _ _ (by rw[List.length_set];exact hm),←Jn _ _ hm,List.set_set]
  simp only[hrl,two,q7q,List.length_singleton];refine⟨⟨by omega,by omega⟩,by omega,⟨by omega,by omega⟩,(hat p hx).1,S[i].k,c0,λh9=>⟨⟨by omega,by omega⟩,(hat p hx).1,S[i].k,c0,λh14=>⟨⟨by omega,by omega⟩,by omega,⟨by omega,by omega⟩,i+1,by omega,G3 ml (by simpa using hil) ?_,by omega,by omega⟩,λh14=>⟨⟨by omega,by omega⟩,i+1,by omega,G3 ml (by simpa using hil) ?_,by omega,by omega⟩⟩,λh9=>⟨⟨by omega,by omega⟩,i+1,by omega,G3 ml (by simpa using hil) ?_,by omega,by omega⟩⟩
  ·rw[ei];unfold kj;rw[if_neg (by omega)]
  ·rw[ei];unfold kj;rw[if_pos (by omega)]
  ·rw[ei];unfold kj;rw[if_pos (by omega)]
 ·have ex:jt (S.map kj) (List.replicate S.length 0) i=zL S 0:=by rw[ziv ml (by simp;omega)];rfl
  have tk:∀k,List.take (S.length*1) (qa qi (zL S k))=qa qi (zL S k):=λk=>List.take_of_length_le (by rw[qv z24,Za];exact Nat.le_refl _);rw[ex,tk];rintro b s u _;refine⟨⟨⟨0,(some ⟨b,s,none⟩,S.length,u / 1)⟩,rfl,rfl,rfl,rfl,λq hq=>⟨(Za S 0).symm,hq.2.1,hq.2.2⟩,Nat.zero_le _⟩,?_⟩;rintro⟨j,y⟩ hj ⟨p1,hp1,hy1⟩;simp only at hj hy1⊢;have yl:y.2.1=S.length:=hy1.1.trans (Za S j);have lj:=Za S j;have ls:=G4 S _ lj;have lm:(wk S (zL S j)).length=(zL S j).length:=by omega
  simp only[yl];refine⟨λhle=>⟨qa qi (zL S j),by rw[qv z24,Za],λq hq=>hq.2.2.2,Jq (λx v hv=>by simp[qi]at hv;subst hv;rfl) _,by omega,⟨0,rfl,by rw[zdg];rfl,Nat.zero_le _⟩,?_⟩,λhgt=> ?_⟩
  ·intro i hi;refine⟨λhlt=> ?_,λhge=> ?_⟩
   ·have hil:i<S.length:=(by omega);have ra:=Ia lj hil;have hrl:(qa qi (jt (wk S (zL S j)) (zL S j) i)).length=S.length*1:=(by rw[qv z24,G2 lm,lj]);simp only[hrl,List.length_singleton];refine⟨⟨by omega,by omega⟩,(yG hy1 (show i<(zL S j).length by omega)).1,qg (zL S j) i,λq hq=>(yG hq.2 (show i<(zL S j).length by omega)).2,λh0=>⟨⟨by omega,by omega⟩,i+1,by omega,?_,by omega,by omega⟩,λh0=>⟨⟨S,x,(i:Int),y,zL S j⟩,rfl,sl,rfl,rfl,rfl,yl,rfl,⟨hS,zjj (Ie hS j) (by omega),by show 0<=(i:Int);omega,by show(i:Int)<_;omega⟩,λq hq=>⟨hq.1.1,hq.2⟩,⟨by omega,by omega⟩,by omega,⟨by omega,by omega⟩,i+1,by omega,G3 lm (by omega) ?_,by omega,by omega⟩⟩
    ·rw[if_pos h0]at ra;rw[zp9 lm (by omega) ra]
    ·rw[if_neg h0]at ra;rw[ra];show v7 _ _=v7 _ (qe S (i:Int));rw[kz hil]
   ·have e2:jt (wk S (zL S j)) (zL S j) i=zL S (j+1):=(by rw[ziv lm (by omega)];rfl);have e3:(0+S.length)*1=S.length*1:=(by omega);rw[e2,e3,tk];rintro a c _;exact⟨⟨by omega,by omega⟩,⟨j+1,(a,0+S.length,c)⟩,rfl,rfl,rfl,by show((j+1:Nat):Int)=_;omega,λq hq=>hq.1.1,λq hq=>⟨by show 0+S.length=(zL S (j+1)).length;rw[Za,Nat.zero_add],hq.2.1,hq.2.2⟩,by show j+1<=_;omega,by show _- (j+1)<_;omega⟩
  ·obtain rfl:j=S.length+1:=(by omega);refine⟨trivial,λq hq=> ?_⟩;have:=hq.2;unfold qB;exact⟨by show S.length=_;rw[Za],by have h:=this.2;rw[yl]at h;exact h⟩
section
variable {S:List AT}
def zit(hS:qx S) {i:Nat} (hi:i<S.length) (h:zT S i=true):1<=XZ S i:=by obtain⟨_,h1,h2⟩:=uj.1 h;exact((Hy hS (VF hS)).2 i hi h1).1
def zdf(hS:qx S) {i:Nat} (hi:i<S.length) (h:zT S i=true) (h9:S[i].k≠9) (h11:S[i].k≠11) (h14:S[i].k≠14):yn S i zV:=by
 have hp:=zit hS hi h;have hg:=hS.2 S[i] (List.getElem_mem hi);have hk:=hg.1;have hsy:=hg.2.2.2.2.2.1;have e0:(mkS []).size=0:=rfl;refine⟨?_,?_,?_,λ_=>rfl⟩
 ·rw [JF];by_cases hN:zd S[i].k=true
  ·refine zui hi hN ?_;unfold km
   (repeat' split)<;>first|rfl| (exact decide_eq_true (by first|omega|rfl))|skip
   next h10=>
    have:=List.length_pos_iff.2 (hsy h10);exact decide_eq_true (by omega)
  ·by_cases hT:qS S[i].k=true
   ·refine N5 hi hT ?_ (by rw[if_neg h11,jQ];decide);unfold vZ;split
    ·decide+kernel
    ·first|rfl|rw[if_neg h11]
   ·have hN':¬(S[i].k=1\/S[i].k=2\/S[i].k=3\/S[i].k=4\/S[i].k=5\/S[i].k=6\/S[i].k=10):=λh=>hN (by unfold zd;exact decide_eq_true h);have hT':¬(S[i].k=7\/S[i].k=8\/S[i].k=11):=λh=>hT (by unfold qS;exact decide_eq_true h);rcases(by omega:S[i].k=12\/S[i].k=13)with h|h
    ·exact zd0 hi h λv hv=>by cases hv
    ·exact zd1 hi h rfl rfl λv hv=>by cases hv
 ·rw[JF];exact wE (by decide) (by rw[jQ];decide) (by decide) (by decide) (λk hk=>by cases hk) λv hv=>by cases hv
 ·rw[JF,wG,PV.wts,qA,jQ];omega
def zl5(n:Nat):(zB n).size=n:=by unfold zB mkS;show(List.toArray _).size=n;simp
def zxk(hS:qx S) {i:Nat} (hi:i<S.length) (h:zT S i=true) (h11:S[i].k=11):yn S i (.mk 0 (zB S[i].sz.toNat) (none,0,0) [] (none,0,0) [] 0):=by
 have hp:=zit hS hi h;have hg:=(hS.2 S[i] (List.getElem_mem hi)).2.2.2.2.2.2.1 h11;have ep:(GV.mk 0 (zB S[i].sz.toNat) (none,0,0) [] (none,0,0) [] 0).pv= .mk 0 (zB S[i].sz.toNat) [] [] 0:=by rw[GV.pv,GV.pvs]
 have hz:=zl5 S[i].sz.toNat;refine⟨?_,?_,?_,λh=>by rw[kz hi]at h;omega⟩
 ·rw[ep];refine N5 hi (by unfold qS;exact decide_eq_true (by omega)) ?_ (by rw[if_pos h11,hz];omega);unfold vZ;rw[if_neg (by omega),if_pos h11,hz];exact decide_eq_true (by omega)
 ·rw[ep];exact wE (by decide) (by rw[hz];omega) (by decide) (by decide) (λk hk=>by cases hk) λv hv=>by cases hv
 ·rw[ep,wG,PV.wts,qA,hz];omega
def zxl(hS:qx S) {i:Nat} (hi:i<S.length) (h:zT S i=true) (h9:S[i].k=9) {fs:List GV} {x:SV} (hI:uS S i S[i].fs.length (GV.pvs fs)):yn S i (.mk 0 (mkS []) x fs (none,0,0) [] 0):=by
 obtain⟨l1,l2,l3,l4,l5⟩:=hI;rw[kz hi]at l2 l5;simp only[kz hi]at l3;have hw:=(ND hS hi h9 h).1;have hg:=hS.2 S[i] (List.getElem_mem hi);have hf:=hg.2.2.2.2.2.2.2.1;rw[List.take_length]at l5;have ep:(GV.mk 0 (mkS []) x fs (none,0,0) [] 0).pv= .mk 0 (mkS []) (GV.pvs fs) [] 0:=by rw[GV.pv]
 refine⟨?_,?_,?_,λh=> ?_⟩
 ·rw[ep];exact zd2 hi h9 l1 l3
 ·rw[ep];exact wE (by decide) (by rw[jQ];decide) (by omega) (by decide) (λk hk=>by cases hk) l4
 ·rw[ep,wG,qA,jQ];show((30+0+0+PV.wts (GV.pvs fs):Nat):Int)<=30*qg (wts S (qB S)) i;omega
 ·rw[kz hi]at h;omega
def zxm(hS:qx S) {i:Nat} (hi:i<S.length) (h:zT S i=true) (h14:S[i].k=14) {w:GV} {x:SV} (hw:yn S (S[i].brs.getD (zu (qB S) S[i].brs) 0) w):yn S i (.mk 0 (mkS []) x [w] (none,0,0) [] (zu (qB S) S[i].brs:Nat)):=by
 have hne:=(hS.2 S[i] (List.getElem_mem hi)).2.2.2.1 h14;have hc:=Hh (R:=qB S) hne;have hu:=zis hS hi h14 h;have ep:(GV.mk 0 (mkS []) x [w] (none,0,0) [] (zu (qB S) S[i].brs:Nat)).pv= .mk 0 (mkS []) [w.pv] [] (zu (qB S) S[i].brs:Nat):=by rw[GV.pv,GV.pvs,GV.pvs]
 obtain⟨w1,w2,w3,w4⟩:=hw;refine⟨?_,?_,?_,λh=> ?_⟩
 ·rw[ep];exact zd3 hi h14 hc w1
 ·rw[ep];exact wE (by decide) (by rw[jQ];decide) (by show 1<=_;decide) (by decide) (λk hk=>by cases hk) λv hv=>by simp at hv;subst hv;exact w2
 ·rw[ep,wG,qA,jQ,Jw];unfold XZ at w3⊢;omega
 ·rw[kz hi]at h;omega
def j6x{S:List AT} (hS:qx S) {i:Nat} (hi:i<S.length) (h:zT S i=true) (h14:S[i].k=14):zT S (S[i].brs.getD (zu (qB S) S[i].brs) 0)=true/\qg (qB S) (S[i].brs.getD (zu (qB S) S[i].brs) 0)<qg (qB S) i:=by obtain⟨_,h1,h2⟩:=uj.1 h;obtain⟨c1,c2,c3⟩:=GX (VF hS) hi h14 h1;have hb:=(hS.2 S[i] (List.getElem_mem hi)).2.2.1 _ (WE c1);have hu:=zis hS hi h14 h;exact⟨uj.2 ⟨hb,c2,by omega⟩,c3⟩
def Ni(l:List GV) (v:GV):GV.pvs (l++[v])=GV.pvs l++[v.pv]:=by rw[GV.pvs_map,GV.pvs_map];simp
def zp6(hS:qx S) {i:Nat} (hi:i<S.length) {j:Nat} {fs:List GV} (hj:j<S[i].fs.length) (hI:uS S i j (GV.pvs fs)) {w:GV} (hw:yn S (S[i].fs[j]).ty w):uS S i (j+1) (GV.pvs (fs++[w])):=by
 obtain⟨l1,l2,l3,l4,l5⟩:=hI;obtain⟨w1,w2,w3,w4⟩:=hw;rw[Ni];unfold uS;simp only[kz hi]at l2 l3 l5⊢;refine⟨by simp[l1],by omega,λk h1 h2=> ?_,λv hv=> ?_,?_⟩
 ·by_cases hk:k<(GV.pvs fs).length
  ·rw[List.getElem_append_left hk];exact l3 k hk h2
  ·obtain rfl:k=j:=(by simp at h1;omega);rw[List.getElem_append_right (by omega)];simp only[l1,Nat.sub_self,List.getElem_cons_zero];exact w1
 ·rcases List.mem_append.1 hv with hv|hv
  ·exact l4 v hv
  ·simp at hv;subst hv;exact w2
 ·have hs:∀(A B:List AF),jh (wts S (qB S)) (A++B)=jh (wts S (qB S)) A+jh (wts S (qB S)) B:=λA B=>by
   induction A with
   |nil=>rw[List.nil_append,jh,Int.zero_add]
   |cons a A ih=>rw[List.cons_append,jh,jh,ih];omega
  rw[xn,Jw,List.take_succ_eq_append_getElem hj,hs,jh,jh];unfold XZ at w3;omega
end
def zvu:∀n:Nat,q6y [.int .u8 0] n=q18 (zB n)
  |0=>rfl
  | n+1=>by rw[q6y,zvu n];unfold zB mkS q18;simp[List.replicate_succ]
def zp3(n:Nat) (hl:q1q P 37 (Jr.below Kn n)):q1q P 37 (Jr.below Kn (n+1)):=by
 refine zt (qcn (qgp z8s qjr)) (qde (qgo hl qjq)) (W:=zkk) Tryz.func37 λ⟨S,(x:SV),(t:Int),(y:SV)⟩=>(zij n S x t y).mpr ?_;rintro⟨hmu,hS,hls⟩ ⟨p,_,hx,hy⟩;have hmu:(qg (qB S) t).toNat<n+1:=hmu;obtain⟨ht,hr0,hw⟩:=uj.1 hls;obtain⟨i,hi,rfl⟩:=vj ht;have hR:=VF hS;have hpp:qd S x p/\qc qi y (qB S) p:=⟨hx,hy⟩;have sl:x.2.1=S.length:=hx.1.1;have hRl:=hR.1;have yl:y.2.1=S.length:=hy.1.trans hRl;have hat:=λq (hq:qd S x q/\qc qi y (qB S) q)=>wC hq.1 hi;have hao:=λq (hq:qd S x q/\qc qi y (qB S) q)=>hq.1.2 S[i] (List.getElem_mem hi);have hg:=hS.2 S[i] (List.getElem_mem hi);have h60:=hS.1;obtain⟨_,_,fl,bl⟩:=yE (hao p hpp);have hbr:=hg.2.2.1;have hne:=hg.2.2.2.1;have hfr:=λf (hf:f∈S[i].fs)=>(hg.2.2.2.2.1 f hf).1;have hb30:=hg.2.2.2.2.2.2.2.2.1;have hf30:=hg.2.2.2.2.2.2.2.1;have hsz:=hg.2.2.2.2.2.2.1;clear hg;simp only[qH,exists_const,forall_const,Int.toNat_natCast,sl,yl,kz hi];refine⟨⟨by omega,by omega⟩,(hat p hpp).1,S[i].k,S[i].nm,S[i].al.1,S[i].al.2.1,S[i].al.2.2,S[i].it,S[i].sy.1,S[i].sy.2.1,S[i].sy.2.2,S[i].hd,S[i].df,S[i].sz,S[i].f.1,S[i].f.2.1,S[i].f.2.2,S[i].br.1,S[i].br.2.1,S[i].br.2.2,λq hq=>(hat q hq).2,λh11=> ?_,λh11=>⟨λh9=> ?_,λh9=>⟨λh14=> ?_,λh14=> ?_⟩⟩⟩
 ·have hz:=hsz h11;refine⟨⟨by omega,by omega,by omega,by omega⟩,zB S[i].sz.toNat,zl5 _,λj v hj=> ?_, .mk 0 (zB S[i].sz.toNat) (none,0,0) [] (none,0,0) [] 0,rfl,rfl,rfl,rfl,rfl,rfl,rfl,rfl,rfl,zxk hS hi hls h11,λq hq=> ?_⟩
  ·rw[zvu,Nat.zero_add];exact hj
  ·unfold GV.ok;exact⟨qY,qY,by unfold GV.oks;trivial⟩
 ·have hrec:=ND hS hi h9 hls;have hrk:=(hR.2 i hi).2.2.1 h9 hr0;refine⟨⟨⟨0,[]⟩,rfl,rfl,λq hq=>GV.oks_iff.2 λv h=>(by cases h),?_⟩,?_⟩
  ·unfold uS;rw[GV.pvs];exact⟨rfl,Nat.zero_le _,λk h1 h2=>absurd h1 (by simp),λv hv=>(by cases hv),by rw[PV.wts,List.take_zero,jh];decide⟩
  rintro⟨j,fs⟩ hI ⟨p1,hp1,hfs⟩;have hI:uS S i j (GV.pvs fs):=hI;have l1:fs.length=j:=by rw[←GV.pvs_len];exact hI.1
  have l2:j<=S[i].fs.length:=by have:=hI.2.1;rw[kz hi]at this;exact this
  simp only at hfs⊢;refine⟨λhlt=>⟨?xa,?xb,?xc⟩,λhge=> ?_⟩;case xa|xb|xc=>
   have hjl:j<S[i].fs.length:=(by omega);have bat:=λq hq=>WO (hao q hq) hjl;have bne:=(wB (hao p hpp) hjl).1;have bin:=hfr _ (List.getElem_mem hjl);have blt:=hrk _ (List.getElem_mem hjl);have bls:=hrec.2 _ (List.getElem_mem hjl);have hsn:=λw hw=>zp6 hS hi hjl hI (w:=w) hw;generalize S[i].fs[j]=f at*;refine⟨⟨by omega,by omega⟩,bne,f.ty,λq hq=>bat q hq.1,⟨S,x,f.ty,y⟩,rfl,sl,rfl,rfl,rfl,yl,rfl,⟨by show(qg (qB S) f.ty).toNat<n;omega,hS,bls⟩,λq hq=>hq.1,?_⟩;rintro w hw _;exact⟨qv zr fs,by omega,⟨by omega,by omega⟩,⟨j+1,fs++[w]⟩,by show((j+1:Nat):Int)=_;omega,by simp,by rw[zx];rfl,λq hq=>hq.1.1,λq hq=>Qe hq.1.2 (yF hq.2),hsn w hw,by show _- (j+1)<_;omega⟩
  ·intro a c _;have hj:j=S[i].fs.length:=(by omega);rw[hj]at hI;refine⟨.mk 0 (mkS []) (a,fs.length,c) fs (none,0,0) [] 0,rfl,rfl,rfl,rfl,rfl,rfl,rfl,rfl,rfl,zxl hS hi hls h9 hI,λq hq=> ?_⟩;have h2:=hq.2.2;rw[List.take_of_length_le (by rw[qv zr];exact Nat.le_refl _)]at h2;unfold GV.ok;exact⟨⟨rfl,hq.2.1,h2⟩,qY,hq.1.2⟩
 ·have hcl:=Hh (R:=qB S) (hne h14);obtain⟨c1,c2⟩:=j6x hS hi hls h14;have c3:=(uj.1 c1).2.1;have hq0:=λw x hw=>zxm hS hi hls h14 (w:=w) (x:=x) hw;have gd:=z49 hcl;have bat:=λq (hq:qd S x q/\qc qi y (qB S) q)=>z22 (hao q hq) hcl;rw[gd]at c1 c2 c3 hq0;refine⟨⟨S[i],y,qB S⟩,rfl,rfl,rfl,rfl,rfl,rfl,rfl,rfl,rfl,rfl,rfl,rfl,rfl,rfl,rfl,rfl,rfl,rfl,rfl,yl,rfl,⟨by show(qB S).length<1000;omega,hb30,λb hb=>by have:=hbr b hb;show 0<=b/\b<((qB S).length:Int);omega⟩,λq hq=>⟨hao q hq,hq.2⟩,⟨?xa,?xb⟩⟩;case xa|xb=>
   refine⟨⟨by omega,by show((zu (qB S) S[i].brs:Nat):Int)<_;omega⟩,(bat p hpp).1,S[i].brs[zu (qB S) S[i].brs],λq hq=>(bat q hq).2,⟨S,x,S[i].brs[zu (qB S) S[i].brs],y⟩,rfl,sl,rfl,rfl,rfl,yl,rfl,⟨by show(qg (qB S) _).toNat<n;omega,hS,c1⟩,λq hq=>hq,?_⟩;rintro w hw _ b s _;refine⟨.mk 0 (mkS []) (some ⟨b,s+0,none⟩,1,1) [w] (none,0,0) [] (zu (qB S) S[i].brs:Nat),rfl,rfl,rfl,rfl,rfl,rfl,rfl,rfl,rfl,hq0 _ _ hw,λq hq=> ?_⟩;unfold GV.ok;exact⟨⟨rfl,Nat.le_refl _, .inr ⟨_,rfl,rfl,hq.2⟩⟩,qY,yF hq.1.2⟩
 ·exact⟨zV,rfl,rfl,rfl,rfl,rfl,rfl,rfl,rfl,rfl,zdf hS hi hls h9 h11 h14,λq hq=>jD q⟩
def z90:∀n,q1q P 37 (Jr.below Kn n)
 |0=>CtR.below_zero (by decide) (by decide) (Sen.enters_of Tryz.func37 (by kernel_rfl)) λs=>rfl
 |n+1=>zp3 n (z90 n)
def zik:q1q P 37 Jr:=CtR.of_below z90
def z8z:q1q P 21 Nv:=by
 refine zt (qcn (qgp zjg (qgp GZ (qgp zfm qjr)))) (qde (qgo zik qjq)) (W:=λ_=>{}) Tryz.func21 λ⟨S,(x:SV),(t:Int)⟩=>(zih S x t).mpr ?_;rintro hS ⟨p,_,hx⟩;have sl:x.2.1=S.length:=hx.1.1;have hR:=VF hS;have hRl:=hR.1;have h60:=hS.1;simp only[qH,exists_const,forall_const,Int.toNat_natCast,sl];have no:zT S t=false->∀(Q:(Nat->Option Obj)->Prop),∃b:GV×Bool,b.1.n=0/\b.1.s=mkS []/\b.1.x.1=noA/\b.1.x.2.1=0/\b.1.x.2.2=0/\b.1.y.1=noA/\b.1.y.2.1=0/\b.1.y.2.2=0/\b.1.b=0/\b.2=false/\(b.2=zT S t/\b.1.pv.sn/\b.1.pv.wt<=60000/\(b.2=true->PV.fitz S t b.1.pv)/\(b.2=false\/(qe S t).k=12\/(qe S t).k=13->b.1=zV))/\∀p,Q p->b.1.ok p:=λhf Q=>⟨⟨zV,false⟩,rfl,rfl,rfl,rfl,rfl,rfl,rfl,rfl,rfl,rfl,⟨hf.symm,by show zV.pv.sn;rw[JF];exact wE (by decide) (by rw[jQ];decide) (by decide) (by decide) (λk hk=>by cases hk) λv hv=>(by cases hv),by show zV.pv.wt<=_;rw[JF,wG,PV.wts,qA,jQ];decide,λh=>(by cases h),λ_=>rfl⟩,λq _=>jD q⟩;refine⟨⟨S,x⟩,rfl,sl,rfl,hS,λq hq=>hq,?_⟩;rintro a n c ⟨p1,hp1,hr1⟩;have hn:n=S.length:=hr1.1.trans hRl;refine⟨⟨x,t⟩,rfl,sl,rfl,rfl,λh=>no (by simp only[sl]at h;unfold zT;rw[h];rfl) _,λh=> ?_⟩;simp only[sl,Bool.and_eq_true,decide_eq_true_eq]at h;obtain⟨i,hi,rfl⟩:=vj h;have hWB:=(Hy hS hR).1;refine⟨⟨by omega,by omega⟩,(yG hr1 (show i<(qB S).length by omega)).1,qg (qB S) i,λq hq=>(yG hq.2 (show i<(qB S).length by omega)).2,λhneg=>no ?_ _,λhpos=>⟨⟨S,x,(a,n,c),qB S⟩,rfl,sl,rfl,rfl,rfl,rfl,⟨hS,zjj hR (by omega)⟩,λq hq=>⟨hq.1,hq.2⟩,?_⟩⟩
 ·cases hb:zT S (i:Int)with
  |false=>rfl
  |true=>have:=(uj.1 hb).2.1;omega
 rintro a5 n2 c1 ⟨p2,_,hw2⟩;have hn2:n2=S.length:=hw2.1.trans hWB.1;have hwl:=hWB.1;refine⟨⟨by omega,by omega⟩,(yG hw2 (show i<(wts S (qB S)).length by omega)).1,qg (wts S (qB S)) i,λq hq=>(yG hq.2 (show i<(wts S (qB S)).length by omega)).2,λhgt=>no ?_ _,λhle=> ?_⟩
 ·cases hb:zT S (i:Int)with
  |false=>rfl
  |true=>have:=(uj.1 hb).2.2;omega
 have hls:zT S (i:Int)=true:=uj.2 ⟨h,by omega,by omega⟩;refine⟨⟨S,x,(i:Int),(a,n,c)⟩,rfl,sl,rfl,rfl,rfl,rfl,rfl,⟨hS,hls⟩,λq hq=>⟨hq.1.1,hq.1.2⟩,?_⟩;rintro v hv _;obtain⟨v1,v2,v3,v4⟩:=hv;refine⟨⟨v,true⟩,rfl,rfl,rfl,rfl,rfl,rfl,rfl,rfl,rfl,rfl,⟨hls.symm,v2,?_,λ_=>v1,λh=>h.elim (λh=>(by cases h)) v4⟩,λq hq=>hq.2⟩;have v3:(v.pv.wt:Int)<=30*qg (wts S (qB S)) i:=v3;show v.pv.wt<=60000;omega
def zii:q1q P 21 zh8:=by
  obtain⟨a1,a2,a3,a4⟩:=z8z;refine⟨a1,a2,a3,λs=> ?_⟩;obtain⟨h0,e0,r⟩:=a4 s;refine⟨h0,e0,λF I w vs b1 b2 b3 b4 hp b5 b6 b7=>(r F I w vs b1 b2 b3 b4 hp.1 b5 b6 b7).mono λe w' h=> ?_⟩;obtain⟨⟨v,b⟩,h1,hpost,e1,z,I',he,hr,g,hm⟩:=h;have hz:v=zV:=hpost.2.2.2.2 (.inr (.inl hp.2));subst hz;refine⟨b,h1,hpost.1,e1,z,I',he,?_,g,hm⟩;have hr:VR I' (.tup [zV.av, .sv (.bool b)]) z:=hr;cases hr with
  | tup h=>cases h with
    | cons h1 h2=>cases h1 with
      | agg h=>
        have:=qi7 (l:=zV.cells) h;subst this;exact .tup (.cons (.agg (.cons (.int _ _) (.cons (.str _) (.cons .nsl (.cons .nsl (.cons (.int _ _) .nil)))))) h2)
def jX(d:Int):Nat:=60000*8 ^ (6- d).toNat
abbrev yT:=List AT×SV×Int×Int×SV×List Int×Int
abbrev zb:=GV×Bool×Int
def jvf(S:List AT) (x y:SV) (L:List Int):PF:=⟨true,λp=>qd S x p/\qc qn y L p,λ_ _ h e=>⟨yC h e.1,jo h e.2⟩⟩
def zq(S:List AT) (t d:Int) (L:List Int) (n:Int) (v:GV) (b:Bool) (n':Int):Prop:=b=zT S t/\(n<=n'/\n'<=L.length)/\v.pv.sn/\v.pv.wt<=jX d/\(b=true->PV.fitz S t v.pv)
def yH(κ:AT->Prop):CtR where
 σ:=yT
 args:=λ⟨S,x,t,d,y,L,n⟩=>[.ptr 1 0,kx x, .sv (.int .i64 t), .sv (.int .i64 d)]
 h:=λ⟨S,x,t,d,y,L,n⟩=>jc y n
 m:=2
 pre:=λ⟨S,x,t,d,y,L,n⟩=>qx S/\(0<=t/\t<S.length)/\κ (qe S t)/\(0<=d/\d<=6)/\0<=n/\n<=L.length/\zM L
 mem:=λ⟨S,x,t,d,y,L,n⟩=>jvf S x y L
 β:=λ_=>zb
 post:=λ⟨S,x,t,d,y,L,n⟩ ⟨v,b,n'⟩=>zq S t d L n v b n'
 pm:=λ_ ⟨v,b,n'⟩=>vM v
 r:=λ_ ⟨v,b,n'⟩=> .tup [v.av, .sv (.bool b)]
 h':=λ⟨S,x,t,d,y,L,n⟩ ⟨v,b,n'⟩=>jc y n'
 m':=2
def vT:yT->Nat:=λ⟨S,x,t,d,y,L,n⟩=>(10- d).toNat
def yQ(k:Int):Bool:=decide (k=12\/k=13)
def Xk(a:AT):Prop:=a.k=12
def Xm(a:AT):Prop:=a.k≠12
def wL(a:AT):Prop:=True
def bD(h:T AO) (vb n:Nat):AO:=match h.get vb with
 |some (.cells ty fz g [a,b,_,d,e])=> .cells ty fz g [a,b, .ssl 40 0 n 5 41,d,e]
 |_=> .cells 0 none false []
def xK(S:List AT) (a:AT) (L:List Int) (d n i n1:Int) (l:List PV):Prop:=(0<=i/\i+l.length<=3)/\(n<=n1/\n1<=L.length)/\(∀v∈l,PV.fitz S a.it v/\v.sn)/\PV.wts l<=l.length*jX (d+1)
def QS(S:List AT) (a:AT) (L:List Int) (d n i n1:Int) (v:GV):Prop:=(0<=i/\i<=3)/\(n<=n1/\n1<=L.length)/\(v.n=0/\v.s=mkS []/\v.b=0)/\(v.ks.length=v.l.length/\v.l.length<=3- i)/\zo v.ks=true/\(∀w∈GV.pvs v.l,PV.fitz S a.it w/\w.sn)/\(∀k∈v.ks,k.size<1000)/\((qA v.ks+PV.wts (GV.pvs v.l):Nat):Int)<=(3- i)*(jX (d+1)+12)
def ue(S:List AT) (a:AT) (L:List Int) (d n:Int) (j:Nat) (n1:Int) (l:List PV):Prop:=(l.length=j/\j<=a.fs.length)/\(n<=n1/\n1<=L.length)/\(∀(i:Nat) (h1:i<l.length) (h2:i<a.fs.length),PV.fitz S (a.fs[i]).ty l[i])/\(∀v∈l,v.sn)/\PV.wts l<=l.length*jX (d+1)
def HN(arr:Bool):yT->WayF:=λ⟨S,x,t,d,y,L,n⟩=>{
  pubE:=[206]
  spl:=λi=>match i with
    |24=>some 9
    |32=>some 10
    |43=>some 9
    |_=>none
  flo:=λi=>match i with
    |24=>some (13,[9])
    |32=>some (14,[10])
    |_=>none
  cut:=λi tt _=>match i with
    |36=>Jk yQ 166 46 [0,3,5,8,10,12,46] tt
    |_=>none
  ann :=λid tt hh=>match bE tt 10 with
    | some vb=>match id with
      |1=>some {σ:=Nat×Int×List GV,pre:=λ⟨j,n1,fs⟩=>ue S (qe S t) L d n j n1 (GV.pvs fs),mem:=λ⟨j,n1,fs⟩=>wV fs,t:=λ⟨j,n1,fs⟩=>[(16, .sv (.int .i64 (j:Int)))],h:=λ⟨j,n1,fs⟩=>jc y n1++[(vb,bD hh vb fs.length),(40, .row 36 0 (qa GV.cells fs))],more:=60,μ:=λ⟨j,n1,fs⟩=>(qe S t).fs.length- j,keep:=[0,3,5,8,10,12]}
      | _=>match arr with
        |true=>some {σ:=Int×Int×List GV,pre:=λ⟨i,n1,fs⟩=>xK S (qe S t) L d n i n1 (GV.pvs fs),mem:=λ⟨i,n1,fs⟩=>wV fs,t:=λ⟨i,n1,fs⟩=>[(19, .sv (.int .i64 i))],h:=λ⟨i,n1,fs⟩=>jc y n1++[(vb,bD hh vb fs.length),(40, .row 36 0 (qa GV.cells fs))],more:=60,μ:=λ⟨i,n1,fs⟩=>i.toNat,keep:=[0,3,5,8,10,12]}
        |false=>some {σ:=Int×Int×GV,pre:=λ⟨i,n1,v⟩=>QS S (qe S t) L d n i n1 v,mem:=λ⟨i,n1,v⟩=>vM v,t:=λ⟨i,n1,v⟩=>[(19, .sv (.int .i64 i))],h:=λ⟨i,n1,v⟩=>jc y n1++[(vb,MO v)],more:=0,μ:=λ⟨i,n1,v⟩=>i.toNat,keep:=[0,3,5,8,10,12]}
    |none=>none}
def zx2(l:List GV):List.take (l.length*5) (qa GV.cells l)=qa GV.cells l:=List.take_of_length_le (by rw[qv zr];exact Nat.le_refl _)
section
theorem Ou{s:IV} (h:s.size=0):s=mkS []:=by obtain⟨⟨l⟩⟩:=s;have:l=[]:=List.length_eq_zero_iff.1 h;subst this;rfl
theorem z32{S:List AT} {i:Nat} (hi:i<S.length) {v:GV} (h:PV.fits S i v.pv=true):(zd S[i].k=true->v.s=mkS []/\v.l=[]/\v.ks=[]/\v.b=0)/\(qS S[i].k=true->v.n=0/\v.l=[]/\v.ks=[]/\v.b=0)/\(qq S[i].k=true->v.n=0/\v.s=mkS []/\(S[i].k≠13->v.ks=[])/\(S[i].k≠14->v.b=0)):=by
 rw[GV.pv_eq,PV.fits,if_neg (by omega)]at h;simp only[Int.toNat_natCast,List.getElem?_eq_getElem hi,GV.pvs_len]at h;refine⟨λhk=> ?_,λhk=> ?_,λhk=> ?_⟩
 ·rw[if_pos hk]at h;unfold xE at h;simp only[Bool.and_eq_true,decide_eq_true_eq]at h;obtain⟨⟨_,h1⟩,⟨h2,h3⟩,h4⟩:=h;exact⟨Ou h1,List.length_eq_zero_iff.1 h2,List.length_eq_zero_iff.1 h3,h4⟩
 ·have hn:¬zd S[i].k=true:=λg=>by unfold qS at hk;unfold zd at g;have:=of_decide_eq_true hk;have:=of_decide_eq_true g;omega
  rw[if_neg hn,if_pos hk]at h;unfold xE at h;simp only[Bool.and_eq_true,decide_eq_true_eq]at h;obtain⟨⟨_,h1⟩,⟨h2,h3⟩,h4⟩:=h;exact⟨h1,List.length_eq_zero_iff.1 h2,List.length_eq_zero_iff.1 h3,h4⟩
 ·have hn:¬zd S[i].k=true:=λg=>by unfold qq at hk;unfold zd at g;have:=of_decide_eq_true hk;have:=of_decide_eq_true g;omega
  have ht:¬qS S[i].k=true:=λg=>by unfold qq at hk;unfold qS at g;have:=of_decide_eq_true hk;have:=of_decide_eq_true g;omega
  rw[if_neg hn,if_neg ht,if_pos hk]at h;simp only[Bool.and_eq_true,decide_eq_true_eq]at h;obtain⟨⟨⟨h1,_⟩,h2⟩,h3⟩:=h;have hc:¬(v.ks.length>0/\S[i].k≠13\/v.b≠0/\S[i].k≠14):=λg=>by unfold ko at h1;rw[if_pos g]at h1;cases h1
  exact⟨h2,Ou h3,λhk=>List.length_eq_zero_iff.1 (by omega),λhk=>by omega⟩
theorem Qg(d:Int):60000<=jX d:=by unfold jX;exact Nat.le_mul_of_pos_right _ (Nat.pow_pos (by decide))
theorem z59{d:Int} (h:d<=5):jX d=8*jX (d+1):=by unfold jX;rw[show(6- d).toNat=(6- (d+1)).toNat+1 by omega,Nat.pow_succ];omega
structure AvH(S:List AT) (i:Nat) (hi:i<S.length) (v:GV) (d:Int):Prop where
 hS:qx S
 ls:zT S i=true
 ft:PV.fitz S i v.pv
 sn:v.pv.sn
 wt:v.pv.wt<=60000
 nl:S[i].k=12\/S[i].k=13->v.l=[]
 d5:d<=5
section
variable {S:List AT} {i:Nat} {hi:i<S.length} {v:GV} {d:Int} {L:List Int} {n n':Int}
theorem zu8(h:AvH S i hi v d) (hn:n<=n'/\n'<=L.length):zq S i d L n v true n':=⟨h.ls.symm,hn,h.sn,Nat.le_trans h.wt (Qg d),λ_=>h.ft⟩
theorem Kz(h:AvH S i hi v d) (hn:n<=n'/\n'<=L.length) {N:Int} (hk:zd S[i].k=true) (hN:0<=N/\N<18446744073709551616) (ho:km S[i] N=true):zq S i d L n (.mk N v.s v.x v.l v.y v.ks v.b) true n':=by
 obtain⟨e1,e2,e3,e4⟩:=(z32 hi h.ft.1).1 hk;have ep:(GV.mk N v.s v.x v.l v.y v.ks v.b).pv= .mk N (mkS []) [] [] 0:=by rw[GV.pv,e1,e2,e3,e4,GV.pvs]
 unfold zq;rw[ep,wG,PV.wts,qA,jQ];have:=Qg d;exact⟨h.ls.symm,hn,wE hN (by rw[jQ];decide) (by decide) (by decide) (λk hk=>by cases hk) (λv hv=>by cases hv),by omega,λ_=>zui hi hk ho⟩
theorem IY(h:AvH S i hi v d) (hn:n<=n'/\n'<=L.length) {s:IV} (hk:qS S[i].k=true) (hs:s.size<=1000) (ho:vZ S[i] s=true):zq S i d L n (.mk v.n s v.x v.l v.y v.ks v.b) true n':=by
 obtain⟨e1,e2,e3,e4⟩:=(z32 hi h.ft.1).2.1 hk;have ep:(GV.mk v.n s v.x v.l v.y v.ks v.b).pv= .mk 0 s [] [] 0:=by rw[GV.pv,e1,e2,e3,e4,GV.pvs]
 unfold zq;rw[ep,wG,PV.wts,qA];have:=Qg d;exact⟨h.ls.symm,hn,wE (by decide) (by omega) (by decide) (by decide) (λk hk=>by cases hk) (λv hv=>by cases hv),by omega,λ_=>N5 hi hk ho (by split<;>omega)⟩
theorem WQ{k:Int} (h:k=9\/k=12\/k=13\/k=14):qq k=true:=by unfold qq;exact decide_eq_true h
theorem jfq(h:AvH S i hi v d) {b:Nat} (hk:S[i].k=14) (hb:b<S[i].brs.length) {w:GV} {x:SV} {m:Int} (hm:n<=m) (hw:zq S (S[i].brs[b]) (d+1) L m w true n'):zq S i d L n (.mk v.n v.s x [w] v.y v.ks (b:Int)) true n':=by
 obtain⟨e1,e2,e3,e4⟩:=(z32 hi h.ft.1).2.2 (WQ (by omega));have e3:=e3 (by omega);obtain⟨w1,w2,w3,w4,w5⟩:=hw;have ep:(GV.mk v.n v.s x [w] v.y v.ks (b:Int)).pv= .mk 0 (mkS []) [w.pv] [] b:=by rw[GV.pv,e1,e2,e3,GV.pvs,GV.pvs]
 have hd:=z59 h.d5;have:=Qg (d+1);unfold zq;rw[ep,wG,qA,jQ,Jw];exact⟨h.ls.symm,⟨by omega,w2.2⟩,wE (by decide) (by rw[jQ];decide) (by show 1<=1000;decide) (by decide) (λk hk=>by cases hk) (λu hu=>by simp at hu;subst hu;exact w3),by omega,λ_=>zd3 hi hk hb (by rw[z49 hb];exact w5 rfl)⟩
theorem jfp(h:AvH S i hi v d) (hk:S[i].k=9) {fs:List GV} {x:SV} {j:Nat} (hj:S[i].fs.length<=j) (hI:ue S S[i] L d n j n' (GV.pvs fs)):zq S i d L n (.mk v.n v.s x fs v.y v.ks v.b) true n':=by
 obtain⟨e1,e2,e3,e4⟩:=(z32 hi h.ft.1).2.2 (WQ (by omega));have e3:=e3 (by omega);have e4:=e4 (by omega);obtain⟨⟨l1,l2⟩,l3,l4,l5,l6⟩:=hI;have hf:=(h.hS.2 S[i] (List.getElem_mem hi)).2.2.2.2.2.2.2.1;have ep:(GV.mk v.n v.s x fs v.y v.ks v.b).pv= .mk 0 (mkS []) (GV.pvs fs) [] 0:=by rw[GV.pv,e1,e2,e3,e4]
 have hd:=z59 h.d5;have:=Qg (d+1);have hm:(GV.pvs fs).length*jX (d+1)<=7*jX (d+1):=Nat.mul_le_mul_right _ (by omega);unfold zq;rw[ep,wG,qA,jQ];exact⟨h.ls.symm,l3,wE (by decide) (by rw[jQ];decide) (by omega) (by decide) (λk hk=>by cases hk) l5,by omega,λ_=>zd2 hi hk (by omega) l4⟩
theorem Oa(h:AvH S i hi v d) (hk:S[i].k=12) {fs:List GV} {x:SV} {m:Int} (hI:xK S S[i] L d n m n' (GV.pvs fs)):zq S i d L n (.mk v.n v.s x fs v.y v.ks v.b) true n':=by
 obtain⟨e1,e2,e3,e4⟩:=(z32 hi h.ft.1).2.2 (WQ (by omega));have e3:=e3 (by omega);have e4:=e4 (by omega);obtain⟨⟨l1,l2⟩,l3,l4,l5⟩:=hI;have ep:(GV.mk v.n v.s x fs v.y v.ks v.b).pv= .mk 0 (mkS []) (GV.pvs fs) [] 0:=by rw[GV.pv,e1,e2,e3,e4]
 have hd:=z59 h.d5;have:=Qg (d+1);have hm:(GV.pvs fs).length*jX (d+1)<=3*jX (d+1):=Nat.mul_le_mul_right _ (by omega);unfold zq;rw[ep,wG,qA,jQ];exact⟨h.ls.symm,l3,wE (by decide) (by rw[jQ];decide) (by omega) (by decide) (λk hk=>by cases hk) (λu hu=>(l4 u hu).2),by omega,λ_=>zd0 hi hk λu hu=>(l4 u hu).1⟩
theorem Oc(h:AvH S i hi v d) (hk:S[i].k=13) {u:GV} {m:Int} (hI:QS S S[i] L d n m n' u):zq S i d L n u true n':=by
 obtain⟨⟨l1,l2⟩,l3,⟨e1,e2,e4⟩,⟨l4,l5⟩,l6,l7,l8,l9⟩:=hI;have ep:u.pv= .mk 0 (mkS []) (GV.pvs u.l) u.ks 0:=by rw[GV.pv_eq,e1,e2,e4]
 have hd:=z59 h.d5;have:=Qg (d+1);have hm:(3- m)*((jX (d+1):Int)+12)<=3*((jX (d+1):Int)+12):=Int.mul_le_mul_of_nonneg_right (by omega) (by omega);have hl:=GV.pvs_len u.l;unfold zq;rw[ep,wG,jQ];exact⟨h.ls.symm,l3,wE (by decide) (by rw[jQ];decide) (by omega) (by omega) (λk hk=>by have:=l8 k hk;omega) (λu hu=>(l7 u hu).2),by omega,λ_=>zd1 hi hk (by omega) l6 λu hu=>(l7 u hu).1⟩
variable {a:AT} {fs:List GV}
theorem zpq{j:Nat} {n1 n2:Int} (hj:j<a.fs.length) (hI:ue S a L d n j n1 (GV.pvs fs)) {w:GV} {b:Bool} (hb:zT S (a.fs[j]).ty=true) (hw:zq S (a.fs[j]).ty (d+1) L n1 w b n2):ue S a L d n (j+1) n2 (GV.pvs (fs++[w])):=by
 obtain⟨⟨l1,l2⟩,l3,l4,l5,l6⟩:=hI;obtain⟨w1,w2,w3,w4,w5⟩:=hw;rw[Ni];refine⟨⟨by simp[l1],by omega⟩,⟨by omega,w2.2⟩,λk h1 h2=> ?_,λu hu=> ?_,?_⟩
 ·by_cases hk:k<(GV.pvs fs).length
  ·rw[List.getElem_append_left hk];exact l4 k hk h2
  ·obtain rfl:k=j:=(by simp at h1;omega);rw[List.getElem_append_right (by omega)];simp only[l1,Nat.sub_self,List.getElem_cons_zero];exact w5 (w1.trans hb)
 ·rcases List.mem_append.1 hu with hu|hu
  ·exact l5 u hu
  ·simp at hu;subst hu;exact w3
 ·rw[xn,Jw,List.length_append,Nat.add_mul];show _<=_+1*_;omega
theorem znk{m n1 n2:Int} (hm:0<m) (hI:xK S a L d n m n1 (GV.pvs fs)) {w:GV} (hw:zq S a.it (d+1) L n1 w true n2):xK S a L d n (m- 1) n2 (GV.pvs (fs++[w])):=by
 obtain⟨⟨l1,l2⟩,l3,l4,l5⟩:=hI;obtain⟨w1,w2,w3,w4,w5⟩:=hw;rw[Ni];refine⟨⟨by omega,by rw[List.length_append,List.length_singleton];omega⟩,⟨by omega,w2.2⟩,λu hu=> ?_,?_⟩
 ·rcases List.mem_append.1 hu with hu|hu
  ·exact l4 u hu
  ·simp at hu;subst hu;exact⟨w5 rfl,w3⟩
 ·rw[xn,Jw,List.length_append,Nat.add_mul];show _<=_+1*_;omega
theorem zxn{m n1 n2 n3:Int} {u z:GV} (hm:0<m) (hI:QS S a L d n m n1 u) {w:GV} {k:IV} (hk:qu k=true) (hks:k.size=2) (hw:zq S a.it (d+1) L n1 w true n2) (hn3:n2<=n3/\n3<=L.length) (hz:z.pv= .mk u.n u.s (zH k u.ks (GV.pvs u.l) w.pv) (qO k u.ks) u.b):QS S a L d n (m- 1) n3 z:=by
 obtain⟨⟨l1,l2⟩,l3,⟨e1,e2,e4⟩,⟨l4,l5⟩,l6,l7,l8,l9⟩:=hI;obtain⟨w1,w2,w3,w4,w5⟩:=hw;rw[GV.pv_eq]at hz;injection hz with z1 z2 z3 z4 z5
 have hpl:=zj9 k u.ks (GV.pvs u.l) w.pv (by rw[GV.pvs_len];exact l4);rw[←z3,←z4,GV.pvs_len,GV.pvs_len]at hpl;have hkz:=zy7 (k:=k) (ks:=u.ks);have hwz:=zy9 (k:=k) (ks:=u.ks) (l:=GV.pvs u.l) (w:=w.pv);rw[←z3]at hwz;rw[←z4]at hkz;have hmul:(3- (m- 1))*((jX (d+1):Int)+12)=(3- m)*((jX (d+1):Int)+12)+((jX (d+1):Int)+12):=by rw[show 3- (m- 1)=(3- m)+1 by omega,Int.add_mul,Int.one_mul]
 refine⟨⟨by omega,by omega⟩,⟨by omega,hn3.2⟩,⟨z1.trans e1,z2.trans e2,z5.trans e4⟩,⟨hpl.1,by omega⟩,by rw[z4];exact zd9 hk l6,λy hy=> ?_,λy hy=> ?_,by rw[hmul];omega⟩
 ·rw[z3]at hy;rcases zpo hy with rfl|hy
  ·exact⟨w5 rfl,w3⟩
  ·exact l7 y hy
 ·rw[z4]at hy;rcases zdl hy with rfl|hy
  ·omega
  ·exact l8 y hy
end
theorem Hp(M:List Int) {r:Nat} (h:r<M.length):∀(j:Nat) v,[Value.int .u64 (M.getD r 0)][j]? =some v->(M.map (Value.int .u64))[0+r*1+j]? =some v:=λj v hj=>by
  cases j with
  |succ j=>simp at hj
  | zero=>
    rw[Nat.zero_add,Nat.mul_one,Nat.add_zero,List.getElem?_map,List.getElem?_eq_getElem h,←hj,z49 h];rfl
theorem Hq{M:List Int} {p:Int->Prop} (hp:∀x∈M,p x) {r:Nat} (h:r<M.length):p (M.getD r 0):=hp _ (WE h)
theorem zus(M:List IV) {r:Nat} (h:r<M.length):∀(j:Nat) v,[Value.string (M.getD r (mkS []))][j]? =some v->(M.map Value.string)[0+r*1+j]? =some v:=λj v hj=>by
  cases j with
  |succ j=>simp at hj
  | zero=>
    rw[Nat.zero_add,Nat.mul_one,Nat.add_zero,List.getElem?_map,List.getElem?_eq_getElem h,←hj,List.getD_eq_getElem?_getD,List.getElem?_eq_getElem h];rfl
theorem zur{M:List IV} {p:IV->Prop} (hp:∀x∈M,p x) {r:Nat} (h:r<M.length):p (M.getD r (mkS [])):=hp _ (by rw[List.getD_eq_getElem?_getD,List.getElem?_eq_getElem h];exact List.getElem_mem h)
theorem Q_{q:Pub} {v:GV} (h:v.ok q) (N:Int) (s:IV) (b:Int):(GV.mk N s v.x v.l v.y v.ks b).ok q:=by rw[GV.ok_eq]at h;unfold GV.ok;exact h
end
section
variable (L:Bool) (c:SV) (h:Int) (d:List AT) (i q:Int) (f:List Int) (e:SV) (H:Nat) (J:Int) (o:Nat) (k:Option Addr) (r:Nat) (t:IV) (u:Option Addr) (v w:Nat) (z:Int) (A:Option Addr) (B:Nat) (C:IV) (G:Int) (D:Option Addr) (E F K:Nat) (a:zb) (T:List Int) (j:yT) (p:Nat×Int×List GV) (l:Int×Int×List GV) (R:Prop) (S:Nat->Option Obj) (x33 x34 x35 x36 x37:Int)
 abbrev zY:=(True/\qd d c S/\qc qn e f S)/\GV.ok zV S
 def Zx:=GV.n a.1=0/\GV.s a.1=mkS []/\R
 def Yg:=(GV.y a.1).1=noA/\(GV.y a.1).2.1=0/\(GV.y a.1).2.2=0/\R
 def UT:=(GV.x a.1).1=noA/\(GV.x a.1).2.1=0/\(GV.x a.1).2.2=0/\Yg a (GV.b a.1=0/\R)
 def jq:=c.1=c.1/\c.2.1=c.2.1/\c.2.2=c.2.2/\R
 abbrev J_:=zq d h i f q a.1 a.2.1 a.2.2
 def Mu:=J_ h d i q f a/\(∀g,zY c d f e g->GV.ok a.1 g)/\True
 def Mr:=∃(g:zb),Zx g (UT g (g.2.1=L/\jq c (g.2.2=h/\Mu e i d q h f c g)))
 def UV:=(∀g,zY c d f e g->qc qn (e.1,e.2.1,e.2.2) T g)
 def J':=h=h/\(0<=h/\h<=(↑(length f):Int)/\0<i/\i<1000000/\zM f)/\UV c d T e f/\R
 def J9:=UT a (a.2.1=true/\jq c (a.2.2=qh f h/\Mu e i d q h T c a))
 abbrev UX:=nat_lit 0+toNat (ql f h i)*1
 def Mo:=(Jt (h=z)->∃(g:List Int),(7:Int)=7/\jq c (J' e i d 7 g c f ((0<=ql g i 7/\ql g i (7:Int)<(↑(nat_lit 7):Int))/\∃(m:Int),qgf [int u64 0,int u64 G,int u64 x33,int u64 x34,int u64 x35,int u64 x36,int u64 x37] (UX i 7 g) [int u64 m]/\∃(I:zb),GV.n I.1=m/\GV.s I.1=mkS []/\J9 c i d q J g e I f)))
 def BI:=h=h/\(0<=h/\h<=(↑(length f):Int)/\0<(↑H:Int)/\(↑H:Int)<1000000/\zM f)/\R
 abbrev Mt:=Jb (h+1)
 def Mq:=j.2.1.1=c.1/\j.2.1.2.1=c.2.1/\j.2.1.2.2=c.2.2/\j.2.2.1=h/\j.2.2.2.1=i+1/\j.2.2.2.2.1.1=e.1/\j.2.2.2.2.1.2.1=e.2.1/\j.2.2.2.2.1.2.2=e.2.2/\R
 def Mp:=(vT j<H/\qx j.1/\(0<=j.2.2.1/\j.2.2.1<(↑(length j.1):Int))/\wL (qe j.1 j.2.2.1)/\(0<=j.2.2.2.1/\j.2.2.2.1<=6)/\0<=j.2.2.2.2.2.2/\j.2.2.2.2.2.2<=(↑(length j.2.2.2.2.2.1):Int)/\zM j.2.2.2.2.2.1)
 def Ms:=qd j.1 j.2.1 S/\qc qn j.2.2.2.2.1 j.2.2.2.2.2.1 S
 abbrev BG:=slice (GV.x a.1).1 (GV.x a.1).2.1 (GV.x a.1).2.2
 abbrev BH:=slice (GV.y a.1).1 (GV.y a.1).2.1 (GV.y a.1).2.2
 def BC:=AV.agg [AV.sv (int u64 (GV.n a.1)),AV.sv (string (GV.s a.1)),AV.sv (BG a),AV.sv (BH a),AV.sv (int i64 (GV.b a.1))]=AV.agg [AV.sv (int u64 (GV.n a.1)),AV.sv (string (GV.s a.1)),AV.sv (BG a),AV.sv (BH a),AV.sv (int i64 (GV.b a.1))]
 abbrev BF:=q37 S (Addr.mk H o none) [int u64 (GV.n a.1),string (GV.s a.1),slice (GV.x a.1).1 (GV.x a.1).2.1 (GV.x a.1).2.2,slice (GV.y a.1).1 (GV.y a.1).2.1 (GV.y a.1).2.2,int i64 (GV.b a.1)]
 def Yf:=c.1=j.2.2.2.2.1.1/\c.2.1=j.2.2.2.2.1.2.1/\c.2.2=j.2.2.2.2.1.2.2/\R
 def aK:=BC a/\∀(g Q m:Nat),(∃I,((zY c d f e I)/\GV.ok a.1 I)/\BF g Q a I)->∃(M:zb),Zx M ((GV.x M.1).1=some (Addr.mk g (Q+nat_lit 0) none)/\(GV.x M.1).2.1=nat_lit 1/\(GV.x M.1).2.2=nat_lit 1/\Yg M (GV.b M.1=ql T h (↑H:Int)/\M.2.1=true/\Yf e j (M.2.2=a.2.2/\J_ i d q h f M/\(∀O,((zY c d f e O)/\GV.ok a.1 O)/\BF g Q a O->GV.ok M.1 O)/\True)))
 def aC:=(a.2.1=true->aK c h d i q f e H a T j)/\(a.2.1=false->∃(U:zb),Zx U (UT U (U.2.1=true/\Yf e j (U.2.2=a.2.2/\J_ i d q h f U/\(∀Z,(zY c d f e Z)/\GV.ok a.1 Z->GV.ok U.1 Z)/\True))))
 def BD:=(0<=ql f h (↑H:Int)/\ql f h (↑H:Int)<(↑H:Int))/\k≠noA/\∃(g:Int),(∀Q,zY c d T e Q->q37 Q (adr k (toNat (ql f h (↑H:Int))*1)) [int i64 g])/\Mt i/\∃(m:yT),Mq c g i e m (m.2.2.2.2.2.2=qh f h/\Mp o m/\(∀I,zY c d T e I->Ms m I)/\∀(M:zb),zq m.1 m.2.2.1 m.2.2.2.1 m.2.2.2.2.2.1 m.2.2.2.2.2.2 M.1 M.2.1 M.2.2->(∃O,(zY c d T e O)/\GV.ok M.1 O)->aC c h d q i T e H M f m)
 def UU:=h=h/\t=t/\k=k/\H=H/\o=o/\i=i/\u=u/\r=r/\v=v/\L=L/\C=C/\q=q/\A=A/\w=w/\B=B/\D=D/\E=E/\F=F/\(∀g,zY c d f e g->zY c d f e g)/\R
 def aI:=length (qa GV.cells p.2.2)=length p.2.2*5/\(length p.2.2+nat_lit 1)*80<=140737488355328/\Jb ((↑p.1:Int)+1)/\∃(g:Nat×Int×List GV),h=h/\(↑g.1:Int)=(↑p.1:Int)+1/\Yf c j (g.2.1=a.2.2/\length g.2.2=length p.2.2+nat_lit 1/\jq e (i=i/\t=t/\k=k/\H=H/\o=o/\q=q/\u=u/\r=r/\v=v/\L=L/\C=C/\J=J/\A=A/\w=w/\B=B/\D=D/\E=E/\F=F/\qa GV.cells g.2.2=qa GV.cells p.2.2++[int u64 (GV.n a.1),string (GV.s a.1),slice (GV.x a.1).1 (GV.x a.1).2.1 (GV.x a.1).2.2,slice (GV.y a.1).1 (GV.y a.1).2.1 (GV.y a.1).2.2,int i64 (GV.b a.1)]/\(∀Q,((zY e d f c Q)/\GV.oks p.2.2 Q)/\GV.ok a.1 Q->zY e d f c Q)/\(∀m,((zY e d f c m)/\GV.oks p.2.2 m)/\GV.ok a.1 m->GV.oks g.2.2 m)/\ue d (qe d z) f h G g.1 g.2.1 (GV.pvs g.2.2)/\length (AT.fs (qe d z))- g.1<length (AT.fs (qe d z))- p.1/\True))
 def BE:=(0<=(↑p.1:Int)/\(↑p.1:Int)<(↑H:Int))/\k≠noA/\∃(g:Int),(∀Q,(zY c d f e Q)/\GV.oks p.2.2 Q->q37 Q (Addr.add (adr k (toNat (↑p.1:Int)*9)) 2) [int i64 g])/\Mt h/\∃(m:yT),Mq c g h e m (m.2.2.2.2.2.2=p.2.1/\Mp o m/\(∀I,(zY c d f e I)/\GV.oks p.2.2 I->Ms m I)/\∀(M:zb),zq m.1 m.2.2.1 m.2.2.2.1 m.2.2.2.2.2.1 m.2.2.2.2.2.2 M.1 M.2.1 M.2.2->(∃O,((zY c d f e O)/\GV.oks p.2.2 O)/\GV.ok M.1 O)->aI L e h d i q f c r J v u w t A B H z k E C G D F K M m p)
 def aF:=(BE L c h d i q f e H J o k r t u v w z A B C G D E F K p)/\BE L c h d i q f e H J o k r t u v w z A B C G D E F K p
 def aD:=Ji ((↑p.1:Int)<(↑H:Int)) (aF L c h d i q f e H J o k r t u v w z A B C G D E F K p) (∀(i18 i19 i20:Nat) (V:Option Addr) (i22 Y:Nat),(∃i24,((zY c d f e i24)/\GV.oks p.2.2 i24)/\length p.2.2<=Y/\qgs i24 V (take (length p.2.2*nat_lit 5) (qa GV.cells p.2.2)))->∃(N:zb),Zx N ((GV.x N.1).1=V/\(GV.x N.1).2.1=length p.2.2/\(GV.x N.1).2.2=Y/\Yg N (GV.b N.1=0/\N.2.1=true/\jq e (N.2.2=p.2.1/\J_ z d h G f N/\(∀W,((zY c d f e W)/\GV.oks p.2.2 W)/\length p.2.2<=Y/\qgs W V (take (length p.2.2*nat_lit 5) (qa GV.cells p.2.2))->GV.ok N.1 W)/\True))))
 def aB:=(∃(g:Nat×Int×List GV),h=h/\(↑g.1:Int)=0/\jq c (g.2.1=i/\length g.2.2=0/\jq e (UU L e q d J z f c H o k r t u v w A B C D E F ((∀m,zY e d f c m->GV.oks g.2.2 m)/\ue d (qe d G) f h i g.1 g.2.1 (GV.pvs g.2.2)/\True))))/\∀(I:Nat×Int×List GV),ue d (qe d G) f h i I.1 I.2.1 (GV.pvs I.2.2)->(∃M,(zY e d f c M)/\GV.oks I.2.2 M)->aD L e h d q J f c w z K A H t k o r G u v C i D B E F I
 def Ka:=((zY c d f e S)/\GV.oks l.2.2 S)/\GV.ok a.1 S
 def UW:=length l.2.2<=H/\qgs S k (take (length l.2.2*nat_lit 5) (qa GV.cells l.2.2))
 def BJ:=(GV.x a.1).1=k/\(GV.x a.1).2.1=length l.2.2/\(GV.x a.1).2.2=H/\R
 def aL:=length (qa GV.cells l.2.2)=length l.2.2*5/\(length l.2.2+nat_lit 1)*80<=140737488355328/\Jb (l.1- 1)/\∃(g:Int×Int×List GV),h=h/\g.1=l.1- 1/\Yf c j (g.2.1=a.2.2/\length g.2.2=length l.2.2+nat_lit 1/\jq e (i=i/\t=t/\k=k/\H=H/\o=o/\q=q/\u=u/\r=r/\v=v/\L=L/\C=C/\J=J/\A=A/\w=w/\B=B/\D=D/\E=E/\F=F/\qa GV.cells g.2.2=qa GV.cells l.2.2++[int u64 (GV.n a.1),string (GV.s a.1),slice (GV.x a.1).1 (GV.x a.1).2.1 (GV.x a.1).2.2,slice (GV.y a.1).1 (GV.y a.1).2.1 (GV.y a.1).2.2,int i64 (GV.b a.1)]/\(∀Q,Ka e d f c a l Q->zY e d f c Q)/\(∀m,Ka e d f c a l m->GV.oks g.2.2 m)/\xK d (qe d z) f h G g.1 g.2.1 (GV.pvs g.2.2)/\toNat g.1<toNat l.1/\True))
 def aJ:=Ji (h=12) (aL L c i d h q f e H J o k r t u v w z A B C G D E F a j l) (∃(I:List Int),(5:Int)=5/\j.2.2.2.2.1.1=j.2.2.2.2.1.1/\j.2.2.2.2.1.2.1=j.2.2.2.2.1.2.1/\j.2.2.2.2.1.2.2=j.2.2.2.2.1.2.2/\a.2.2=a.2.2/\(0<=a.2.2/\a.2.2<=(↑(length I):Int)/\(0:Int)<5/\(5:Int)<1000000/\zM I)/\(∀M,Ka e d f c a l M->qc qn (j.2.2.2.2.1.1,j.2.2.2.2.1.2.1,j.2.2.2.2.1.2.2) I M)/\((-9223372036854775808:Int)<=97+ql I a.2.2 5/\(97:Int)+ql I a.2.2 (5:Int)<=9223372036854775807)/\∃O,size O=1/\qgf [int u8 (IntKind.wrap u8 ((97:Int)+ql I a.2.2 5))] 0 (q18 O)/\size (mkS [107])+size O<=9223372036854775807/\AV.agg [AV.int u64 0,AV.str [],AV.ssl (nat_lit 40) (nat_lit 0) (length l.2.2) (nat_lit 5) (nat_lit 41),AV.nsl,AV.int i64 0]=AV.agg [AV.int u64 0,AV.str [],AV.ssl (nat_lit 40) (nat_lit 0) (length l.2.2) (nat_lit 5) (nat_lit 41),AV.nsl,AV.int i64 0]/\BC a/\∃(U:GV×IV×GV),GV.n U.1=0/\GV.s U.1=mkS []/\False)
 def aH:=((!a.2.1)=true->∀(g Q m:Nat) (I:Option Addr) (M O:Nat),(∃U,(Ka c d f e a l U)/\UW O I l U)->∃(Z:zb),Zx Z (BJ O I Z l (Yg Z (GV.b Z.1=0/\Z.2.1=true/\Yf e j (Z.2.2=a.2.2/\J_ h d i q f Z/\(∀i8,(Ka c d f e a l i8)/\UW O I l i8->GV.ok Z.1 i8)/\True)))))/\((!a.2.1)=false->aJ L e J d i z f c H G o k r t u v w h A B C q D E F a j l)
 def aG:=Mt h/\∃(g:yT),Mq c i h e g (g.2.2.2.2.2.2=l.2.1/\Mp H g/\(∀Q,(zY c d f e Q)/\GV.oks l.2.2 Q->Ms g Q)/\∀(m:zb),zq g.1 g.2.2.1 g.2.2.2.1 g.2.2.2.2.2.1 g.2.2.2.2.2.2 m.1 m.2.1 m.2.2->(∃I,Ka c d f e m l I)->aH L c q d h J f e o z r k v t u w B i A E C G D F K m g l)
 def aE:=Ji (0<l.1) (aG L c h d i q f e H J o k r t u v w z A B C G D E F K l) (∀(i20 V i22:Nat) (Y:Option Addr) (i24 N:Nat),(∃W,((zY c d f e W)/\GV.oks l.2.2 W)/\UW N Y l W)->∃(X:zb),Zx X (BJ N Y X l (Yg X (GV.b X.1=0/\X.2.1=true/\jq e (X.2.2=l.2.1/\J_ q d h J f X/\(∀i28,((zY c d f e i28)/\GV.oks l.2.2 i28)/\UW N Y l i28->GV.ok X.1 i28)/\True)))))
 def aA:=(yQ h=true->∃(g:List Int),(4:Int)=4/\jq c (J' e i d 4 g c f ((∃(m:Int×Int×List GV),q=q/\m.1=ql g i 4/\jq c (m.2.1=qh g i/\length m.2.2=0/\jq e (UU L e h d J z f c H o k r t u v w A B C D E F ((∀M,zY e d f c M->GV.oks m.2.2 M)/\xK d (qe d G) f q i m.1 m.2.1 (GV.pvs m.2.2)/\True))))/\∀(O:Int×Int×List GV),xK d (qe d G) f q i O.1 O.2.1 (GV.pvs O.2.2)->(∃U,(zY e d f c U)/\GV.oks O.2.2 U)->aE L e q d J G f c K i H k o t u r v h A w C z D B E F O)))/\(yQ h=false->∃(i36:zb),Zx i36 (UT i36 (i36.2.1=true/\jq c (i36.2.2=i/\Mu e G d q i f c i36))))
 def az:=(Ji (h=12) (∃(g:Unit),i=i/\yQ h=decide (h=12)/\h=h/\jq c (q=q/\jq e (UU L e h d J z f c H o k r t u v w A B C D E F (True/\True)))) (∃(m:Unit),i=i/\yQ h=decide (h=13)/\h=h/\jq c (q=q/\jq e (UU L e h d J z f c H o k r t u v w A B C D E F (True/\True)))))/\∀(M:Unit),True->aA L c h d q i f e H J o k r t u v w z A B C G D E F K
 def ay:=Ji (h=9) (aB L c i d q h f e H J o k r t u v w z A B C G D E F K) (az L c h d i q f e H J o k r t u v w z A B C G D E F K)
 def ax:=Ji (h=14) (∃(g:List Int),(↑H:Int)=(↑H:Int)/\jq c (BI i g H (UV e d f c g/\(BD e i d q J g c H o k f)/\BD e i d q J g c H o k f))) (ay L c h d q i f e r z v u w t A B E G D F C J k H K o)
 def oR:=Ji (h=10) (∃(g:List Int),(↑H:Int)=(↑H:Int)/\jq c (BI i g H (UV e d f c g/\∃(m:zb),GV.n m.1=IntKind.wrap u64 (ql g i (↑H:Int))/\GV.s m.1=mkS []/\J9 c i d q J g e m f))) (ax L c h d i J f e o q r k v t u w H z A B C G D E F K)
 def oQ:=Ji (h=7) (∃(g:List Int),(4:Int)=4/\jq c (J' e i d 4 g c f ((0<=ql g i 4/\ql g i (4:Int)<(↑(nat_lit 4):Int))/\∃m,qgf [string (mkS []),string (mkS [255]),string (mkS [0]),string (mkS [98])] (UX i 4 g) [string m]/\∃(I:zb),GV.n I.1=0/\GV.s I.1=m/\J9 c i d q J g e I f))) (oR L c h d i q f e H J o k r t u v w z A B C G D E F K)
 def oP:=Ji (h=8) (∃(g:List Int),(4:Int)=4/\jq c (J' e i d 4 g c f ((0<=ql g i 4/\ql g i (4:Int)<(↑(nat_lit 4):Int))/\∃m,qgf [string (mkS []),string (mkS [97]),string (mkS [195,164]),string (mkS [116,101,120,116])] (UX i 4 g) [string m]/\∃(I:zb),GV.n I.1=0/\GV.s I.1=m/\J9 c i d q J g e I f))) (oQ L c h d i q f e H J o k r t u v w z A B C G D E F K)
 def oO:=Ji (h=6) (∃(g:List Int),(5:Int)=5/\jq c (J' e i d 5 g c f ((0<=ql g i 5/\ql g i (5:Int)<(↑(nat_lit 5):Int))/\∃(m:Int),qgf [int u64 0,int u64 4607182418800017408,int u64 1,int u64 9223372036854775808,int u64 9218868437227405312] (UX i 5 g) [int u64 m]/\∃(I:zb),GV.n I.1=m/\GV.s I.1=mkS []/\J9 c i d q J g e I f))) (oP L c h d i q f e H J o k r t u v w z A B C G D E F K)
 def oM:=Mo c h d i q f e J 5 1065353216 2139095040 1 3212836864 2143289345 2147483648/\(Jf (h=5)->oO L c h d i q f e H J o k r t u v w z A B C G D E F K)
 def oL:=Mo c h d i q f e J 4 1 18446744073709551615 1099511627776 9223372036854775807 9223372036854775808 9007199254740993/\(Jf (h=4)->oM L c h d i q f e H J o k r t u v w z A B C G D E F K)
 def oK:=Mo c h d i q f e J 3 1 18446744073709551615 300 2147483647 18446744071562067968 16777217/\(Jf (h=3)->oL L c h d i q f e H J o k r t u v w z A B C G D E F K)
 def oJ:=(0<=h/\h<(↑c.2.1:Int))/\c.1≠noA/\∃(g:Int),∃Q,∃m,∃(I:Nat),∃(M:Nat),∃(O:Int),∃U,∃(Z:Nat),∃(i8:Nat),∃(i9:Bool),∃i10,∃(i11:Int),∃i12,∃(i13:Nat),∃(i14:Nat),∃i15,∃(i16:Nat),∃(i17:Nat),(∀i18,zY c d f e i18->q37 i18 (adr c.1 (toNat h*10)) [int i64 g,string Q,slice m I M,int i64 O,slice U Z i8,bool i9,string i10,int i64 i11,slice i12 i13 i14,slice i15 i16 i17])/\Ji (g=2) (∃(i19:List Int),(2:Int)=2/\jq e (J' c i d 2 i19 e f (∃(V:zb),GV.n V.1=IntKind.wrap u64 (ql i19 i 2)/\GV.s V.1=mkS []/\J9 e i d h q i19 c V f))) (oK i9 e g d i h f c Z q i16 i15 H Q m I M O U i8 i10 i11 i12 i13 i14 i17)
 def oI:=Ji (5<h) (Mr L c i d q h f e) (∃(m:List Int),jq c (i=i/\True/\UV e d f c m/\Ji ((↑(length m):Int)<=i) (Mr L c i d q h f e) (oJ e q d i h f c H)))
 def oH:=((!L)=true->Mr L c h d i q f e)/\((!L)=false->oI L c q d h i f e H)
end
def zgw(c:Nat) (S:List AT) (x:SV) (t d:Int) (y:SV) (L:List Int) (n:Int):qk4 P (qfa [(23,Qz),(22,WW)]) (qgc [(10,(yH wL).below vT c),(21,zh8),(24,Kh)]) Tryz.f10 ((yH Xk).below vT (c+1)) (HN true) ⟨S,x,t,d,y,L,n⟩=(vT (S,x,t,d,y,L,n)<c+1/\qx S/\(0<=t/\t<(↑(length S):Int))/\Xk (qe S t)/\(0<=d/\d<=6)/\0<=n/\n<=(↑(length L):Int)/\zM L->(∃(p:Pub),True/\qd S x p/\qc qn y L p)->∃(s:List AT×(Option Addr×Nat×Nat)×Int),s.2.1.1=x.1/\s.2.1.2.1=x.2.1/\s.2.1.2.2=x.2.2/\s.2.2=t/\(qx s.1/\AT.k (qe s.1 s.2.2)=12)/\(∀(p:Pub),True/\qd S x p/\qc qn y L p->qd s.1 s.2.1 p)/\∀(b:Bool),b=zT s.1 s.2.2->(∃(p:Pub),zY x S L y p)->oH b y n S t d L x c):=by kernel_rfl
def znn:=λc S x t d y L n=>Eq.trans (zgw c S x t d y L n) (by delta Ji Jb Jt Jf zY Zx Yg UT jq J_ Mu Mr UV J' J9 UX Mo BI Mt Mq Mp Ms BG BH BC BF Yf aK aC BD UU aI BE aF aD aB Ka UW BJ aL aJ aH aG aE aA az ay ax oR oQ oP oO oM oL oK oJ oI oH;exact rfl)
section
variable (c:GV×Bool) (e:SV) (j:Int) (f:List AT) (k J:Int) (i:List Int) (h:SV) (L:Nat) (M:Int) (q:Nat) (p:Option Addr) (u:Nat) (v:IV) (w:Option Addr) (z A:Nat) (B:Int) (C:Option Addr) (D:Nat) (E:Bool) (F:IV) (K:Int) (G:Option Addr) (H I N:Nat) (a:zb) (S:List Int) (m:yT) (g:Int×Int×GV) (t:Nat×Int×List GV) (T:Prop) (W:Nat->Option Obj) (x34 x35 x36 x37 x38:Int) (V:GV)
 abbrev zO:=(True/\qd f e W/\qc qn h i W)/\GV.ok c.1 W
 def Yi:=GV.n a.1=GV.n c.1/\GV.s a.1=GV.s c.1/\T
 def Mz:=(GV.y a.1).1=(GV.y c.1).1/\(GV.y a.1).2.1=(GV.y c.1).2.1/\(GV.y a.1).2.2=(GV.y c.1).2.2/\T
 def UY:=(GV.x a.1).1=(GV.x c.1).1/\(GV.x a.1).2.1=(GV.x c.1).2.1/\(GV.x a.1).2.2=(GV.x c.1).2.2/\Mz c a (GV.b a.1=GV.b c.1/\T)
 def jr:=e.1=e.1/\e.2.1=e.2.1/\e.2.2=e.2.2/\T
 abbrev Qx:=zq f j k i J a.1 a.2.1 a.2.2
 def My:=∃(d:zb),Yi c d (UY c d (d.2.1=c.2/\jr e (d.2.2=j/\Qx k f J j i d/\(∀O,zO c h f i e O->GV.ok d.1 O)/\True)))
 def U1:=(∀d,zO c e f i h d->qc qn (h.1,h.2.1,h.2.2) S d)
 def Kc:=j=j/\(0<=j/\j<=(↑(length i):Int)/\0<k/\k<1000000/\zM i)/\U1 c e f S h i/\T
 def Kb:=UY c a (a.2.1=true/\jr e (a.2.2=qh i j/\Qx k f J j S a/\(∀d,zO c h f S e d->GV.ok a.1 d)/\True))
 abbrev U2:=nat_lit 0+toNat (ql i j k)*1
 def Mv:=(Jt (j=B)->∃(d:List Int),(7:Int)=7/\jr e (Kc c h k f 7 d e i ((0<=ql d k 7/\ql d k (7:Int)<(↑(nat_lit 7):Int))/\∃(O:Int),qgf [int u64 0,int u64 K,int u64 x34,int u64 x35,int u64 x36,int u64 x37,int u64 x38] (U2 k 7 d) [int u64 O]/\∃(o:zb),GV.n o.1=O/\GV.s o.1=GV.s c.1/\Kb c e k f J M d h o i)))
 def BV:=j=j/\(0<=j/\j<=(↑(length i):Int)/\0<(↑L:Int)/\(↑L:Int)<1000000/\zM i)/\T
 abbrev MB:=Jb (j+1)
 def Mx:=m.2.1.1=e.1/\m.2.1.2.1=e.2.1/\m.2.1.2.2=e.2.2/\m.2.2.1=j/\m.2.2.2.1=k+1/\m.2.2.2.2.1.1=h.1/\m.2.2.2.2.1.2.1=h.2.1/\m.2.2.2.2.1.2.2=h.2.2/\T
 def Mw:=(vT m<L/\qx m.1/\(0<=m.2.2.1/\m.2.2.1<(↑(length m.1):Int))/\wL (qe m.1 m.2.2.1)/\(0<=m.2.2.2.1/\m.2.2.2.1<=6)/\0<=m.2.2.2.2.2.2/\m.2.2.2.2.2.2<=(↑(length m.2.2.2.2.2.1):Int)/\zM m.2.2.2.2.2.1)
 def MA:=qd m.1 m.2.1 W/\qc qn m.2.2.2.2.1 m.2.2.2.2.2.1 W
 abbrev BS:=slice (GV.x a.1).1 (GV.x a.1).2.1 (GV.x a.1).2.2
 abbrev BU:=slice (GV.y a.1).1 (GV.y a.1).2.1 (GV.y a.1).2.2
 def BM:=AV.agg [AV.sv (int u64 (GV.n a.1)),AV.sv (string (GV.s a.1)),AV.sv (BS a),AV.sv (BU a),AV.sv (int i64 (GV.b a.1))]=AV.agg [AV.sv (int u64 (GV.n a.1)),AV.sv (string (GV.s a.1)),AV.sv (BS a),AV.sv (BU a),AV.sv (int i64 (GV.b a.1))]
 abbrev BO:=q37 W (Addr.mk L q none) [int u64 (GV.n a.1),string (GV.s a.1),slice (GV.x a.1).1 (GV.x a.1).2.1 (GV.x a.1).2.2,slice (GV.y a.1).1 (GV.y a.1).2.1 (GV.y a.1).2.2,int i64 (GV.b a.1)]
 def Yh:=e.1=m.2.2.2.2.1.1/\e.2.1=m.2.2.2.2.1.2.1/\e.2.2=m.2.2.2.2.1.2.2/\T
 def aZ:=BM a/\∀(d O o:Nat),(∃r,((zO c e f i h r)/\GV.ok a.1 r)/\BO d O a r)->∃(Q:zb),Yi c Q ((GV.x Q.1).1=some (Addr.mk d (O+nat_lit 0) none)/\(GV.x Q.1).2.1=nat_lit 1/\(GV.x Q.1).2.2=nat_lit 1/\Mz c Q (GV.b Q.1=ql S j (↑L:Int)/\Q.2.1=true/\Yh h m (Q.2.2=a.2.2/\Qx k f J j i Q/\(∀U,((zO c e f i h U)/\GV.ok a.1 U)/\BO d O a U->GV.ok Q.1 U)/\True)))
 def aR:=(a.2.1=true->aZ c e j f k J i h L a S m)/\(a.2.1=false->∃(Z:zb),Yi c Z (UY c Z (Z.2.1=true/\Yh h m (Z.2.2=a.2.2/\Qx k f J j i Z/\(∀i7,(zO c e f i h i7)/\GV.ok a.1 i7->GV.ok Z.1 i7)/\True))))
 def BK:=(0<=ql i j (↑L:Int)/\ql i j (↑L:Int)<(↑L:Int))/\p≠noA/\∃(d:Int),(∀O,zO c e f S h O->q37 O (adr p (toNat (ql i j (↑L:Int))*1)) [int i64 d])/\MB k/\∃(o:yT),Mx e d k h o (o.2.2.2.2.2.2=qh i j/\Mw q o/\(∀r,zO c e f S h r->MA o r)/\∀(Q:zb),zq o.1 o.2.2.1 o.2.2.2.1 o.2.2.2.2.2.1 o.2.2.2.2.2.2 Q.1 Q.2.1 Q.2.2->(∃U,(zO c e f S h U)/\GV.ok Q.1 U)->aR c e j f J k S h L Q i o)
 def UZ:=(GV.y c.1).1=(GV.y c.1).1/\(GV.y c.1).2.1=(GV.y c.1).2.1/\(GV.y c.1).2.2=(GV.y c.1).2.2/\GV.b c.1=GV.b c.1/\T
 def U0:=j=j/\v=v/\p=p/\L=L/\q=q/\k=k/\w=w/\u=u/\z=z/\E=E/\F=F/\J=J/\C=C/\A=A/\D=D/\G=G/\H=H/\I=I/\(∀d,zO c e f i h d->zO c e f i h d)/\T
 def aX:=length (qa GV.cells t.2.2)=length t.2.2*5/\(length t.2.2+nat_lit 1)*80<=140737488355328/\Jb ((↑t.1:Int)+1)/\∃(d:Nat×Int×List GV),j=j/\(↑d.1:Int)=(↑t.1:Int)+1/\Yh e m (d.2.1=a.2.2/\GV.n c.1=GV.n c.1/\GV.s c.1=GV.s c.1/\length d.2.2=length t.2.2+nat_lit 1/\UZ c (jr h (k=k/\v=v/\p=p/\L=L/\q=q/\J=J/\w=w/\u=u/\z=z/\E=E/\F=F/\M=M/\C=C/\A=A/\D=D/\G=G/\H=H/\I=I/\qa GV.cells d.2.2=qa GV.cells t.2.2++[int u64 (GV.n a.1),string (GV.s a.1),slice (GV.x a.1).1 (GV.x a.1).2.1 (GV.x a.1).2.2,slice (GV.y a.1).1 (GV.y a.1).2.1 (GV.y a.1).2.2,int i64 (GV.b a.1)]/\(∀O,((zO c h f i e O)/\GV.oks t.2.2 O)/\GV.ok a.1 O->zO c h f i e O)/\(∀o,((zO c h f i e o)/\GV.oks t.2.2 o)/\GV.ok a.1 o->GV.oks d.2.2 o)/\ue f (qe f B) i j K d.1 d.2.1 (GV.pvs d.2.2)/\length (AT.fs (qe f B))- d.1<length (AT.fs (qe f B))- t.1/\True)))
 def BL:=(0<=(↑t.1:Int)/\(↑t.1:Int)<(↑L:Int))/\p≠noA/\∃(d:Int),(∀O,(zO c e f i h O)/\GV.oks t.2.2 O->q37 O (Addr.add (adr p (toNat (↑t.1:Int)*9)) 2) [int i64 d])/\MB j/\∃(o:yT),Mx e d j h o (o.2.2.2.2.2.2=t.2.1/\Mw q o/\(∀r,(zO c e f i h r)/\GV.oks t.2.2 r->MA o r)/\∀(Q:zb),zq o.1 o.2.2.1 o.2.2.2.1 o.2.2.2.2.2.1 o.2.2.2.2.2.2 Q.1 Q.2.1 Q.2.2->(∃U,((zO c e f i h U)/\GV.oks t.2.2 U)/\GV.ok Q.1 U)->aX c h j f k J i e u M z w A v C D L B p H E F K G I N Q o t)
 def aV:=(BL c e j f k J i h L M q p u v w z A B C D E F K G H I N t)/\BL c e j f k J i h L M q p u v w z A B C D E F K G H I N t
 def aT:=Ji ((↑t.1:Int)<(↑L:Int)) (aV c e j f k J i h L M q p u v w z A B C D E F K G H I N t) (∀(i18 i19 i20:Nat) (X:Option Addr) (i22 i23:Nat),(∃i24,((zO c e f i h i24)/\GV.oks t.2.2 i24)/\length t.2.2<=i23/\qgs i24 X (take (length t.2.2*nat_lit 5) (qa GV.cells t.2.2)))->∃(R:zb),Yi c R ((GV.x R.1).1=X/\(GV.x R.1).2.1=length t.2.2/\(GV.x R.1).2.2=i23/\Mz c R (GV.b R.1=GV.b c.1/\R.2.1=true/\jr h (R.2.2=t.2.1/\Qx B f j K i R/\(∀Y,((zO c e f i h Y)/\GV.oks t.2.2 Y)/\length t.2.2<=i23/\qgs Y X (take (length t.2.2*nat_lit 5) (qa GV.cells t.2.2))->GV.ok R.1 Y)/\True))))
 def aQ:=(∃(d:Nat×Int×List GV),j=j/\(↑d.1:Int)=0/\jr e (d.2.1=k/\GV.n c.1=GV.n c.1/\GV.s c.1=GV.s c.1/\length d.2.2=0/\UZ c (jr h (U0 c h J f M B i e L q p u v w z A C D E F G H I ((∀o,zO c h f i e o->GV.oks d.2.2 o)/\ue f (qe f K) i j k d.1 d.2.1 (GV.pvs d.2.2)/\True)))))/\∀(r:Nat×Int×List GV),ue f (qe f K) i j k r.1 r.2.1 (GV.pvs r.2.2)->(∃Q,(zO c h f i e Q)/\GV.oks r.2.2 Q)->aT c h j f J M i e A B N C L v p q u K w z E F k G D H I r
 def BP:=GV.n c.1=GV.n c.1/\GV.s c.1=GV.s c.1/\(GV.x c.1).1=(GV.x c.1).1/\(GV.x c.1).2.1=(GV.x c.1).2.1/\(GV.x c.1).2.2=(GV.x c.1).2.2/\T
 def Zy:=((zO c e f i h W)/\GV.ok g.2.2 W)/\GV.ok a.1 W
 def BN:=GV.n a.1=GV.n g.2.2/\GV.s a.1=GV.s g.2.2/\(GV.x a.1).1=(GV.x g.2.2).1/\(GV.x a.1).2.1=(GV.x g.2.2).2.1/\(GV.x a.1).2.2=(GV.x g.2.2).2.2/\(GV.y a.1).1=(GV.y g.2.2).1/\(GV.y a.1).2.1=(GV.y g.2.2).2.1/\(GV.y a.1).2.2=(GV.y g.2.2).2.2/\GV.b a.1=GV.b g.2.2/\a.2.1=true/\T
 abbrev BQ:=slice (GV.x g.2.2).1 (GV.x g.2.2).2.1 (GV.x g.2.2).2.2
 abbrev BR:=slice (GV.y g.2.2).1 (GV.y g.2.2).2.1 (GV.y g.2.2).2.2
 def a_:=Jb (g.1- 1)/\∃(d:Int×Int×GV),j=j/\d.1=g.1- 1/\Yh e m (d.2.1=qh i a.2.2/\GV.n d.2.2=GV.n V/\GV.s d.2.2=GV.s V/\(GV.x d.2.2).1=(GV.x V).1/\(GV.x d.2.2).2.1=(GV.x V).2.1/\(GV.x d.2.2).2.2=(GV.x V).2.2/\(GV.y d.2.2).1=(GV.y V).1/\(GV.y d.2.2).2.1=(GV.y V).2.1/\(GV.y d.2.2).2.2=(GV.y V).2.2/\GV.b d.2.2=GV.b V/\jr h (k=k/\v=v/\p=p/\L=L/\q=q/\J=J/\w=w/\u=u/\z=z/\E=E/\F=F/\M=M/\C=C/\A=A/\D=D/\G=G/\H=H/\I=I/\(∀O,(Zy c h f S e a g O)/\GV.ok V O->zO c h f S e O)/\(∀o,(Zy c h f S e a g o)/\GV.ok V o->GV.ok d.2.2 o)/\QS f (qe f B) S j K d.1 d.2.1 d.2.2/\toNat d.1<toNat g.1/\True))
 def aY:=Ji (j=12) (False) (∃(d:List Int),(5:Int)=5/\m.2.2.2.2.1.1=m.2.2.2.2.1.1/\m.2.2.2.2.1.2.1=m.2.2.2.2.1.2.1/\m.2.2.2.2.1.2.2=m.2.2.2.2.1.2.2/\a.2.2=a.2.2/\(0<=a.2.2/\a.2.2<=(↑(length d):Int)/\(0:Int)<5/\(5:Int)<1000000/\zM d)/\(∀O,Zy c e f i h a g O->qc qn (m.2.2.2.2.1.1,m.2.2.2.2.1.2.1,m.2.2.2.2.1.2.2) d O)/\((-9223372036854775808:Int)<=97+ql d a.2.2 5/\(97:Int)+ql d a.2.2 (5:Int)<=9223372036854775807)/\∃o,size o=1/\qgf [int u8 (IntKind.wrap u8 ((97:Int)+ql d a.2.2 5))] 0 (q18 o)/\size (mkS [107])+size o<=9223372036854775807/\AV.agg [AV.sv (int u64 (GV.n g.2.2)),AV.sv (string (GV.s g.2.2)),AV.sv (BQ g),AV.sv (BR g),AV.sv (int i64 (GV.b g.2.2))]=AV.agg [AV.sv (int u64 (GV.n g.2.2)),AV.sv (string (GV.s g.2.2)),AV.sv (BQ g),AV.sv (BR g),AV.sv (int i64 (GV.b g.2.2))]/\BM a/\∃(r:GV×IV×GV),GV.n r.1=GV.n g.2.2/\GV.s r.1=GV.s g.2.2/\(GV.x r.1).1=(GV.x g.2.2).1/\(GV.x r.1).2.1=(GV.x g.2.2).2.1/\(GV.x r.1).2.2=(GV.x g.2.2).2.2/\(GV.y r.1).1=(GV.y g.2.2).1/\(GV.y r.1).2.1=(GV.y g.2.2).2.1/\(GV.y r.1).2.2=(GV.y g.2.2).2.2/\GV.b r.1=GV.b g.2.2/\r.2.1=mkS [107]++o/\GV.n r.2.2=GV.n a.1/\GV.s r.2.2=GV.s a.1/\(GV.x r.2.2).1=(GV.x a.1).1/\(GV.x r.2.2).2.1=(GV.x a.1).2.1/\(GV.x r.2.2).2.2=(GV.x a.1).2.2/\(GV.y r.2.2).1=(GV.y a.1).1/\(GV.y r.2.2).2.1=(GV.y a.1).2.1/\(GV.y r.2.2).2.2=(GV.y a.1).2.2/\GV.b r.2.2=GV.b a.1/\(length (GV.ks r.1)=length (GV.l r.1)/\length (GV.l r.1)<1000000)/\(∀Q,Zy c e f i h a g Q->GV.ok r.1 Q/\GV.ok r.2.2 Q)/\∀(U:GV),GV.pv U=PV.mk (GV.n r.1) (GV.s r.1) (zH r.2.1 (GV.ks r.1) (GV.pvs (GV.l r.1)) (GV.pv r.2.2)) (qO r.2.1 (GV.ks r.1)) (GV.b r.1)->(∃Z,(Zy c e f i h a g Z)/\GV.ok U Z)->a_ c h k f j J d e L M q p u v w z A B C D E F K G H I a i m g U)
 def aW:=((!a.2.1)=true->∃(d:zb),BN d g (Yh e m (d.2.2=a.2.2/\Qx j f k J i d/\(∀O,Zy c h f i e a g O->GV.ok d.1 O)/\True)))/\((!a.2.1)=false->aY c h M f k B i e L K q p u v w z A j C D E F J G H I a m g)
 def aU:=MB j/\∃(d:yT),Mx e k j h d (d.2.2.2.2.2.2=g.2.1/\Mw L d/\(∀O,(zO c e f i h O)/\GV.ok g.2.2 O->MA d O)/\∀(o:zb),zq d.1 d.2.2.1 d.2.2.2.1 d.2.2.2.2.2.1 d.2.2.2.2.2.2 o.1 o.2.1 o.2.2->(∃r,Zy c e f i h o g r)->aW c h J f j M i e q B u p z v w A D k C H E F K G I N o d g)
 def aS:=Ji (0<g.1) (aU c e j f k J i h L M q p u v w z A B C D E F K G H I N g) (∃(i16:zb),BN i16 g (jr h (i16.2.2=g.2.1/\Qx J f j M i i16/\(∀i17,(zO c e f i h i17)/\GV.ok g.2.2 i17->GV.ok i16.1 i17)/\True)))
 def aP:=(yQ j=true->∃(d:List Int),(4:Int)=4/\jr e (Kc c h k f 4 d e i ((∃(o:Int×Int×GV),J=J/\o.1=ql d k 4/\jr e (o.2.1=qh d k/\GV.n o.2.2=GV.n c.1/\GV.s o.2.2=GV.s c.1/\(GV.x o.2.2).1=(GV.x c.1).1/\(GV.x o.2.2).2.1=(GV.x c.1).2.1/\(GV.x o.2.2).2.2=(GV.x c.1).2.2/\(GV.y o.2.2).1=(GV.y c.1).1/\(GV.y o.2.2).2.1=(GV.y c.1).2.1/\(GV.y o.2.2).2.2=(GV.y c.1).2.2/\GV.b o.2.2=GV.b c.1/\jr h (U0 c h j f M B i e L q p u v w z A C D E F G H I ((∀Q,zO c h f i e Q->GV.ok o.2.2 Q)/\QS f (qe f K) i J k o.1 o.2.1 o.2.2/\True))))/\∀(U:Int×Int×GV),QS f (qe f K) i J k U.1 U.2.1 U.2.2->(∃Z,(zO c h f i e Z)/\GV.ok U.2.2 Z)->aS c h J f M K i e N k L p q v w u z j C A E F B G D H I U)))/\(yQ j=false->∃(R:zb),Yi c R (UY c R (R.2.1=true/\jr e (R.2.2=k/\Qx K f J k i R/\(∀Y,zO c h f i e Y->GV.ok R.1 Y)/\True))))
 def aO:=(Ji (j=12) (∃(d:Unit),k=k/\yQ j=decide (j=12)/\j=j/\jr e (J=J/\BP c (UZ c (jr h (U0 c h j f M B i e L q p u v w z A C D E F G H I (True/\True)))))) (∃(o:Unit),k=k/\yQ j=decide (j=13)/\j=j/\jr e (J=J/\BP c (UZ c (jr h (U0 c h j f M B i e L q p u v w z A C D E F G H I (True/\True)))))))/\∀(Q:Unit),True->aP c e j f J k i h L M q p u v w z A B C D E F K G H I N
 def aN:=Ji (j=9) (aQ c e k f J j i h L M q p u v w z A B C D E F K G H I N) (aO c e j f k J i h L M q p u v w z A B C D E F K G H I N)
 def aM:=Ji (j=14) (∃(d:List Int),(↑L:Int)=(↑L:Int)/\jr e (BV k d L (U1 c h f i e d/\(BK c h k f J M d e L q p i)/\BK c h k f J M d e L q p i))) (aN c e j f J k i h u B z w A v C D H K G I E F M p L N q)
 def o7:=Ji (j=10) (∃(d:List Int),(↑L:Int)=(↑L:Int)/\jr e (BV k d L (U1 c h f i e d/\∃(o:zb),GV.n o.1=IntKind.wrap u64 (ql d k (↑L:Int))/\GV.s o.1=GV.s c.1/\Kb c e k f J M d h o i))) (aM c e j f k M i h q J u p z v w A L B C D E F K G H I N)
 def o6:=Ji (j=7) (∃(d:List Int),(4:Int)=4/\jr e (Kc c h k f 4 d e i ((0<=ql d k 4/\ql d k (4:Int)<(↑(nat_lit 4):Int))/\∃o,qgf [string (mkS []),string (mkS [255]),string (mkS [0]),string (mkS [98])] (U2 k 4 d) [string o]/\∃(r:zb),GV.n r.1=GV.n c.1/\GV.s r.1=o/\Kb c e k f J M d h r i))) (o7 c e j f k J i h L M q p u v w z A B C D E F K G H I N)
 def o5:=Ji (j=8) (∃(d:List Int),(4:Int)=4/\jr e (Kc c h k f 4 d e i ((0<=ql d k 4/\ql d k (4:Int)<(↑(nat_lit 4):Int))/\∃o,qgf [string (mkS []),string (mkS [97]),string (mkS [195,164]),string (mkS [116,101,120,116])] (U2 k 4 d) [string o]/\∃(r:zb),GV.n r.1=GV.n c.1/\GV.s r.1=o/\Kb c e k f J M d h r i))) (o6 c e j f k J i h L M q p u v w z A B C D E F K G H I N)
 def oZ:=Ji (j=6) (∃(d:List Int),(5:Int)=5/\jr e (Kc c h k f 5 d e i ((0<=ql d k 5/\ql d k (5:Int)<(↑(nat_lit 5):Int))/\∃(o:Int),qgf [int u64 0,int u64 4607182418800017408,int u64 1,int u64 9223372036854775808,int u64 9218868437227405312] (U2 k 5 d) [int u64 o]/\∃(r:zb),GV.n r.1=o/\GV.s r.1=GV.s c.1/\Kb c e k f J M d h r i))) (o5 c e j f k J i h L M q p u v w z A B C D E F K G H I N)
 def oY:=Mv c e j f k J i h M 5 1065353216 2139095040 1 3212836864 2143289345 2147483648/\(Jf (j=5)->oZ c e j f k J i h L M q p u v w z A B C D E F K G H I N)
 def oX:=Mv c e j f k J i h M 4 1 18446744073709551615 1099511627776 9223372036854775807 9223372036854775808 9007199254740993/\(Jf (j=4)->oY c e j f k J i h L M q p u v w z A B C D E F K G H I N)
 def oW:=Mv c e j f k J i h M 3 1 18446744073709551615 300 2147483647 18446744071562067968 16777217/\(Jf (j=3)->oX c e j f k J i h L M q p u v w z A B C D E F K G H I N)
 def oV:=(0<=j/\j<(↑e.2.1:Int))/\e.1≠noA/\∃(d:Int),∃O,∃o,∃(r:Nat),∃(Q:Nat),∃(U:Int),∃Z,∃(i7:Nat),∃(i8:Nat),∃(i9:Bool),∃i10,∃(i11:Int),∃i12,∃(i13:Nat),∃(i14:Nat),∃i15,∃(i16:Nat),∃(i17:Nat),(∀i18,zO c e f i h i18->q37 i18 (adr e.1 (toNat j*10)) [int i64 d,string O,slice o r Q,int i64 U,slice Z i7 i8,bool i9,string i10,int i64 i11,slice i12 i13 i14,slice i15 i16 i17])/\Ji (d=2) (∃(i19:List Int),(2:Int)=2/\jr h (Kc c e k f 2 i19 h i (∃(X:zb),GV.n X.1=IntKind.wrap u64 (ql i19 k 2)/\GV.s X.1=GV.s c.1/\Kb c h k f j J i19 e X i))) (oW c h d f k j i e i7 J i16 i15 L O o r Q U Z i8 i9 i10 i11 i12 i13 i14 i17)
 def oU:=Ji (5<j) (My c e k f J j i h) (∃(o:List Int),jr e (k=k/\True/\U1 c h f i e o/\Ji ((↑(length o):Int)<=k) (My c e k f J j i h) (oV c h J f k j i e L)))
 def oS:=((!c.2)=true->My c e j f k J i h)/\((!c.2)=false->oU c e J f j k i h L)
end
def zgv(c:Nat) (S:List AT) (x:SV) (t d:Int) (y:SV) (L:List Int) (n:Int):qk4 P (qfa [(23,Qz),(22,WW)]) (qgc [(10,(yH wL).below vT c),(21,Nv),(24,Kh)]) Tryz.f10 ((yH Xm).below vT (c+1)) (HN false) ⟨S,x,t,d,y,L,n⟩=(vT (S,x,t,d,y,L,n)<c+1/\qx S/\(0<=t/\t<(↑(length S):Int))/\Xm (qe S t)/\(0<=d/\d<=6)/\0<=n/\n<=(↑(length L):Int)/\zM L->(∃(p:Pub),True/\qd S x p/\qc qn y L p)->∃(s:List AT×(Option Addr×Nat×Nat)×Int),s.2.1.1=x.1/\s.2.1.2.1=x.2.1/\s.2.1.2.2=x.2.2/\s.2.2=t/\qx s.1/\(∀(p:Pub),True/\qd S x p/\qc qn y L p->qd s.1 s.2.1 p)/\∀(b:GV×Bool),b.2=zT s.1 s.2.2/\PV.sn (GV.pv b.1)/\PV.wt (GV.pv b.1)<=60000/\(b.2=true->PV.fitz s.1 s.2.2 (GV.pv b.1))/\(b.2=false\/AT.k (qe s.1 s.2.2)=12\/AT.k (qe s.1 s.2.2)=13->b.1=zV)->(∃(p:Pub),zO b x S L y p)->oS b y n S t d L x c):=by kernel_rfl
def znl:=λc S x t d y L n=>Eq.trans (zgv c S x t d y L n) (by delta Ji Jb Jt Jf zO Yi Mz UY jr Qx My U1 Kc Kb U2 Mv BV MB Mx Mw MA BS BU BM BO Yh aZ aR BK UZ U0 aX BL aV aT aQ BP Zy BN BQ BR a_ aY aW aU aS aP aO aN aM o7 o6 o5 oZ oY oX oW oV oU oS;exact rfl)
def znm(c:Nat) (ha:q1q P 10 ((yH wL).below vT c)):q1q P 10 ((yH Xm).below vT (c+1)):=by
 refine zt (qcn (qgp JC (qgp NI qjr))) (qde (qgo ha (qgo z8z (qgo Hs qjq)))) (W:=HN false) Tryz.func10 λ⟨S,(x:SV),(t:Int),(d:Int),(y:SV),L,(n:Int)⟩=>(znl c S x t d y L n).mpr ?_;rintro⟨hmu,hS,ht,hkap,⟨hd0,hd6⟩,hn0,hn1,hL⟩ ⟨p,_,hx,hy⟩;have hmu:(10- d).toNat<c+1:=hmu;obtain⟨i,hi,rfl⟩:=vj ht;have hkap:S[i].k≠12:=by have:=hkap;unfold Xm at this;rw[kz hi]at this;exact this
 have sl:x.2.1=S.length:=hx.1.1;have hat:=λq (hq:qd S x q)=>wC hq hi;have hao:=λq (hq:qd S x q)=>hq.2 S[i] (List.getElem_mem hi);have hg:=hS.2 S[i] (List.getElem_mem hi);have h60:=hS.1;obtain⟨_,syl,fl,bl⟩:=yE (hao p hx);have hkk:=hg.1;have hit:=hg.2.1;have hbr:=hg.2.2.1;have hne:=hg.2.2.2.1;have hfr:=λf (hf:f∈S[i].fs)=>(hg.2.2.2.2.1 f hf).1;have hsy:=hg.2.2.2.2.2.1;have hf30:=hg.2.2.2.2.2.2.2.1;have hb30:=hg.2.2.2.2.2.2.2.2.1;have hs30:=hg.2.2.2.2.2.2.2.2.2;clear hg;have hLl:=hL.1;have nb:=v_ hn1;have nr:=λ(m:Int) (h:0<m)=>yd (n:=n) (m:=m) hL h;have ix:∀{m:Int} (h:0<m),∃r:Nat,(r:Int)<m/\ql L n m=r:=λ{m} h=>by obtain⟨r,hr⟩:=Int.eq_ofNat_of_zero_le (nr m h).1;exact⟨r,by have:=(nr m h).2;omega,hr⟩
 simp only[qH,exists_const,forall_const,Int.toNat_natCast,sl,kz hi];refine⟨⟨S,x,(i:Int)⟩,rfl,sl,rfl,rfl,hS,λq hq=>hq.1,?_⟩;rintro⟨v,bb⟩ ⟨hb,vsn,vwt,vf⟩ ⟨p1,⟨hx1,hy1⟩,hv⟩;simp only at hb vsn vwt vf hv⊢;have fin0:∃b:zb,b.1.n=v.n/\b.1.s=v.s/\b.1.x.1=v.x.1/\b.1.x.2.1=v.x.2.1/\b.1.x.2.2=v.x.2.2/\b.1.y.1=v.y.1/\b.1.y.2.1=v.y.2.1/\b.1.y.2.2=v.y.2.2/\b.1.b=v.b/\b.2.1=bb/\b.2.2=n/\zq S i d L n b.1 b.2.1 b.2.2/\∀q,(qd S x q/\qc qn y L q)/\v.ok q->b.1.ok q:=⟨⟨v,bb,n⟩,rfl,rfl,rfl,rfl,rfl,rfl,rfl,rfl,rfl,rfl,rfl,⟨hb,⟨Int.le_refl _,hn1⟩,vsn,Nat.le_trans vwt (Qg d),vf.1⟩,λq hq=>hq.2⟩;refine⟨λ_=>fin0,λhbt=>⟨λ_=>fin0,λhd5=>⟨L,λq hq=>hq.1.2,λ_=>fin0,λhov=> ?_⟩⟩⟩;obtain rfl:bb=true:=hbt;have vft:=vf.1 rfl;have vnl:S[i].k=12\/S[i].k=13->v.l=[]:=λh=>by have:=vf.2 (.inr (by rw[kz hi];exact h));rw[this];rfl
 have H:AvH S i hi v d:=⟨hS,hb.symm,vft,vsn,vwt,vnl,by omega⟩;clear fin0 vf;have hpp:(qd S x p1/\qc qn y L p1)/\v.ok p1:=⟨⟨hx1,hy1⟩,hv⟩;have nn:n<=qh L n/\qh L n<=L.length:=⟨nb.1,nb.2.1⟩;refine⟨⟨by omega,by omega⟩,(hat p1 hx1).1,S[i].k,S[i].nm,S[i].al.1,S[i].al.2.1,S[i].al.2.2,S[i].it,S[i].sy.1,S[i].sy.2.1,S[i].sy.2.2,S[i].hd,S[i].df,S[i].sz,S[i].f.1,S[i].f.2.1,S[i].f.2.2,S[i].br.1,S[i].br.2.1,S[i].br.2.2,λq hq=>(hat q hq.1.1).2,λk2=> ?_,λk2=>⟨λk3=> ?_,λk3=>⟨λk4=> ?_,λk4=>⟨λk5=> ?_,λk5=>⟨λk6=> ?_,λk6=>⟨λk8=> ?_,λk8=>⟨λk7=> ?_,λk7=>⟨λk10=> ?_,λk10=>⟨λk14=> ?_,λk14=>⟨λk9=> ?_,λk9=> ?_⟩⟩⟩⟩⟩⟩⟩⟩⟩⟩
 ·obtain⟨r,hr,e⟩:=ix (m:=2) (by decide);have w:IntKind.wrap .u64 (r:Int)=r:=by rw[Ir];omega
  exact⟨L,⟨hn0,hn1,by decide,by decide,hL⟩,λq hq=>hq.1.2,⟨.mk r v.s v.x v.l v.y v.ks v.b,true,qh L n⟩,by rw[e,w];rfl,rfl,rfl,rfl,rfl,rfl,rfl,rfl,rfl,rfl,rfl,Kz H nn (by unfold zd;exact decide_eq_true (by omega)) (by omega) (by unfold km;rw[if_neg (by omega),if_pos k2];exact decide_eq_true (by omega)),λq hq=>Q_ hq.2 _ _ _⟩
 ·obtain⟨r,hr,e⟩:=ix (m:=7) (by decide);have hz:=Hq (M:=[0,1,18446744073709551615,300,2147483647,18446744071562067968,16777217]) (p:=λx=>(0<=x/\x<18446744073709551616)/\(x<2147483648\/18446744071562067968<=x)) (by decide) (r:=r) (by simp;omega);refine⟨L,?_⟩;rw[e];exact⟨⟨hn0,hn1,by decide,by decide,hL⟩,λq hq=>hq.1.2,⟨by omega,hr⟩,_,Hp [0,1,18446744073709551615,300,2147483647,18446744071562067968,16777217] (r:=r) (by simp;omega),⟨.mk _ v.s v.x v.l v.y v.ks v.b,true,qh L n⟩,rfl,rfl,rfl,rfl,rfl,rfl,rfl,rfl,rfl,rfl,rfl,Kz H nn (by unfold zd;exact decide_eq_true (by omega)) hz.1 (by unfold km;rw[if_neg (by omega),if_neg (by omega),if_pos k3];exact decide_eq_true hz.2),λq hq=>Q_ hq.2 _ _ _⟩
 ·obtain⟨r,hr,e⟩:=ix (m:=7) (by decide);have hz:=Hq (M:=[0,1,18446744073709551615,1099511627776,9223372036854775807,9223372036854775808,9007199254740993]) (p:=λx=>(0<=x/\x<18446744073709551616)) (by decide) (r:=r) (by simp;omega);refine⟨L,?_⟩;rw[e];exact⟨⟨hn0,hn1,by decide,by decide,hL⟩,λq hq=>hq.1.2,⟨by omega,hr⟩,_,Hp [0,1,18446744073709551615,1099511627776,9223372036854775807,9223372036854775808,9007199254740993] (r:=r) (by simp;omega),⟨.mk _ v.s v.x v.l v.y v.ks v.b,true,qh L n⟩,rfl,rfl,rfl,rfl,rfl,rfl,rfl,rfl,rfl,rfl,rfl,Kz H nn (by unfold zd;exact decide_eq_true (by omega)) hz (by unfold km;rw[if_neg (by omega),if_neg (by omega),if_neg (by omega),if_neg (by omega),if_neg (by omega)]),λq hq=>Q_ hq.2 _ _ _⟩
 ·obtain⟨r,hr,e⟩:=ix (m:=7) (by decide);have hz:=Hq (M:=[0,1065353216,2139095040,1,3212836864,2143289345,2147483648]) (p:=λx=>(0<=x/\x<18446744073709551616)/\x<4294967296) (by decide) (r:=r) (by simp;omega);refine⟨L,?_⟩;rw[e];exact⟨⟨hn0,hn1,by decide,by decide,hL⟩,λq hq=>hq.1.2,⟨by omega,hr⟩,_,Hp [0,1065353216,2139095040,1,3212836864,2143289345,2147483648] (r:=r) (by simp;omega),⟨.mk _ v.s v.x v.l v.y v.ks v.b,true,qh L n⟩,rfl,rfl,rfl,rfl,rfl,rfl,rfl,rfl,rfl,rfl,rfl,Kz H nn (by unfold zd;exact decide_eq_true (by omega)) hz.1 (by unfold km;rw[if_neg (by omega),if_neg (by omega),if_neg (by omega),if_pos k5];exact decide_eq_true hz.2),λq hq=>Q_ hq.2 _ _ _⟩
 ·obtain⟨r,hr,e⟩:=ix (m:=5) (by decide);have hz:=Hq (M:=[0,4607182418800017408,1,9223372036854775808,9218868437227405312]) (p:=λx=>(0<=x/\x<18446744073709551616)) (by decide) (r:=r) (by simp;omega);refine⟨L,?_⟩;rw[e];exact⟨⟨hn0,hn1,by decide,by decide,hL⟩,λq hq=>hq.1.2,⟨by omega,hr⟩,_,Hp [0,4607182418800017408,1,9223372036854775808,9218868437227405312] (r:=r) (by simp;omega),⟨.mk _ v.s v.x v.l v.y v.ks v.b,true,qh L n⟩,rfl,rfl,rfl,rfl,rfl,rfl,rfl,rfl,rfl,rfl,rfl,Kz H nn (by unfold zd;exact decide_eq_true (by omega)) hz (by unfold km;rw[if_neg (by omega),if_neg (by omega),if_neg (by omega),if_neg (by omega),if_neg (by omega)]),λq hq=>Q_ hq.2 _ _ _⟩
 ·obtain⟨r,hr,e⟩:=ix (m:=4) (by decide);have hz:=zur (M:=[mkS [],mkS [97],mkS [195,164],mkS [116,101,120,116]]) (p:=λx=>x.size<=1000/\qu x=true) (by decide+kernel) (r:=r) (by simp;omega);refine⟨L,?_⟩;rw[e];exact⟨⟨hn0,hn1,by decide,by decide,hL⟩,λq hq=>hq.1.2,⟨by omega,hr⟩,_,zus [mkS [],mkS [97],mkS [195,164],mkS [116,101,120,116]] (r:=r) (by simp;omega),⟨.mk v.n _ v.x v.l v.y v.ks v.b,true,qh L n⟩,rfl,rfl,rfl,rfl,rfl,rfl,rfl,rfl,rfl,rfl,rfl,IY H nn (by unfold qS;exact decide_eq_true (by omega)) hz.1 (by unfold vZ;rw[if_pos k8];exact hz.2),λq hq=>Q_ hq.2 _ _ _⟩
 ·obtain⟨r,hr,e⟩:=ix (m:=4) (by decide);have hz:=zur (M:=[mkS [],mkS [255],mkS [0],mkS [98]]) (p:=λx=>x.size<=1000) (by decide+kernel) (r:=r) (by simp;omega);refine⟨L,?_⟩;rw[e];exact⟨⟨hn0,hn1,by decide,by decide,hL⟩,λq hq=>hq.1.2,⟨by omega,hr⟩,_,zus [mkS [],mkS [255],mkS [0],mkS [98]] (r:=r) (by simp;omega),⟨.mk v.n _ v.x v.l v.y v.ks v.b,true,qh L n⟩,rfl,rfl,rfl,rfl,rfl,rfl,rfl,rfl,rfl,rfl,rfl,IY H nn (by unfold qS;exact decide_eq_true (by omega)) hz (by unfold vZ;rw[if_neg (by omega),if_neg (by omega)]),λq hq=>Q_ hq.2 _ _ _⟩
 ·have hsp:=List.length_pos_iff.2 (hsy k10);rw[syl];obtain⟨r,hr,e⟩:=ix (m:=S[i].sys.length) (by omega);have w:IntKind.wrap .u64 (r:Int)=r:=by rw[Ir];omega
  exact⟨L,⟨hn0,hn1,by omega,by omega,hL⟩,λq hq=>hq.1.2,⟨.mk r v.s v.x v.l v.y v.ks v.b,true,qh L n⟩,by rw[e,w];rfl,rfl,rfl,rfl,rfl,rfl,rfl,rfl,rfl,rfl,rfl,Kz H nn (by unfold zd;exact decide_eq_true (by omega)) (by omega) (by unfold km;rw[if_neg (by omega),if_neg (by omega),if_neg (by omega),if_neg (by omega),if_pos k10];exact decide_eq_true (by omega)),λq hq=>Q_ hq.2 _ _ _⟩
 ·have hbp:=List.length_pos_iff.2 (hne k14);rw[bl];obtain⟨r,hr,e⟩:=ix (m:=S[i].brs.length) (by omega);have hrl:r<S[i].brs.length:=by omega
  have bat:=λq hq=>z22 (hao q hq) hrl;have bin:=hbr _ (List.getElem_mem hrl);have hun:=λw x m n' hm (hw:zq S S[i].brs[r] (d+1) L m w true n')=>jfq (n:=n) H k14 hrl (w:=w) (x:=x) (m:=m) (n':=n') hm hw;generalize S[i].brs[r]=bt at*;refine⟨L,⟨hn0,hn1,by omega,by omega,hL⟩,λq hq=>hq.1.2,?_⟩;rw[e];simp only[Int.toNat_natCast];refine⟨?xa,?xb⟩;case xa|xb=>
   refine⟨⟨by omega,by omega⟩,(bat p1 hx1).1,bt,λq hq=>(bat q hq.1.1).2,⟨by omega,by omega⟩,⟨S,x,bt,d+1,y,L,qh L n⟩,rfl,sl,rfl,rfl,rfl,rfl,rfl,rfl,rfl,⟨by show(10- (d+1)).toNat<c;omega,hS,bin,trivial,⟨by show 0<=d+1;omega,by show d+1<=6;omega⟩,by show 0<=qh L n;omega,nn.2,hL⟩,λq hq=>hq.1,?_⟩;rintro⟨w,b2,n2⟩ hw _;have hw:zq S bt (d+1) L (qh L n) w b2 n2:=hw;simp only;refine⟨λhb2 b s _=>⟨⟨.mk v.n v.s (some ⟨b,s+0,none⟩,1,1) [w] v.y v.ks r,true,n2⟩,rfl,rfl,rfl,rfl,rfl,rfl,rfl,rfl,rfl,rfl,trivial,trivial,trivial,rfl,?_,λq hq=> ?_⟩,λhb2=>⟨⟨v,true,n2⟩,rfl,rfl,rfl,rfl,rfl,rfl,rfl,rfl,rfl,rfl,trivial,trivial,trivial,rfl,zu8 H ⟨by have:=hw.2.1.1;show n<=n2;omega,hw.2.1.2⟩,λq hq=>hq.1.2⟩⟩
   ·subst hb2;exact hun w _ _ n2 nn.1 hw
   ·have hvo:=hq.1.1.2;rw[GV.ok_eq]at hvo;unfold GV.ok;exact⟨⟨rfl,Nat.le_refl _, .inr ⟨_,rfl,rfl,hq.2⟩⟩,hvo.2.1,yF hq.1.2⟩
 ·refine⟨⟨⟨0,n,[]⟩,rfl,rfl,rfl,λq hq=>GV.oks_iff.2 λv h=>(by cases h),⟨rfl,Nat.zero_le _⟩,⟨Int.le_refl _,hn1⟩,λk h1 h2=>absurd h1 (by rw[GV.pvs];simp),λv hv=>(by rw[GV.pvs]at hv;cases hv),by rw[GV.pvs,PV.wts];exact Nat.zero_le _⟩,?_⟩;rintro⟨j,n1,fs⟩ hI ⟨p2,hp2,hfs⟩;have hI:ue S S[i] L d n j n1 (GV.pvs fs):=hI;simp only at hfs⊢;have l1:fs.length=j:=by rw[←GV.pvs_len];exact hI.1.1
  have l2:=hI.1.2;have l3:=hI.2.1;have hfl:=ND hS hi k9 hb.symm;refine⟨λhlt=>⟨?xc,?xd⟩,λhge a cc _=>⟨⟨.mk v.n v.s (a,fs.length,cc) fs v.y v.ks v.b,true,n1⟩,rfl,rfl,rfl,rfl,rfl,rfl,rfl,rfl,rfl,rfl,rfl,jfp H k9 (by omega) hI,λq hq=> ?_⟩⟩;case xc|xd=>
   have hjl:j<S[i].fs.length:=(by omega);have bat:=λq hq=>WO (hao q hq) hjl;have bne:=(wB (hao p1 hx1) hjl).1;have bin:=hfr _ (List.getElem_mem hjl);have bls:=hfl.2 _ (List.getElem_mem hjl);have hsn:=λw n2 b hw=>zpq hjl hI (w:=w) (n2:=n2) (b:=b) bls hw;generalize S[i].fs[j]=f at*;refine⟨⟨by omega,by omega⟩,bne,f.ty,λq hq=>bat q hq.1.1.1,⟨by omega,by omega⟩,⟨S,x,f.ty,d+1,y,L,n1⟩,rfl,sl,rfl,rfl,rfl,rfl,rfl,rfl,rfl,⟨by show(10- (d+1)).toNat<c;omega,hS,bin,trivial,⟨by show 0<=d+1;omega,by show d+1<=6;omega⟩,by show 0<=n1;omega,l3.2,hL⟩,λq hq=>hq.1.1,?_⟩;rintro⟨w,b2,n2⟩ hw _;have hw:zq S f.ty (d+1) L n1 w b2 n2:=hw;simp only;exact⟨qv zr fs,by omega,⟨by omega,by omega⟩,⟨j+1,n2,fs++[w]⟩,by show((j+1:Nat):Int)=_;omega,trivial,trivial,trivial,rfl,by simp,by rw[zx];rfl,λq hq=>hq.1.1,λq hq=>Qe hq.1.2 (yF hq.2),hsn w n2 b2 hw,by show _- (j+1)<_;omega⟩
  ·have h2:=hq.2.2;rw[List.take_of_length_le (by rw[qv zr];exact Nat.le_refl _)]at h2;have hvo:=hq.1.1.2;rw[GV.ok_eq]at hvo;unfold GV.ok;exact⟨⟨rfl,hq.2.1,h2⟩,hvo.2.1,hq.1.2⟩
 ·refine⟨⟨λh=>absurd h hkap,λh=> ?_⟩,λham=> ?_,λham=> ?_⟩
  ·unfold yQ;exact kA ⟨λg=>by omega,λg=> .inr g⟩
  ·have k13:S[i].k=13:=by unfold yQ at ham;have:=of_decide_eq_true ham;omega
   have vl0:=vnl (.inr k13);obtain⟨e1,e2,_,e4⟩:=(z32 hi vft.1).2.2 (WQ (by omega));have e4:=e4 (by omega);have vk0:v.ks=[]:=by have:=hv;rw[GV.ok_eq]at this;have hh:=vft.1;rw[GV.pv_eq,PV.fits,if_neg (by omega)]at hh;simp only[Int.toNat_natCast,List.getElem?_eq_getElem hi,GV.pvs_len]at hh;rw[if_neg (by unfold zd;rw[decide_eq_false (by omega)];decide),if_neg (by unfold qS;rw[decide_eq_false (by omega)];decide),if_pos (WQ (by omega))]at hh;simp only[Bool.and_eq_true]at hh;have ho:=hh.1.1.1;unfold ko at ho;rw[if_neg (by omega),if_neg (by omega),if_neg (by omega),if_pos k13,Bool.and_eq_true,decide_eq_true_eq,vl0]at ho;exact List.length_eq_zero_iff.1 ho.1.symm
   obtain⟨r,hr,e⟩:=ix (m:=4) (by decide);refine⟨L,⟨hn0,hn1,by decide,by decide,hL⟩,λq hq=>hq.1.2,⟨⟨r,qh L n,v⟩,e.symm,rfl,rfl,rfl,rfl,rfl,rfl,rfl,rfl,rfl,rfl,λq hq=>hq.2,⟨⟨by show(0:Int)<=r;omega,by show(r:Int)<=3;omega⟩,nn,⟨e1,e2,e4⟩,⟨by rw[vk0,vl0];rfl,by rw[vl0];show(0:Int)<=3- r;omega⟩,by rw[vk0];rfl,λw hw=>(by rw[vl0,GV.pvs]at hw;cases hw),λk hk=>(by rw[vk0]at hk;cases hk),?_⟩⟩,?_⟩
   ·rw[vk0,vl0,GV.pvs,PV.wts,qA];have:0<=(3- (r:Int))*((jX (d+1):Int)+12):=Int.mul_nonneg (by omega) (by omega);exact this
   rintro⟨m,n1,u⟩ hI ⟨p2,hp2,hu⟩;have hI:QS S S[i] L d n m n1 u:=hI;simp only at hu⊢;have hI1:=hI.1;have hI2:=hI.2.1;have hI4:=hI.2.2.2.1;have tin:=hit (.inr k13);refine⟨λhpos=> ?_,λhneg=>⟨⟨u,true,n1⟩,rfl,rfl,rfl,rfl,rfl,rfl,rfl,rfl,rfl,rfl,rfl,Oc H k13 hI,λq hq=>hq.2⟩⟩;refine⟨⟨by omega,by omega⟩,⟨S,x,S[i].it,d+1,y,L,n1⟩,rfl,sl,rfl,rfl,rfl,rfl,rfl,rfl,rfl,⟨by show(10- (d+1)).toNat<c;omega,hS,tin,trivial,⟨by show 0<=d+1;omega,by show d+1<=6;omega⟩,by show 0<=n1;omega,hI2.2,hL⟩,λq hq=>hq.1.1,?_⟩;rintro⟨w,b2,n2⟩ hw _;have hw:zq S S[i].it (d+1) L n1 w b2 n2:=hw;simp only;have hw1:=hw.2.1;have e5:=yd (n:=n2) (m:=5) hL (by decide);have n5:=v_ hw1.2;refine⟨λhb2=>⟨⟨u,true,n2⟩,rfl,rfl,rfl,rfl,rfl,rfl,rfl,rfl,rfl,rfl,trivial,trivial,trivial,rfl,Oc (m:=m) H k13 ?_,λq hq=>hq.1.2⟩,λhb2=>⟨λh=>absurd h (by omega),λ_=> ?_⟩⟩
   ·obtain⟨a1,a2,a3⟩:=hI;exact⟨a1,⟨by show n<=n2;omega,hw1.2⟩,a3⟩
   subst hb2;obtain⟨z,hz⟩:=Int.eq_ofNat_of_zero_le e5.1;have hz5:z<5:=(by omega);have w8:IntKind.wrap .u8 (97+(z:Int))=((97+z:Nat):Int):=(by rw[VP];omega);have s1:(mkS [97+z]).size=1:=rfl;have s2:(mkS [107]++mkS [97+z]).size=2:=(by rw[ByteArray.size_append,s1];rfl);have s0:(mkS [107]).size=1:=rfl;refine⟨L,⟨by show 0<=n2;omega,hw1.2,by decide,by decide,hL⟩,λq hq=>hq.1.1.1.2,⟨by omega,by omega⟩,mkS [97+z],s1,λj a hj=> ?_,by omega,⟨u,mkS [107]++mkS [97+z],w⟩,rfl,rfl,rfl,rfl,rfl,rfl,rfl,rfl,rfl,rfl,rfl,rfl,rfl,rfl,rfl,rfl,rfl,rfl,rfl,⟨hI4.1,by show u.l.length<1000000;omega⟩,λq hq=>⟨hq.1.2,hq.2⟩,?_⟩
   ·rw[bB _ (by omega)]at hj;rw[hz,w8,Nat.zero_add];exact hj
   rintro g hg _;have hg:g.pv=PV.mk u.n u.s (zH (mkS [107]++mkS [97+z]) u.ks (GV.pvs u.l) w.pv) (qO (mkS [107]++mkS [97+z]) u.ks) u.b:=hg;have hvk:qu (mkS [107]++mkS [97+z])=true:=by rcases(by omega:z=0\/z=1\/z=2\/z=3\/z=4)with rfl|rfl|rfl|rfl|rfl<;>decide+kernel
   exact⟨⟨by omega,by omega⟩,⟨m- 1,qh L n2,g⟩,rfl,trivial,trivial,trivial,rfl,rfl,rfl,rfl,rfl,rfl,rfl,rfl,rfl,rfl,λq hq=>hq.1.1.1,λq hq=>hq.2,zxn hpos hI hvk s2 hw ⟨n5.1,n5.2.1⟩ hg,by show(m- 1).toNat<m.toNat;omega⟩
  ·exact⟨⟨v,true,n⟩,rfl,rfl,rfl,rfl,rfl,rfl,rfl,rfl,rfl,rfl,rfl,zu8 H ⟨Int.le_refl _,hn1⟩,λq hq=>hq.2⟩
def zno(c:Nat) (ha:q1q P 10 ((yH wL).below vT c)):q1q P 10 ((yH Xk).below vT (c+1)):=by
 refine zt (qcn (qgp JC (qgp NI qjr))) (qde (qgo ha (qgo zii (qgo Hs qjq)))) (W:=HN true) Tryz.func10 λ⟨S,(x:SV),(t:Int),(d:Int),(y:SV),L,(n:Int)⟩=>(znn c S x t d y L n).mpr ?_;rintro⟨hmu,hS,ht,hkap,⟨hd0,hd6⟩,hn0,hn1,hL⟩ ⟨p,_,hx,hy⟩;have hmu:(10- d).toNat<c+1:=hmu;obtain⟨i,hi,rfl⟩:=vj ht;have hkap:S[i].k=12:=by have:=hkap;unfold Xk at this;rw[kz hi]at this;exact this
 have sl:x.2.1=S.length:=hx.1.1;have hat:=λq (hq:qd S x q)=>wC hq hi;have hao:=λq (hq:qd S x q)=>hq.2 S[i] (List.getElem_mem hi);have hg:=hS.2 S[i] (List.getElem_mem hi);have h60:=hS.1;obtain⟨_,syl,fl,bl⟩:=yE (hao p hx);have hkk:=hg.1;have hit:=hg.2.1;have hbr:=hg.2.2.1;have hne:=hg.2.2.2.1;have hfr:=λf (hf:f∈S[i].fs)=>(hg.2.2.2.2.1 f hf).1;have hsy:=hg.2.2.2.2.2.1;have hf30:=hg.2.2.2.2.2.2.2.1;have hb30:=hg.2.2.2.2.2.2.2.2.1;have hs30:=hg.2.2.2.2.2.2.2.2.2;clear hg;have hLl:=hL.1;have nb:=v_ hn1;have nr:=λ(m:Int) (h:0<m)=>yd (n:=n) (m:=m) hL h;have ix:∀{m:Int} (h:0<m),∃r:Nat,(r:Int)<m/\ql L n m=r:=λ{m} h=>by obtain⟨r,hr⟩:=Int.eq_ofNat_of_zero_le (nr m h).1;exact⟨r,by have:=(nr m h).2;omega,hr⟩
 simp only[qH,exists_const,forall_const,Int.toNat_natCast,sl,kz hi];refine⟨⟨S,x,(i:Int)⟩,rfl,sl,rfl,rfl,⟨hS,by show(qe S (i:Int)).k=12;rw[kz hi];exact hkap⟩,λq hq=>hq.1,?_⟩;rintro bb hb ⟨p1,⟨hx1,hy1⟩,hv⟩;simp only at hb;have nn:n<=qh L n/\qh L n<=L.length:=⟨nb.1,nb.2.1⟩;have zsn:zV.pv.sn:=by rw[JF];exact wE (by decide) (by rw[jQ];decide) (by decide) (by decide) (λk hk=>by cases hk) λv hv=>by cases hv
 have zwt:zV.pv.wt<=60000:=by rw[JF,wG,PV.wts,qA,jQ];decide
 have zft:bb=true->PV.fitz S i zV.pv:=λh=>(zdf hS hi (hb.symm.trans h) (by omega) (by omega) (by omega)).1;have fin0:∃b:zb,b.1.n=0/\b.1.s=mkS []/\b.1.x.1=noA/\b.1.x.2.1=0/\b.1.x.2.2=0/\b.1.y.1=noA/\b.1.y.2.1=0/\b.1.y.2.2=0/\b.1.b=0/\b.2.1=bb/\b.2.2=n/\zq S i d L n b.1 b.2.1 b.2.2/\∀q,(qd S x q/\qc qn y L q)/\zV.ok q->b.1.ok q:=⟨⟨zV,bb,n⟩,rfl,rfl,rfl,rfl,rfl,rfl,rfl,rfl,rfl,rfl,rfl,⟨hb,⟨Int.le_refl _,hn1⟩,zsn,Nat.le_trans zwt (Qg d),zft⟩,λq _=>jD q⟩;refine⟨λ_=>fin0,λhbt=>⟨λ_=>fin0,λhd5=>⟨L,λq hq=>hq.1.2,λ_=>fin0,λhov=> ?_⟩⟩⟩;clear fin0;have H:AvH S i hi zV d:=⟨hS,hb.symm.trans hbt,zft hbt,zsn,zwt,λ_=>rfl,by omega⟩;refine⟨⟨by omega,by omega⟩,(hat p1 hx1).1,S[i].k,S[i].nm,S[i].al.1,S[i].al.2.1,S[i].al.2.2,S[i].it,S[i].sy.1,S[i].sy.2.1,S[i].sy.2.2,S[i].hd,S[i].df,S[i].sz,S[i].f.1,S[i].f.2.1,S[i].f.2.2,S[i].br.1,S[i].br.2.1,S[i].br.2.2,λq hq=>(hat q hq.1.1).2,λk=>absurd hkap (by omega),λ_=>⟨λk=>absurd hkap (by omega),λ_=>⟨λk=>absurd hkap (by omega),λ_=>⟨λk=>absurd hkap (by omega),λ_=>⟨λk=>absurd hkap (by omega),λ_=>⟨λk=>absurd hkap (by omega),λ_=>⟨λk=>absurd hkap (by omega),λ_=>⟨λk=>absurd hkap (by omega),λ_=>⟨λk=>absurd hkap (by omega),λ_=>⟨λk=>absurd hkap (by omega),λ_=>⟨⟨λh=> ?_,λh=>absurd hkap h⟩,λham=> ?_,λham=> ?_⟩⟩⟩⟩⟩⟩⟩⟩⟩⟩⟩
 ·unfold yQ;exact kA ⟨λg=>h,λg=> .inl g⟩
 ·obtain⟨r,hr,e⟩:=ix (m:=4) (by decide);have tin:=hit (.inl hkap);have gok:∀(q:Pub) (a:Option Addr) (cc:Nat) (fs:List GV),fs.length<=cc->qgs q a (List.take (fs.length*5) (qa GV.cells fs))->GV.oks fs q->(GV.mk 0 (mkS []) (a,fs.length,cc) fs (none,0,0) [] 0).ok q:=λq a cc fs h1 h2 h3=>by rw[zx2]at h2;unfold GV.ok;exact⟨⟨rfl,h1,h2⟩,qY,h3⟩
  refine⟨L,⟨hn0,hn1,by decide,by decide,hL⟩,λq hq=>hq.1.2,⟨⟨r,qh L n,[]⟩,e.symm,rfl,rfl,λq hq=>GV.oks_iff.2 λv h=>(by cases h),⟨⟨by show(0:Int)<=r;omega,by rw[GV.pvs];show(r:Int)+0<=3;omega⟩,nn,λw hw=>(by rw[GV.pvs]at hw;cases hw),by rw[GV.pvs,PV.wts];exact Nat.zero_le _⟩⟩,?_⟩;rintro⟨m,n1,fs⟩ hI ⟨p2,hp2,hfs⟩;have hI:xK S S[i] L d n m n1 (GV.pvs fs):=hI;simp only at hfs⊢;have hI1:=hI.1;rw[GV.pvs_len]at hI1;have hI2:=hI.2.1;refine⟨λhpos=> ?_,λhneg a cc _=>⟨⟨.mk 0 (mkS []) (a,fs.length,cc) fs (none,0,0) [] 0,true,n1⟩,rfl,rfl,rfl,rfl,rfl,rfl,rfl,rfl,rfl,by simp[hbt],rfl,Oa H hkap hI,λq hq=>gok q a cc fs hq.2.1 hq.2.2 hq.1.2⟩⟩;refine⟨⟨by omega,by omega⟩,⟨S,x,S[i].it,d+1,y,L,n1⟩,rfl,sl,rfl,rfl,rfl,rfl,rfl,rfl,rfl,⟨by show(10- (d+1)).toNat<c;omega,hS,tin,trivial,⟨by show 0<=d+1;omega,by show d+1<=6;omega⟩,by show 0<=n1;omega,hI2.2,hL⟩,λq hq=>hq.1.1,?_⟩;rintro⟨w,b2,n2⟩ hw _;have hw:zq S S[i].it (d+1) L n1 w b2 n2:=hw;simp only;have hw1:=hw.2.1;have hI3:xK S S[i] L d n m n2 (GV.pvs fs):=⟨hI.1,⟨by show n<=n2;omega,hw1.2⟩,hI.2.2⟩;refine⟨λhb2 a cc _=>⟨⟨.mk 0 (mkS []) (a,fs.length,cc) fs (none,0,0) [] 0,true,n2⟩,rfl,rfl,rfl,rfl,rfl,rfl,rfl,rfl,rfl,by simp[hbt],trivial,trivial,trivial,rfl,Oa H hkap hI3,λq hq=>gok q a cc fs hq.2.1 hq.2.2 hq.1.1.2⟩,λhb2=>⟨λ_=> ?_,λh=>absurd hkap h⟩⟩;subst hb2;exact⟨qv zr fs,by omega,⟨by omega,by omega⟩,⟨m- 1,n2,fs++[w]⟩,rfl,trivial,trivial,trivial,rfl,by simp,by rw[zx];rfl,λq hq=>hq.1.1,λq hq=>Qe hq.1.2 (yF hq.2),znk hpos hI hw,by show(m- 1).toNat<m.toNat;omega⟩
 ·unfold yQ at ham;exact absurd (of_decide_eq_false ham) (λg=>g (.inl hkap))
def znp(c:Nat) (ha:q1q P 10 ((yH wL).below vT c)):q1q P 10 ((yH wL).below vT (c+1)):=by
 have hA:=zno c ha;have hM:=znm c ha;refine⟨hA.1,hA.2.1,hA.2.2.1,λs=> ?_⟩;obtain⟨h0,e0,rA⟩:=hA.2.2.2 s;obtain⟨h1,e1,rM⟩:=hM.2.2.2 s;have e:h1=h0:=Option.some.inj (e1.symm.trans e0);subst e;refine⟨h1,e0,λF I w vs a1 a2 a3 a4 hp a5 a6 a7=> ?_⟩;obtain⟨m,p1,p2,p3,p4⟩:=hp;by_cases h:(qe s.1 s.2.2.1).k=12
 ·exact rA F I w vs a1 a2 a3 a4 ⟨m,p1,p2,h,p4⟩ a5 a6 a7
 ·exact rM F I w vs a1 a2 a3 a4 ⟨m,p1,p2,h,p4⟩ a5 a6 a7
def zc6:∀c,q1q P 10 ((yH wL).below vT c)
 |0=>CtR.below_zero (by decide) (by decide) (Sen.enters_of Tryz.func10 (by kernel_rfl)) λs=>rfl
 |c+1=>znp c (zc6 c)
def znq:q1q P 10 (yH wL):=CtR.of_below zc6
def zxi(n k:Int):qk3 P (λ_=>none) Tryz.f80 B_ (bH) ⟨n,k⟩=(((0:Int)<=k/\k<=(8:Int))/\(0:Int)<=n/\n<(18446744073709551616:Int)->(∃(s:Nat),n / (↑((2:Nat) ^ ((8:Nat)*s)):Int)=n/\k=k/\zD n s=mkS []/\(↑s:Int)=(0:Int)/\(↑s:Int)<=k/\True)/\∀(s:Nat),(↑s:Int)<=k->(decide ((↑s:Int)<k)=true->(256:Int)≠(0:Int)/\∃(s_1:IV),size s_1=(1:Nat)/\qgf [int u8 (IntKind.wrap u8 (Int.tmod (n / (↑((2:Nat) ^ ((8:Nat)*s)):Int)) (256:Int)))] (0:Nat) (q18 s_1)/\size (zD n s)+size s_1<=(9223372036854775807:Nat)/\(256:Int)≠(0:Int)/\((-9223372036854775808:Int)<=(↑s:Int)+(1:Int)/\(↑s:Int)+(1:Int)<=(9223372036854775807:Int))/\∃(s_2:Nat),n / (↑((2:Nat) ^ ((8:Nat)*s_2)):Int)=IntKind.wrap u64 (Int.tdiv (n / (↑((2:Nat) ^ ((8:Nat)*s)):Int)) (256:Int))/\k=k/\zD n s_2=zD n s++s_1/\(↑s_2:Int)=(↑s:Int)+(1:Int)/\(↑s_2:Int)<=k/\toNat k- s_2<toNat k- s/\True)/\(decide ((↑s:Int)<k)=false->zD n (toNat k)=zD n s/\True)):=by kernel_rfl
section
variable (d:Int) (i:SV) (e:List AT) (a:GV) (C:Nat) (w:Int) (E:IV) (A:Option Addr) (F:Nat) (D:Int) (g:Option Addr) (f h:Nat) (m:Bool) (o:IV) (v:Int) (p:Option Addr) (j q:Nat) (r:Option Addr) (t u B:Nat) (W:Prop) (c:Nat×IV) (z:jO) (x26:Nat×IV) (x27:Nat->Option Obj)
 abbrev uA:=True/\qd e i x27/\GV.ok a x27
 def MC:=(Jt (d=D)->∃(k:Int×Int),k.1=GV.n a/\k.2=v/\((0<=k.2/\k.2<=8)/\0<=k.1/\k.1<18446744073709551616)/\PV.fb e w (GV.pv a)=zD k.1 (toNat k.2)/\True)
 def vQ:=i.1=i.1/\i.2.1=i.2.1/\i.2.2=i.2.2/\d=d/\E=E/\A=A/\C=C/\F=F/\w=w/\g=g/\f=f/\h=h/\m=m/\o=o/\D=D/\p=p/\j=j/\q=q/\r=r/\t=t/\u=u/\GV.n a=GV.n a/\GV.s a=GV.s a/\(GV.x a).1=(GV.x a).1/\(GV.x a).2.1=(GV.x a).2.1/\(GV.x a).2.2=(GV.x a).2.2/\(GV.y a).1=(GV.y a).1/\(GV.y a).2.1=(GV.y a).2.1/\(GV.y a).2.2=(GV.y a).2.2/\GV.b a=GV.b a/\(∀k,uA i e a k->uA i e a k)/\W
 def bu:=Ji (d=4) (∃(k:Unit),w=w/\uB d=decide (d=4)/\d=d/\vQ d i e a C D E A F v g f h m o p j q r t u (True/\True)) (∃(M:Unit),w=w/\uB d=decide (d=10)/\d=d/\vQ d i e a C D E A F v g f h m o p j q r t u (True/\True))
 def Yj:=((-9223372036854775808:Int)<=d/\d<9223372036854775808)
 abbrev wK:=List.toArray (Proofs.YtniogjgfomaicaaGreat.Rv.venc (zg d))
 def B4:=(∀k,uA i e a k->q37 k (adr A (toNat (GV.b a)*1)) [int i64 d])
 abbrev Ke:=(↑(GV.x a).2.1:Int)
 def BX:=(∀k,uA i e a k->q37 k (adr (GV.x a).1 ((0:Nat)*5)) [int u64 d,string E,slice A C F,slice g f h,int i64 w])
 def U3:=z.2.1.1=i.1/\z.2.1.2.1=i.2.1/\z.2.1.2.2=i.2.2/\z.2.2.1=d/\GV.n z.2.2.2=w/\GV.s z.2.2.2=E/\(GV.x z.2.2.2).1=A/\(GV.x z.2.2.2).2.1=C/\(GV.x z.2.2.2).2.2=F/\(GV.y z.2.2.2).1=g/\(GV.y z.2.2.2).2.1=f/\(GV.y z.2.2.2).2.2=h/\GV.b z.2.2.2=D/\(Kl z<j/\small z.1/\PV.sz (GV.pv z.2.2.2)/\PV.wt (GV.pv z.2.2.2)<90000000000000/\PV.fits z.1 z.2.2.1 (GV.pv z.2.2.2)=true)/\(∀k,uA i e a k->qd z.1 z.2.1 k/\GV.ok z.2.2.2 k)/\W
 abbrev BZ:=slice (GV.x a).1 (GV.x a).2.1 (GV.x a).2.2
 def MD:=c.1<=length (GV.l a)/\c.2++PV.fbL e (qo (qe e d) (GV.b a)) (GV.ks a) c.1 (drop c.1 (GV.pvs (GV.l a)))=PV.fbL e (qo (qe e d) (GV.b a)) (GV.ks a) 0 (GV.pvs (GV.l a))
 def MG:=(0<=(↑c.1:Int)/\(↑c.1:Int)<(Ke a))/\(GV.x a).1≠noA/\W
 def ME:=(∀k,uA i e a k->q37 k (adr (GV.x a).1 (toNat (↑c.1:Int)*5)) [int u64 d,string E,slice A C F,slice g f h,int i64 w])
 abbrev BY:=Jb ((↑c.1:Int)+1)
 def BW:=size c.2+size (PV.fb z.1 z.2.2.1 (GV.pv z.2.2.2))<=9223372036854775807/\BY c/\W
 def MH:=length (GV.l a)- c.1<length (GV.l a)- x26.1/\True
 def bo:=(0<=(↑c.1:Int)/\(↑c.1:Int)<(↑C:Int))/\A≠noA/\∃(k:Int),(∀M,uA i e a M->q37 M (Addr.add (adr A (toNat (↑c.1:Int)*9)) 2) [int i64 k])/\MG a (∃(Q:Int),∃N,∃U,∃(R:Nat),∃(V:Nat),∃T,∃(i8:Nat),∃(X:Nat),∃(G:Int),ME Q i e a R G N U V T i8 X c/\∃(K:jO),U3 k i e a R Q N U V G T i8 X F (BW (∃(L:Nat×IV),d=d/\(↑L.1:Int)=(↑c.1:Int)+1/\L.2=c.2++PV.fb K.1 K.2.2.1 (GV.pv K.2.2.2)/\w=w/\vQ w i e a f D E g h v p j q m o A C t r u B ((MD d e a L)/\MH a L c)) c K) K) c
 def bn:=Ji ((↑c.1:Int)<(Ke a)) (bo d i e a C w E A F D g f h m o v p j q r t u B c) (PV.fb e d (GV.pv a)=c.2/\True)
 def bk:=(∃(k:Nat×IV),d=d/\(↑k.1:Int)=0/\k.2=mkS []/\w=w/\vQ w i e a C D E A F v g f h m o p j q r t u ((MD d e a k)/\True))/\∀(M:Nat×IV),MD d e a M->bn d i e a j w E p B D A C F m o v g f h r q t u M
 def U4:=c.1<=length (GV.l a)/\c.2++PV.fbL e (qo (qe e d) (GV.b a)) (GV.ks a) c.1 (drop c.1 (GV.pvs (GV.l a)))=uN (length (GV.l a))++PV.fbL e (qo (qe e d) (GV.b a)) (GV.ks a) 0 (GV.pvs (GV.l a))
 def B0:=(0<=(↑c.1:Int)/\(↑c.1:Int)<(↑(GV.y a).2.1:Int))/\(GV.y a).1≠noA/\W
 def MF:=(∀k,uA i e a k->q37 k (adr (GV.y a).1 (toNat (↑c.1:Int)*1)) [string E])
 def B3:=Yj d/\size c.2+size (ByteArray.mk (wK d))<=9223372036854775807/\W
 abbrev B1:=slice (GV.y a).1 (GV.y a).2.1 (GV.y a).2.2
 def bj:=B0 a (∃k,MF i e a k c/\∃(Q:Int),Q=(↑(size k):Int)/\B3 Q (B0 a (∃N,MF i e a N c/\size (c.2++ByteArray.mk (wK Q))+size N<=9223372036854775807/\AV.sv (B1 a)=AV.sv (B1 a)/\∃R,MF i e a R c/\AV.sv (string R)=AV.sv (string N)/\MG a (∃(T:Int),∃i8,∃X,∃(G:Nat),∃(H:Nat),∃K,∃(I:Nat),∃(L:Nat),∃(O:Int),ME T i e a G O i8 X H K I L c/\∃(J:jO),U3 d i e a G T i8 X H O K I L C (size (c.2++ByteArray.mk (wK Q)++N)+size (PV.fb J.1 J.2.2.1 (GV.pv J.2.2.2))<=9223372036854775807/\BY c/\∃(S:Nat×IV),w=w/\(↑S.1:Int)=(↑c.1:Int)+1/\S.2=c.2++ByteArray.mk (wK Q)++N++PV.fb J.1 J.2.2.1 (GV.pv J.2.2.2)/\D=D/\vQ D i e a F d E A f v g h j m o p q t r u B ((U4 w e a S)/\MH a S c)) J) c) c) c) c
 def bp:=MG a (∃(k:Int),∃M,∃Q,∃(N:Nat),∃(U:Nat),∃R,∃(V:Nat),∃(T:Nat),∃(i8:Int),ME k i e a N i8 M Q U R V T c/\∃(G:jO),U3 d i e a N k M Q U i8 R V T C (BW (∃(H:Nat×IV),w=w/\(↑H.1:Int)=(↑c.1:Int)+1/\H.2=c.2++PV.fb G.1 G.2.2.1 (GV.pv G.2.2.2)/\D=D/\vQ D i e a F d E A f v g h j m o p q t r u B ((U4 w e a H)/\MH a H c)) c G) G) c
 def bh:=Ji (d=13) (bj w i e a C D E A F d g f h m o v p j q r t u B c) (bp w i e a C D E A F d g f h m o v p j q r t u B c)
 def bg:=Ji ((↑c.1:Int)<(Ke a)) (bh d i e a C w E A F D g f h m o v p j q r t u B c) (∃(Z:Int),Z=0/\B3 Z (PV.fb e D (GV.pv a)=c.2++ByteArray.mk (wK Z)/\True) c)
 def bf:=(∃(k:Nat×IV),d=d/\(↑k.1:Int)=0/\k.2=uN (length (GV.l a))/\w=w/\vQ w i e a C D E A F v g f h m o p j q r t u ((U4 d e a k)/\True))/\∀(M:Nat×IV),U4 d e a M->bg w i e a B D E A C d g F f m o v p h j r q t u M
 def bc:=(Ji (0<(Ke a)) (∃(k:Int),k=(Ke a)/\Yj k/\∃(M:Unit),d=d/\uN (length (GV.l a))=ByteArray.mk (wK k)/\w=w/\vQ w i e a C D E A F v g f h m o p j q r t u (True/\True)) (∃(N:Unit),d=d/\uN (length (GV.l a))=mkS []/\w=w/\vQ w i e a C D E A F v g f h m o p j q r t u (True/\True)))/\∀(R:Unit),True->bf d i e a C w E A F D g f h m o v p j q r t u B
 def ba:=(QA d=true->bc w i e a C d E A F D g f h m o v p j q r t u B)/\(QA d=false->PV.fb e w (GV.pv a)=mkS []/\True)
 def pk:=(Ji (d=12) (∃(k:Unit),w=w/\QA d=decide (d=12)/\d=d/\vQ d i e a C D E A F v g f h m o p j q r t u (True/\True)) (∃(Q:Unit),w=w/\QA d=decide (d=13)/\d=d/\vQ d i e a C D E A F v g f h m o p j q r t u (True/\True)))/\∀(U:Unit),True->ba d i e a C w E A F D g f h m o v p j q r t u B
 def pj:=Ji (d=9) (bk w i e a C d E A F D g f h m o v p j q r t u B) (pk d i e a C w E A F D g f h m o v p j q r t u B)
 def ph:=Ji (d=14) (∃(k:Int),k=GV.b a/\Yj k/\(0<=GV.b a/\GV.b a<(↑C:Int))/\A≠noA/\∃(M:Int),B4 M i e a A/\((0:Int)<=0/\0<(Ke a))/\(GV.x a).1≠noA/\∃(N:Int),∃U,∃R,∃(V:Nat),∃(T:Nat),∃i8,∃(X:Nat),∃(G:Nat),∃(H:Int),BX N i e a V H U R T i8 X G/\∃(I:jO),U3 M i e a V N U R T H i8 X G F (size (ByteArray.mk (wK k))+size (PV.fb I.1 I.2.2.1 (GV.pv I.2.2.2))<=9223372036854775807/\AV.agg [AV.sv (slice i.1 i.2.1 i.2.2)]=AV.agg [AV.sv (slice i.1 i.2.1 i.2.2)]/\AV.sv (slice A C f)=AV.sv (slice A C f)/\AV.sv (int i64 (GV.b a))=AV.sv (int i64 (GV.b a))/\∃(O:Int),B4 O i e a A/\AV.sv (int i64 O)=AV.sv (int i64 M)/\AV.sv (BZ a)=AV.sv (BZ a)/\∃(J:Int),∃Y,∃S,∃(i20:Nat),∃(i21:Nat),∃i22,∃(i23:Nat),∃(i24:Nat),∃(i25:Int),BX J i e a i20 i25 Y S i21 i22 i23 i24/\AV.agg [AV.sv (int u64 J),AV.sv (string Y),AV.sv (slice S i20 i21),AV.sv (slice i22 i23 i24),AV.sv (int i64 i25)]=AV.agg [AV.sv (int u64 N),AV.sv (string U),AV.sv (slice R V T),AV.sv (slice i8 X G),AV.sv (int i64 H)]/\PV.fb e w (GV.pv a)=ByteArray.mk (wK k)++PV.fb I.1 I.2.2.1 (GV.pv I.2.2.2)/\True) I) (pj d i e a h w E g j D p q t m o v r u B A C f F)
 def pg:=Ji (d=11) (PV.fb e w (GV.pv a)=GV.s a/\True) (ph d i e a C w E A F D g f h m o v p j q r t u B)
 def pd:=(QC d=true->∃(k:Int),k=(↑(size (GV.s a)):Int)/\Yj k/\size (ByteArray.mk (wK k))+size (GV.s a)<=9223372036854775807/\AV.sv (string (GV.s a))=AV.sv (string (GV.s a))/\PV.fb e w (GV.pv a)=ByteArray.mk (wK k)++GV.s a/\True)/\(QC d=false->pg d i e a C w E A F D g f h m o v p j q r t u B)
 def pc:=(Ji (d=7) (∃(k:Unit),w=w/\d=d/\QC d=decide (d=7)/\vQ d i e a C D E A F v g f h m o p j q r t u (True/\True)) (∃(Q:Unit),w=w/\d=d/\QC d=decide (d=8)/\vQ d i e a C D E A F v g f h m o p j q r t u (True/\True)))/\∀(U:Unit),True->pd d i e a t w E r B D A u C m o v g F f p h j q
 def pa:=MC d e a w 5 4/\(Jf (d=5)->MC d e a w 6 8/\(Jf (d=6)->pc d i e a C w E A F D g f h m o v p j q r t u B))
 def o_:=(uB d=true->∃(k:Int),k=IntKind.wrap i64 (GV.n a)/\Yj k/\PV.fb e w (GV.pv a)=ByteArray.mk (wK k)/\True)/\(uB d=false->pa d i e a C w E A F D g f h m o v p j q r t u B)
 def o9:=(Ji (d=3) (∃(k:Unit),w=w/\uB d=decide (d=3)/\d=d/\vQ d i e a C D E A F v g f h m o p j q r t u (True/\True)) (bu d i e a C w E A F D g f h m o v p j q r t u))/\∀(V:Unit),True->o_ d i e a C w E A F D g f h m o v p j q r t u B
 def o8:=(0<=d/\d<(↑i.2.1:Int))/\i.1≠noA/\∃(k:Int),∃M,∃Q,∃(N:Nat),∃(U:Nat),∃(R:Int),∃V,∃(T:Nat),∃(i8:Nat),∃(X:Bool),∃G,∃(H:Int),∃K,∃(I:Nat),∃(L:Nat),∃O,∃(i16:Nat),∃(J:Nat),(∀Y,uA i e a Y->q37 Y (adr i.1 (toNat d*10)) [int i64 k,string M,slice Q N U,int i64 R,slice V T i8,bool X,string G,int i64 H,slice K I L,slice O i16 J])/\MC k e a d 2 1/\(Jf (k=2)->o9 k i e a N d M Q U R V T i8 X G H K I L O i16 J C)
end
def zo2(n:Nat) (S:List AT) (x:SV) (t:Int) (v:GV):qk3 P (qfa [(80,B_),(25,Hc),(41,JD.below Kl n)]) Tryz.f41 (JD.below Kl (n+1)) (Oy) ⟨S,x,t,v⟩=(Kl (S,x,t,v)<n+1/\small S/\PV.sz (GV.pv v)/\PV.wt (GV.pv v)<90000000000000/\PV.fits S t (GV.pv v)=true->(∃(p:Pub),uA x S v p)->o8 t x S v n):=by kernel_rfl
def zwu:=λn S x t v=>Eq.trans (zo2 n S x t v) (by delta Ji Jb Jt Jf uA MC vQ bu Yj wK B4 Ke BX U3 BZ MD MG ME BY BW MH bo bn bk U4 B0 MF B3 B1 bj bp bh bg bf bc ba pk pj ph pg pd pc pa o_ o9 o8;exact rfl)
section
variable (d:List AT) (e:Int) (c:GV) (h:SV) (m:Int) (a:jO) (o:Prop) (i:Nat->Option Obj) (k l g:Nat) (f:(Option Addr×Nat×Nat)×Int)
 abbrev Ev:= !(decide (0<=f.2)&&decide (f.2<(↑f.1.2.1:Int)))
 def po:=0=size (kL d e (GV.pv c)).2/\qgt i noA 0 0 (q18 (kL d e (GV.pv c)).2)
 def XY:=∃(p:Unit),noA=noA/\(0:Nat)=0/\(0:Nat)=0/\(kL d e (GV.pv c)).1=m/\Pl noA/\True/\(∀j,True/\qd d h j/\GV.ok c j->po d e c j)/\True
 def Et:=a.2.1.1=h.1/\a.2.1.2.1=h.2.1/\a.2.1.2.2=h.2.2/\a.2.2.1=e/\GV.n a.2.2.2=GV.n c/\GV.s a.2.2.2=GV.s c/\(GV.x a.2.2.2).1=(GV.x c).1/\(GV.x a.2.2.2).2.1=(GV.x c).2.1/\(GV.x a.2.2.2).2.2=(GV.x c).2.2/\(GV.y a.2.2.2).1=(GV.y c).1/\(GV.y a.2.2.2).2.1=(GV.y c).2.1/\(GV.y a.2.2.2).2.2=(GV.y c).2.2/\GV.b a.2.2.2=GV.b c/\o
 abbrev QH:=PV.fb a.1 a.2.2.1 (GV.pv a.2.2.2)
 def Eu:=(True/\qd d h i/\GV.ok c i)/\True/\size (QH a)<=k / 1/\qgs i (some (Addr.mk l g none)) (take (size (QH a)*1) (q18 (QH a)))
 def pn:=size (QH a)=size (kL d e (GV.pv c)).2/\qgt i (some (Addr.mk k l none)) (size (QH a)) (g / nat_lit 1) (q18 (kL d e (GV.pv c)).2)
end
def za9(S:List AT) (x:SV) (t:Int) (v:GV):qk3 P (qfa [(30,KG),(40,Jx),(41,JD)]) Tryz.f26 z31 (ze4) ⟨S,x,t,v⟩=(small S/\ui S/\PV.sz (GV.pv v)/\PV.wt (GV.pv v)<90000000000000->(∃(p:Pub),True/\qd S x p/\GV.ok v p)->∃(s:(Option Addr×Nat×Nat)×Int),s.1.1=x.1/\s.1.2.1=x.2.1/\s.1.2.2=x.2.2/\s.2=t/\True/\((Ev s)=true->XY S t v x 1)/\((Ev s)=false->∃(s:jO),Et t v x s ((small s.1/\ui s.1/\PV.sm (GV.pv s.2.2.2))/\(∀(p:Pub),True/\qd S x p/\GV.ok v p->qd s.1 s.2.1 p/\GV.ok s.2.2.2 p)/\((!PV.fits s.1 s.2.2.1 (GV.pv s.2.2.2))=true->XY S t v x 7)/\((!PV.fits s.1 s.2.2.1 (GV.pv s.2.2.2))=false->∃(s:jO),Et t v x s ((small s.1/\PV.sz (GV.pv s.2.2.2)/\PV.wt (GV.pv s.2.2.2)<90000000000000/\PV.fits s.1 s.2.2.1 (GV.pv s.2.2.2)=true)/\(∀(p:Pub),True/\qd S x p/\GV.ok v p->qd s.1 s.2.1 p/\GV.ok s.2.2.2 p)/\Ji (5000<(↑(size (QH s)):Int)) (XY S t v x 3) (∀(b s_1 u:Nat),(∃(p:Pub),Eu S v x s p u b s_1)->∃(b_1:Unit),some (Addr.mk b s_1 none)=some (Addr.mk b s_1 none)/\size (QH s)=size (QH s)/\u / nat_lit 1=u / nat_lit 1/\(kL S t (GV.pv v)).1=0/\Pl (some (Addr.mk b s_1 none))/\True/\(∀(p:Pub),Eu S v x s p u b s_1->pn S t v s p b s_1 u)/\True)))))):=by kernel_rfl
def zes:=λS x t v=>Eq.trans (za9 S x t v) (by delta Ji Jt Jf Ev po XY Et QH Eu pn;exact rfl)
section
def zxj:q4p P 80 B_:=by
 refine qF jz (W:=bH) Tryz.func80 λ⟨(n:Int),(k:Int)⟩=>(zxi n k).mpr ?_;rintro⟨⟨hk0,hk8⟩,hn0,hn1⟩;simp only[decide_eq_true_eq,decide_eq_false_iff_not,and_true,true_and];refine⟨⟨0,by simp,rfl,rfl,hk0⟩,λj hj=>⟨λhlt=>⟨by decide,?_⟩,λhge=> ?_⟩⟩
 ·have e2:(2:Int) ^ (8*j)=((2 ^ (8*j):Nat):Int):=by norm_cast
  have e3:n / ((2 ^ (8*(j+1)):Nat):Int)=n / ((2 ^ (8*j):Nat):Int) / 256:=by rw[show 8*(j+1)=8*j+8 by omega,Nat.pow_add,Int.natCast_mul,Int.ediv_ediv_of_nonneg (Int.natCast_nonneg _)];rfl
  have m0:0<=n / ((2 ^ (8*j):Nat):Int):=Int.ediv_nonneg hn0 (Int.natCast_nonneg _);have m1:n / ((2 ^ (8*j):Nat):Int)<=n:=Int.ediv_le_self _ hn0;have e4:zD n (j+1)=zD n j++mkS [(n / ((2 ^ (8*j):Nat):Int) % 256).toNat]:=by rw[zD,e2]
  have e5:=Q9 n j;generalize n / ((2 ^ (8*j):Nat):Int)=m at*;refine⟨mkS [(m % 256).toNat],rfl,λi w h=> ?_,?_,by decide,⟨by omega,by omega⟩,j+1,?_,e4,by omega,by omega,by omega⟩
  ·rw[j5t _ (by omega)]at h;rw[Int.tmod_eq_emod_of_nonneg m0,VP,Nat.zero_add,show m % 256 % 256=(((m % 256).toNat:Nat):Int)by omega];exact h
  ·rw[e5];show j+1<=_;omega
  ·rw[e3,Int.tdiv_eq_ediv_of_nonneg m0,wrap_u64];omega
 ·obtain rfl:j=k.toNat:=by omega
  rfl
def zcv{S:List AT} {f:Nat->Int}:∀{l:List PV} {k i:Nat} (h:i<l.length),PV.fitL S f k l=true->PV.fits S (f (k+i)) l[i]=true
  |v::l,k,0,h,hf=>by rw[PV.fitL,Bool.and_eq_true]at hf;exact hf.1
  | v::l,k,i+1,h,hf=>by rw[PV.fitL,Bool.and_eq_true]at hf;have:=zcv (k:=k+1) (i:=i) (by simpa using h) hf.2;rw[show k+(i+1)=k+1+i by omega];exact this
variable {S:List AT} {f:Nat->Int} {v:GV}
def NA{i:Nat} (hi:i<v.l.length) (h:PV.fitL S f 0 (GV.pvs v.l)=true):PV.fits S (f i) v.l[i].pv=true:=by have:=zcv (i:=i) (by rw[GV.pvs_len];exact hi) h;rw[Nat.zero_add,Zg hi]at this;exact this
variable {ks:List IV}
def Ij{j:Nat} (hj:j<v.l.length):PV.fbL S f ks j ((GV.pvs v.l).drop j)=zG ks j++PV.fb S (f j) v.l[j].pv++PV.fbL S f ks (j+1) ((GV.pvs v.l).drop (j+1)):=by
 have h:j<(GV.pvs v.l).length:=by rw[GV.pvs_len];exact hj
 rw[List.drop_eq_getElem_cons h,PV.fbL,Zg hj]
def Hk{l:List PV} {j:Nat} (h:l.length<=j):PV.fbL S f ks j (l.drop j)=mkS []:=by rw[List.drop_of_length_le h,PV.fbL]
def yW(S:List AT) (a:AT) (v:GV):IV:=
 if a.k=2 then zD v.n 1 else
 if a.k=3\/a.k=4\/a.k=10 then vz (IntKind.wrap .i64 v.n)else
 if a.k=5 then zD v.n 4 else
 if a.k=6 then zD v.n 8 else
 if a.k=7\/a.k=8 then vz v.s.size++v.s else
 if a.k=11 then v.s else
 if a.k=14 then vz v.b++PV.fbL S (qo a v.b) v.ks 0 (GV.pvs v.l)else
 if a.k=9 then PV.fbL S (qo a v.b) v.ks 0 (GV.pvs v.l)else
 if a.k=12\/a.k=13 then uN v.l.length++PV.fbL S (qo a v.b) v.ks 0 (GV.pvs v.l)++vz 0 else mkS []
def jg0{t:Int} {a:AT} (hs:S[t.toNat]? =some a):PV.fb S t v.pv=yW S a v:=by rw[GV.pv_eq,PV.fb,hs,GV.pvs_len];rfl
def zwv(n:Nat) (he0:q4p P 41 (JD.below Kl n)):q4p P 41 (JD.below Kl (n+1)):=by
 refine qF (qcn (qgp zxj (qgp zde (qgp he0 qjr)))) (W:=Oy) Tryz.func41 λ⟨S,(x:SV),(t:Int),v⟩=>(zwu n S x t v).mpr ?_;rintro⟨hmu,hS,hv,hw,hfit⟩ ⟨p,_,hx,hvo⟩;have hmu:SizeOf.sizeOf v<n+1:=hmu;have xs:x.2.1=S.length:=hx.1.1;have xl:=GV.x_len hvo;have yl:=GV.y_len hvo;have wl:=GV.wt_len v;have hs1:=GV.ss_s hv;have hvs:=hv.1;rw[GV.sm_eq]at hvs;obtain⟨hn,hss,vl,kl,ksz,_⟩:=hvs;obtain⟨t0,t1⟩:=WD hfit;have hsz:=zhn v.pv t hv hw hfit hS;obtain⟨j,rfl⟩:=Int.eq_ofNat_of_zero_le t0;have hj:j<S.length:=by omega
 have hsj:S[((j:Nat):Int).toNat]? =some S[j]:=by rw[Int.toNat_natCast,List.getElem?_eq_getElem hj]
 have hat:=λq (hq:qd S x q/\v.ok q)=>wC hq.1 hj;have hao:=λq (hq:qd S x q/\v.ok q)=>hq.1.2 S[j] (List.getElem_mem hj);have hsm:=hS.2 S[j] (List.getElem_mem hj);have hqq:=j6i (v:=v) hsj hfit;have ef:=λ(r:IV) (h:yW S S[j] v=r)=>(jg0 (v:=v) hsj).trans h;have bl:S[j].br.2.1=S[j].brs.length:=(hao p ⟨hx,hvo⟩).2.2.2.1.1;have fl:S[j].f.2.1=S[j].fs.length:=(hao p ⟨hx,hvo⟩).2.2.1.1;simp only[qH,Int.toNat_natCast,exists_const,xl,yl,kz hj];refine⟨⟨by omega,by omega⟩,(hat p ⟨hx,hvo⟩).1,S[j].k,S[j].nm,S[j].al.1,S[j].al.2.1,S[j].al.2.2,S[j].it,S[j].sy.1,S[j].sy.2.1,S[j].sy.2.2,S[j].hd,S[j].df,S[j].sz,S[j].f.1,S[j].f.2.1,S[j].f.2.2,S[j].br.1,S[j].br.2.1,S[j].br.2.2,λq hq=>(hat q hq).2,?_⟩;rw[bl,fl];generalize S[j]=a at*;generalize PV.fb S (j:Int) v.pv=F at*;refine⟨λh2=> ?_,λh2=>⟨⟨λh=>by unfold uB;exact kA (by omega),λh3=>⟨λh=>by unfold uB;exact kA (by omega),λh4=>by unfold uB;exact kA (by omega)⟩⟩,?_⟩⟩
 ·exact⟨⟨v.n,1⟩,rfl,rfl,⟨⟨(by decide:(0:Int)<=1),(by decide:(1:Int)<=8)⟩,hn.1,hn.2⟩,ef _ (by unfold yW;rw[if_pos h2];rfl)⟩
 intro _ _;refine⟨λhL=> ?_,λhL=> ?_⟩
 ·unfold uB at hL;rw[decide_eq_true_eq]at hL;exact⟨_,rfl,S' v.n,ef _ (by unfold yW;rw[if_neg h2,if_pos hL];rfl)⟩
 unfold uB at hL;rw[decide_eq_false_iff_not]at hL;refine⟨λh5=> ?_,λh5=>⟨λh6=> ?_,λh6=>⟨⟨λh=>by unfold QC;exact kA (by omega),λh=>by unfold QC;exact kA (by omega)⟩,?_⟩⟩⟩
 ·exact⟨⟨v.n,4⟩,rfl,rfl,⟨⟨(by decide:(0:Int)<=4),(by decide:(4:Int)<=8)⟩,hn.1,hn.2⟩,ef _ (by unfold yW;rw[if_neg h2,if_neg hL,if_pos h5];rfl)⟩
 ·exact⟨⟨v.n,8⟩,rfl,rfl,⟨⟨(by decide:(0:Int)<=8),(by decide:(8:Int)<=8)⟩,hn.1,hn.2⟩,ef _ (by unfold yW;rw[if_neg h2,if_neg hL,if_neg h5,if_pos h6];rfl)⟩
 intro _ _;refine⟨λhb=> ?_,λhb=> ?_⟩
 ·unfold QC at hb;rw[decide_eq_true_eq]at hb;have hz:=kX (v.s.size:Int) (by omega) (by omega);refine⟨_,rfl,⟨by omega,by omega⟩,?_,ef _ (by unfold yW;rw[if_neg h2,if_neg hL,if_neg h5,if_neg h6,if_pos hb];rfl)⟩;show(vz (v.s.size:Int)).size+v.s.size<=_;omega
 unfold QC at hb;rw[decide_eq_false_iff_not]at hb;refine⟨λh11=> ?_,λh11=>⟨λh14=> ?_,λh14=>⟨λh9=> ?_,λh9=>⟨⟨λh=>by unfold QA;exact kA (by omega),λh=>by unfold QA;exact kA (by omega)⟩,?_⟩⟩⟩⟩
 ·exact ef _ (by unfold yW;rw[if_neg h2,if_neg hL,if_neg h5,if_neg h6,if_neg hb,if_pos h11])
 ·obtain⟨ho,hfl⟩:=hqq (by unfold qq;exact decide_eq_true (by omega));obtain⟨o1,o2,o3,o4⟩:=z40 ho;obtain⟨b0,b1,l1⟩:=o3 h14;have hks:=o1 (by omega);have h0:0<v.l.length:=by omega
  obtain⟨b,hvb⟩:=Int.eq_ofNat_of_zero_le b0;have hbl:b<a.brs.length:=by omega
  have hty:qo a v.b 0=a.brs[b]:=by unfold qo;rw[if_neg (by omega),if_pos h14,hvb,Int.toNat_natCast,List.getD_eq_getElem?_getD,List.getElem?_eq_getElem hbl];rfl
  have hd:=NA (S:=S) (f:=qo a v.b) h0 hfl;have hs:=Ij (S:=S) (f:=qo a v.b) (ks:=v.ks) h0;have hend:=Hk (S:=S) (f:=qo a v.b) (ks:=v.ks) (l:=GV.pvs v.l) (j:=0+1) (by rw[GV.pvs_len];omega);rw[hend,hks,Nf,uh,z12,←hks,List.drop_zero]at hs;have hsz0:=z35 h0;have hwt:=GV.wt_at h0;have hvz:=kX v.b (by omega) (by omega);rw[hty]at hd hs;have eF:=ef _ (by unfold yW;rw[if_neg h2,if_neg hL,if_neg h5,if_neg h6,if_neg hb,if_neg h11,if_pos h14,hs]);have hFs:F.size=(vz v.b).size+(PV.fb S a.brs[b] v.l[0].pv).size:=by rw[eF,qM]
  have hba:=λq (hq:qd S x q/\v.ok q)=>z22 (hao q hq) hbl;refine⟨v.b,rfl,⟨by omega,by omega⟩,⟨b0,by omega⟩,?_⟩;rw[show v.b.toNat=b by omega];refine⟨(hba p ⟨hx,hvo⟩).1,a.brs[b],λq hq=>(hba q hq).2,⟨by omega,by omega⟩,(GV.cells_at hvo h0).1,v.l[0].n,v.l[0].s,v.l[0].x.1,v.l[0].x.2.1,v.l[0].x.2.2,v.l[0].y.1,v.l[0].y.2.1,v.l[0].y.2.2,v.l[0].b,λq hq=>(GV.cells_at hq.2 h0).2,⟨S,x,a.brs[b],v.l[0]⟩,?_⟩;simp only[true_and,eq_self];refine⟨⟨by show SizeOf.sizeOf v.l[0]<n;omega,hS,GV.sz_at hv h0,by show v.l[0].pv.wt<_;omega,hd⟩,λq hq=>⟨hq.1,GV.ok_at hq.2 h0⟩,?_,a.brs[b],λq hq=>(hba q hq).2,rfl,v.l[0].n,v.l[0].s,v.l[0].x.1,v.l[0].x.2.1,v.l[0].x.2.2,v.l[0].y.1,v.l[0].y.2.1,v.l[0].y.2.2,v.l[0].b,λq hq=>(GV.cells_at hq.2 h0).2,rfl,eF⟩;show(vz v.b).size+(PV.fb S a.brs[b] v.l[0].pv).size<=_;omega
 ·obtain⟨ho,hfl⟩:=hqq (by unfold qq;exact decide_eq_true (by omega));obtain⟨o1,o2,o3,o4⟩:=z40 ho;have hll:=o2 h9;have hks:=o1 (by omega);have eF:=ef _ (by unfold yW;rw[if_neg h2,if_neg hL,if_neg h5,if_neg h6,if_neg hb,if_neg h11,if_neg h14,if_pos h9]);refine⟨⟨⟨0,mkS []⟩,rfl,rfl,Nat.zero_le _,?_⟩,?_⟩
  ·exact uh _
  rintro⟨i,C⟩ ⟨hi,he⟩;simp only at hi he⊢;refine⟨λhlt=> ?_,λhge=> ?_⟩
  ·have hil:i<v.l.length:=(by omega);have hif:i<a.fs.length:=(by omega);have hty:qo a v.b i=a.fs[i].ty:=(by unfold qo;rw[if_pos h9,List.getElem?_eq_getElem hif]);have hd:=NA (S:=S) (f:=qo a v.b) hil hfl;have hs:=Ij (S:=S) (f:=qo a v.b) (ks:=v.ks) hil;rw[hty]at hd hs;rw[hs,hks,Nf,uh,←hks]at he;have hes:=congrArg ByteArray.size he;rw[←eF,qM,qM]at hes;have hsc:=z35 hil;have hwt:=GV.wt_at hil;have hfa:=λq (hq:qd S x q/\v.ok q)=>WO (hao q hq) hif;refine⟨⟨by omega,by omega⟩,(wB (hao p ⟨hx,hvo⟩) hif).1,a.fs[i].ty,λq hq=>hfa q hq,⟨by omega,by omega⟩,(GV.cells_at hvo hil).1,v.l[i].n,v.l[i].s,v.l[i].x.1,v.l[i].x.2.1,v.l[i].x.2.2,v.l[i].y.1,v.l[i].y.2.1,v.l[i].y.2.2,v.l[i].b,λq hq=>(GV.cells_at hq.2 hil).2,⟨S,x,a.fs[i].ty,v.l[i]⟩,?_⟩;simp only[true_and,eq_self];refine⟨⟨by show SizeOf.sizeOf v.l[i]<n;omega,hS,GV.sz_at hv hil,by show v.l[i].pv.wt<_;omega,hd⟩,λq hq=>⟨hq.1,GV.ok_at hq.2 hil⟩,by omega,⟨by omega,by omega⟩,⟨i+1,C++PV.fb S a.fs[i].ty v.l[i].pv⟩,by show((i+1:Nat):Int)=_;omega,rfl,⟨by show i+1<=_;omega,?_⟩,by show _- (i+1)<_;omega⟩;rw[←he,ByteArray.append_assoc]
  ·rw[eF,←he,Hk (by rw[GV.pvs_len];omega),z12]
 intro _ _;refine⟨λhA=> ?_,λhA=> ?_⟩
 ·unfold QA at hA;rw[decide_eq_true_eq]at hA;obtain⟨ho,hfl⟩:=hqq (by unfold qq;exact decide_eq_true (by omega));obtain⟨o1,o2,o3,o4⟩:=z40 ho;have eF:=ef _ (by unfold yW;rw[if_neg h2,if_neg hL,if_neg h5,if_neg h6,if_neg hb,if_neg h11,if_neg h14,if_neg h9,if_pos hA]);have hz0:=kX 0 (by omega) (by omega);have hFs:=congrArg ByteArray.size eF;rw[qM]at hFs;refine⟨⟨λhl=>⟨_,rfl,⟨by omega,by omega⟩,?_⟩,λhl=> ?_⟩,?_⟩
  ·unfold uN;rw[if_pos (by omega)];rfl
  ·unfold uN;rw[if_neg (by omega)]
  intro _ _;refine⟨⟨⟨0,uN v.l.length⟩,rfl,rfl,Nat.zero_le _,rfl⟩,?_⟩;rintro⟨i,C⟩ ⟨hi,he⟩;simp only at hi he⊢;refine⟨λhlt=> ?_,λhge=>⟨0,rfl,⟨by omega,by omega⟩,?_,?_⟩⟩
  ·have hil:i<v.l.length:=(by omega);have hty:qo a v.b i=a.it:=(by unfold qo;rw[if_neg (by omega),if_neg (by omega)]);have hd:=NA (S:=S) (f:=qo a v.b) hil hfl;have hs:=Ij (S:=S) (f:=qo a v.b) (ks:=v.ks) hil;rw[hty]at hd hs;rw[hs]at he;have hes:=congrArg ByteArray.size he;rw[qM,qM,qM]at hes;have hsc:=z35 hil;have hwt:=GV.wt_at hil;refine⟨λh13=> ?_,λh13=> ?_⟩
   ·have hik:i<v.ks.length:=by have:=o4 h13;omega
    have hvz:=kX (v.ks[i].size:Int) (by omega) (by have:=G0 (List.getElem_mem hik);omega);have hkz:=G0 (List.getElem_mem hik);rw[zic hik]at he hes;rw[qM]at hes;have hy:=λq (hq:v.ok q)=>WX (show qc qp v.y v.ks q by rw[GV.ok_eq]at hq;exact hq.2.1) hik;have sC1:(C++vz (v.ks[i].size:Int)).size=C.size+(vz (v.ks[i].size:Int)).size:=qM _ _;have sC2:(C++vz (v.ks[i].size:Int)++v.ks[i]).size=C.size+(vz (v.ks[i].size:Int)).size+v.ks[i].size:=(by rw[qM,qM]);refine⟨⟨by omega,by omega⟩,(hy p hvo).1,v.ks[i],λq hq=>(hy q hq.2).2,_,rfl,⟨by omega,by omega⟩,?_,⟨by omega,by omega⟩,(hy p hvo).1,v.ks[i],λq hq=>(hy q hq.2).2,?_,v.ks[i],λq hq=>(hy q hq.2).2,rfl,⟨by omega,by omega⟩,(GV.cells_at hvo hil).1,v.l[i].n,v.l[i].s,v.l[i].x.1,v.l[i].x.2.1,v.l[i].x.2.2,v.l[i].y.1,v.l[i].y.2.1,v.l[i].y.2.2,v.l[i].b,λq hq=>(GV.cells_at hq.2 hil).2,⟨S,x,a.it,v.l[i]⟩,?_⟩
    ·show C.size+(vz (v.ks[i].size:Int)).size<=_;omega
    ·show(C++vz (v.ks[i].size:Int)).size+v.ks[i].size<=_;omega
    simp only[true_and,eq_self];refine⟨⟨by show SizeOf.sizeOf v.l[i]<n;omega,hS,GV.sz_at hv hil,by show v.l[i].pv.wt<_;omega,hd⟩,λq hq=>⟨hq.1,GV.ok_at hq.2 hil⟩,?_,⟨by omega,by omega⟩,⟨i+1,C++vz (v.ks[i].size:Int)++v.ks[i]++PV.fb S a.it v.l[i].pv⟩,by show((i+1:Nat):Int)=_;omega,rfl,⟨by show i+1<=_;omega,?_⟩,by show _- (i+1)<_;omega⟩
    ·show(C++vz (v.ks[i].size:Int)++v.ks[i]).size+_<=_;omega
    ·rw[←he];simp only[ByteArray.append_assoc]
   ·have hks:=o1 (by omega);rw[hks,Nf,uh,←hks]at he;refine⟨⟨by omega,by omega⟩,(GV.cells_at hvo hil).1,v.l[i].n,v.l[i].s,v.l[i].x.1,v.l[i].x.2.1,v.l[i].x.2.2,v.l[i].y.1,v.l[i].y.2.1,v.l[i].y.2.2,v.l[i].b,λq hq=>(GV.cells_at hq.2 hil).2,⟨S,x,a.it,v.l[i]⟩,?_⟩;simp only[true_and,eq_self];refine⟨⟨by show SizeOf.sizeOf v.l[i]<n;omega,hS,GV.sz_at hv hil,by show v.l[i].pv.wt<_;omega,hd⟩,λq hq=>⟨hq.1,GV.ok_at hq.2 hil⟩,by omega,⟨by omega,by omega⟩,⟨i+1,C++PV.fb S a.it v.l[i].pv⟩,by show((i+1:Nat):Int)=_;omega,rfl,⟨by show i+1<=_;omega,?_⟩,by show _- (i+1)<_;omega⟩;rw[←he,ByteArray.append_assoc]
  ·have hes:=congrArg ByteArray.size he;rw[Hk (by rw[GV.pvs_len];omega),z12]at hes;show C.size+(vz 0).size<=_;omega
  ·rw[eF,←he,Hk (by rw[GV.pvs_len];omega),z12];rfl
 ·unfold QA at hA;rw[decide_eq_false_iff_not]at hA;exact ef _ (by unfold yW;rw[if_neg h2,if_neg hL,if_neg h5,if_neg h6,if_neg hb,if_neg h11,if_neg h14,if_neg h9,if_neg hA])
def zcq:∀n,q4p P 41 (JD.below Kl n)
 |0=>Ct.below_zero (by decide) (by decide) (Sen.enters_of Tryz.func41 (by kernel_rfl)) λs=>⟨rfl,rfl⟩
 |n+1=>zwv n (zcq n)
def zo3:q4p P 41 JD:=Ct.of_below zcq
def zet:q4p P 26 z31:=by
 refine qF (qcn (qgp GZ (qgp zhr (qgp zo3 qjr)))) (W:=ze4) Tryz.func26 λ⟨S,(x:SV),(t:Int),v⟩=>(zes S x t v).mpr ?_;rintro⟨hS,hk,hv,hw⟩ ⟨p,_,hx,hvo⟩;have xs:x.2.1=S.length:=hx.1.1;have nil:∀q,qgt q noA 0 0 (q18 (mkS [])):=λq=>⟨Nat.le_refl _, .inl ⟨rfl,z46⟩⟩;simp only[qH,Int.toNat_natCast,exists_const];refine⟨⟨x,t⟩,rfl,rfl,rfl,rfl,λh=> ?_,λh=>⟨⟨S,x,t,v⟩,?_⟩⟩
 ·have:kL S t v.pv=(1,mkS []):=by unfold kL;simp only[Bool.and_eq_false_iff,decide_eq_false_iff_not]at h;rw[if_pos (by omega)]
  rw[this];exact⟨rfl,z46,λq _=>⟨rfl,nil q⟩⟩
 simp only[Bool.and_eq_true,decide_eq_true_eq]at h;have hr:¬(t<0\/S.length<=t):=by omega
 simp only[true_and,eq_self];refine⟨⟨hS,hk,hv.1⟩,λq hq=>hq,λhb=> ?_,λhb=>⟨⟨S,x,t,v⟩,?_⟩⟩
 ·have:kL S t v.pv=(7,mkS []):=by unfold kL;rw[if_neg hr,if_pos hb]
  rw[this];exact⟨rfl,z46,λq _=>⟨rfl,nil q⟩⟩
 have hr2:=zhm hr hb;simp only[true_and,eq_self];refine⟨⟨hS,hv,hw,hb⟩,λq hq=>hq,λhe=> ?_,λhe=> ?_⟩
 ·rw[hr2,if_neg (by omega)];exact⟨rfl,z46,λq _=>⟨rfl,nil q⟩⟩
 ·rw[hr2,if_pos (by omega)];rintro b s u ⟨q,hq,hc,hrow⟩;refine⟨rfl,rowP_Pl hrow,λr hr=>⟨rfl,?_⟩⟩;have:=hr.2.2;rw[Nat.mul_one,←q2t,List.take_length]at this;exact⟨hr.2.1,this⟩
end
abbrev LbS:=SV×List Int×SV×List Int×SV×List Int×SV×IV
def lbM(x:SV) (L:List Int) (y:SV) (M:List Int) (z:SV) (N:List Int) (w:SV) (E:IV):PF:=⟨true,λp=>qc qn x L p/\qc qn y M p/\qc qn z N p/\(w.2.1=E.size/\qgt p w.1 w.2.1 w.2.2 (q18 E)),λ_ _ h e=>⟨jo h e.1,jo h e.2.1,jo h e.2.2.1,e.2.2.2.1,q4n h e.2.2.2.2⟩⟩
def zue:Ct:=ZH LbS (λ⟨x,L,y,M,z,N,w,E⟩=>[z_ x,z_ y,z_ z,z_ w]) (λ⟨x,L,y,M,z,N,w,E⟩=>VH L/\VH M/\VH N) (λ⟨x,L,y,M,z,N,w,E⟩=>lbM x L y M z N w E) λ_=> .sv (.bool true)
def zve:LbS->WayF:=λ_=>{
 pub:=λi k=>match i,k with
  |12,k+1=>[64]
  |_,_=>[]
 spl:=λi=>match i with
  |8=>some 3
  |11=>some 4
  |12=>some 5
  |_=>none
 flo:=λi=>match i with
  |8=>some (7,[3])
  |12=>some (10,[5])
  |_=>none}
section
variable (c:zb) (f:SV) (e:List AT×(Option Addr×Nat×Nat)×Bool×Int) (j:SV) (l:List Int) (m:SV) (o p:List Int) (i:SV) (k:IV) (g:IV×Int) (h:uH) (w:Nat) (z:Option Addr) (A:List Value) (q:Nat->Option Obj) (D:Option Addr×Nat×Nat) (I:Prop) (J:Int) (t:Kt)
 abbrev Qy:=True/\qc qn f l q/\qc qn j o q/\qc qn m p q/\i.2.1=size k/\qgt q i.1 i.2.1 i.2.2 (q18 k)
 abbrev U6:=J<(↑f.2.1:Int)
 def MJ:=D.1=f.1/\D.2.1=f.2.1/\D.2.2=f.2.2/\True/\I
 abbrev B8:=slice e.2.1.1 e.2.1.2.1 e.2.1.2.2
 def MI:=AV.agg [AV.sv (B8 e)]=AV.agg [AV.sv (B8 e)]
 abbrev B6:=slice (GV.x c.1).1 (GV.x c.1).2.1 (GV.x c.1).2.2
 abbrev B7:=slice (GV.y c.1).1 (GV.y c.1).2.1 (GV.y c.1).2.2
 def U5:=(((Qy f j l m o p i k q)/\qd e.1 e.2.1 q)/\GV.ok c.1 q)/\size g.1+i.2.1<=w/\qgs q z (take ((size g.1+i.2.1)*nat_lit 1) (q18 g.1++A))
 def bz:=qd t.1 t.2.1 q/\t.2.2.2.1.2.1=size t.2.2.2.2/\qgt q t.2.2.2.1.1 t.2.2.2.1.2.1 t.2.2.2.1.2.2 (q18 t.2.2.2.2)
 def bx:=Ji (h.2.1=(↑(size g.1):Int)) (∃(d:GV×GV),GV.n d.1=GV.n c.1/\GV.s d.1=GV.s c.1/\(GV.x d.1).1=(GV.x c.1).1/\(GV.x d.1).2.1=(GV.x c.1).2.1/\(GV.x d.1).2.2=(GV.x c.1).2.2/\(GV.y d.1).1=(GV.y c.1).1/\(GV.y d.1).2.1=(GV.y c.1).2.1/\(GV.y d.1).2.2=(GV.y c.1).2.2/\GV.b d.1=GV.b c.1/\GV.n d.2=GV.n h.1/\GV.s d.2=GV.s h.1/\(GV.x d.2).1=(GV.x h.1).1/\(GV.x d.2).2.1=(GV.x h.1).2.1/\(GV.x d.2).2.2=(GV.x h.1).2.2/\(GV.y d.2).1=(GV.y h.1).1/\(GV.y d.2).2.1=(GV.y h.1).2.1/\(GV.y d.2).2.2=(GV.y h.1).2.2/\GV.b d.2=GV.b h.1/\(PV.sm (GV.pv d.1)/\PV.sm (GV.pv d.2))/\(∀a,(U5 c f e j l m o p i k g w z A a)/\GV.ok h.1 a->GV.ok d.1 a/\GV.ok d.2 a)/\true=PV.same (GV.pv d.1) (GV.pv d.2)/\True) (true=false/\True)
 def bw:=Ji (h.2.2=0) (bx c f e j l m o p i k g h w z A) (true=false/\True)
 def pB:=Ji (h.2.2=3) (true=true/\True) (bw c f e j l m o p i k g h w z A)
 def Ew:=length (q18 g.1)=size g.1*1/\∃d,length d=f.2.1*1/\(∀a,((Qy j m l i o p f k a)/\qd e.1 e.2.1 a)/\GV.ok c.1 a->qgs a f.1 d)/\qkd d/\(size g.1+f.2.1)*1<=140737488355328/\MI e/\∀(u r C:Nat) (G:Option Addr) (K H:Nat),(∃i8,U5 c j e m l i o p f k g H G d i8)->∃(v:Kt),v.2.1.1=e.2.1.1/\v.2.1.2.1=e.2.1.2.1/\v.2.1.2.2=e.2.1.2.2/\v.2.2.1=0/\v.2.2.2.1.1=G/\v.2.2.2.1.2.1=size g.1+f.2.1/\v.2.2.2.1.2.2=H/\(jI v.1/\size v.2.2.2.2<100000000000000000)/\(∀E,U5 c j e m l i o p f k g H G d E->bz E v)/\∀(B:uH),Jy v.1 v.2.2.1 v.2.2.2.2 B->(∃F,(U5 c j e m l i o p f k g H G d F)/\GV.ok B.1 F)->pB c j e m l i o p f k g B H G d
 def px:=(Ew c f e j l m o p i k g)/\Ew c f e j l m o p i k g
 def pw:=((!c.2.1)=true->true=true/\True)/\((!c.2.1)=false->∃(d:Option Addr×Nat×Nat),MJ f d (MI e/\AV.agg [AV.sv (int u64 (GV.n c.1)),AV.sv (string (GV.s c.1)),AV.sv (B6 c),AV.sv (B7 c),AV.sv (int i64 (GV.b c.1))]=AV.agg [AV.sv (int u64 (GV.n c.1)),AV.sv (string (GV.s c.1)),AV.sv (B6 c),AV.sv (B7 c),AV.sv (int i64 (GV.b c.1))]/\∃(a:wQ),a.2.1.1=e.2.1.1/\a.2.1.2.1=e.2.1.2.1/\a.2.1.2.2=e.2.1.2.2/\a.2.2.1=0/\GV.n a.2.2.2.1=GV.n c.1/\GV.s a.2.2.2.1=GV.s c.1/\(GV.x a.2.2.2.1).1=(GV.x c.1).1/\(GV.x a.2.2.2.1).2.1=(GV.x c.1).2.1/\(GV.x a.2.2.2.1).2.2=(GV.x c.1).2.2/\(GV.y a.2.2.2.1).1=(GV.y c.1).1/\(GV.y a.2.2.2.1).2.1=(GV.y c.1).2.1/\(GV.y a.2.2.2.1).2.2=(GV.y c.1).2.2/\GV.b a.2.2.2.1=GV.b c.1/\a.2.2.2.2.1.1=d.1/\a.2.2.2.2.1.2.1=d.2.1/\a.2.2.2.2.1.2.2=d.2.2/\a.2.2.2.2.2.2=0/\VG a/\(∀u,((Qy j m l f o p i k u)/\qd e.1 e.2.1 u)/\GV.ok c.1 u->(qd a.1 a.2.1 u/\GV.ok a.2.2.2.1 u)/\qc qn a.2.2.2.2.1 a.2.2.2.2.2.1 u)/\∀(r:IV×Int),xp a r->px c i e j l m o p f k r))
 def B5:=∃(d:Option Addr×Nat×Nat),MJ f d (MI e/\∃(a:yT),a.2.1.1=e.2.1.1/\a.2.1.2.1=e.2.1.2.1/\a.2.1.2.2=e.2.1.2.2/\a.2.2.1=0/\a.2.2.2.1=0/\a.2.2.2.2.1.1=d.1/\a.2.2.2.2.1.2.1=d.2.1/\a.2.2.2.2.1.2.2=d.2.2/\a.2.2.2.2.2.2=0/\(qx a.1/\(0<=a.2.2.1/\a.2.2.1<(↑(length a.1):Int))/\wL (qe a.1 a.2.2.1)/\(0<=a.2.2.2.1/\a.2.2.2.1<=6)/\0<=a.2.2.2.2.2.2/\a.2.2.2.2.2.2<=(↑(length a.2.2.2.2.2.1):Int)/\zM a.2.2.2.2.2.1)/\(∀u,(Qy j f l m o p i k u)/\qd e.1 e.2.1 u->qd a.1 a.2.1 u/\qc qn a.2.2.2.2.1 a.2.2.2.2.2.1 u)/\∀(r:zb),zq a.1 a.2.2.1 a.2.2.2.1 a.2.2.2.2.2.1 a.2.2.2.2.2.2 r.1 r.2.1 r.2.2->(∃C,((Qy j f l m o p i k C)/\qd e.1 e.2.1 C)/\GV.ok r.1 C)->pw r m e j l f o p i k)
 def pE:=(B5 f e j l m o p i k)/\B5 f e j l m o p i k
 def pD:=((!e.2.2.1)=true->true=true/\True)/\((!e.2.2.1)=false->pE f e j l m o p i k)
 def pC:=Ji (U6 f 20) (true=true/\True) (∃(d:Option Addr×Nat×Nat),MJ j d (∃(a:Kw),a.1.1=d.1/\a.1.2.1=d.2.1/\a.1.2.2=d.2.2/\a.2.2=0/\VN a/\(∀u,Qy j m l i o p f k u->qc qn a.1 a.2.1 u)/\∀(r:List AT×(Option Addr×Nat×Nat)×Bool×Int),qx r.1/\(r.2.2.1=true->r.1≠[])/\a.2.2<=r.2.2.2/\r.2.2.2<=(↑(length a.2.1):Int)->(∃C,(Qy j m l i o p f k C)/\qd r.1 r.2.1 C)->pD m r j l i o p f k))
 def pA:=Ji (U6 f 20) (true=true/\True) (pC j m l i o p f k)
 def pz:=Ji (U6 f 60) (true=true/\True) (pA j m l i o p f k)
 def py:=Ji (U6 f 120) (true=true/\True) (pz j m l i o p f k)
end
def zig(x:SV) (L:List Int) (y:SV) (M:List Int) (z:SV) (N:List Int) (w:SV) (E:IV):qk5 P (qfa [(7,GB),(8,MQ),(14,Ki)]) (qgc [(9,If),(10,yH wL),(11,ZG),(13,HA)]) Tryz.f5 zue (zve) ⟨x,L,y,M,z,N,w,E⟩=(VH L/\VH M/\VH N->(∃(p:Pub),Qy x y L z M N w E p)->∃(s:Unit),True/\((!true)=true->true=false/\True)/\((!true)=false->py x y L z M N w E)):=by kernel_rfl
def zoz:=λx L y M z N w E=>Eq.trans (zig x L y M z N w E) (by delta Ji Jt Jf Qy U6 MJ B8 MI B6 B7 U5 bz bx bw pB Ew px pw B5 pE pD pC pA pz py;exact rfl)
def j5y(a b:IV):q18 (a++b)=q18 a++q18 b:=by simp[q18]
def GO(a:IV):(q18 a).length=a.size:=q2t a
def zw9(a:IV):qkd (q18 a):=q8w a
def zgu(r E:IV):jb (r++E) r 0:=⟨Int.le_refl _,λj hj=>by have:j<r.data.toList.length:=hj;show((r++E).data.toList)[0+j]? =_;rw[Nat.zero_add,show(r++E).data.toList=r.data.toList++E.data.toList by simp,List.getElem?_append_left this]⟩
def zwn{S:List AT} (hS:jI S) {v:PV} {r E:IV} (hsm:v.sm) (hf:PV.fits S 0 v=true) (hb:PV.bl S 0 v r) (hD:(r++E).size<100000000000000000) {b:uH} (h:Jy S 0 (r++E) b):b.2.2=3\/(b.2.2=0/\b.2.1=r.size/\b.1.pv=v):=by
 have hr:=WD hf;have h:=h.1 ⟨by decide,by omega⟩;rcases Oj hS hD 20 0 v r 0 0 hsm hf hb (zgu r E) (Nat.zero_le _)with e|⟨c,e⟩
 ·rw[e]at h;exact .inl h.1
 ·rw[e]at h;exact .inr ⟨h.1,by rw[h.2.2];show((0+r.size:Nat):Int)=_;omega,h.2.1⟩
def zp0:q4p P 5 zue:=by
 refine bA (qcn (qgp zeg (qgp zp8 (qgp zys qjr)))) (qde (qgo zw7 (qgo znq (qgo (j5z zet) (qgo zhi qjq))))) (W:=zve) Tryz.func5 λ⟨(x:SV),L,(y:SV),M,(z:SV),N,(w:SV),E⟩=>(zoz x L y M z N w E).mpr ?_;rintro⟨⟨hL,hLb⟩,⟨hM,hMb⟩,⟨hN,hNb⟩⟩ ⟨p,_,hx,hy,hz,hwl,hw⟩;have hxl:x.2.1=L.length:=hx.1;have hyl:y.2.1=M.length:=hy.1;have hzl:z.2.1=N.length:=hz.1;simp only[qH,exists_const,forall_const,Int.toNat_natCast,hxl,hyl,hzl,hwl]
 refineλh120 h60 h20 hE20=>⟨x,rfl,hxl,rfl,⟨x,L,0⟩,rfl,rfl,rfl,rfl,⟨by show(0:Int)<=0;decide,by show(0:Int)<=_;omega,by omega,hLb⟩,λq hq=>hq.1,?_⟩
 rintro⟨S,zz,b,n'⟩ ⟨hS,hne, -, -⟩ ⟨p2,hp2,hz2⟩
 refineλhb=>⟨?xa,?xb⟩
 case xa |xb=>
  have hS0:0<S.length:=List.length_pos_iff.2 (hne hb);refine⟨y,rfl,hyl,rfl,⟨S,zz,0,0,y,M,0⟩,rfl,rfl,rfl,rfl,rfl,rfl,rfl,rfl,rfl,⟨hS,⟨by show(0:Int)<=0;decide,by show(0:Int)<(S.length:Int);omega⟩,trivial,⟨by show(0:Int)<=0;decide,by show(0:Int)<=6;decide⟩,by show(0:Int)<=0;decide,by show(0:Int)<=(M.length:Int);omega,by show M.length<1000000;omega,hMb⟩,λq hq=>⟨hq.2,hq.1.2.1⟩,?_⟩;rintro⟨v,b2,n2⟩ hv _;have hv:zq S 0 0 M 0 v b2 n2:=hv;obtain⟨v1,v2,v3,v4,v5⟩:=hv;simp only;intro hb2;have v5:=v5 hb2;have hw0:jX 0=15728640000:=by decide
  have hok:=zx0 hS;refine⟨z,rfl,hzl,rfl,⟨S,zz,0,v,z,N,0⟩,rfl,rfl,rfl,rfl,rfl,rfl,rfl,rfl,rfl,rfl,rfl,rfl,rfl,rfl,rfl,rfl,rfl,⟨hok,v5.1,v5.2,v3,by show v.pv.wt<_;omega,by show(0:Int)<=0;decide,by show(0:Int)<=(N.length:Int);omega,by show N.length<1000000;omega,hNb⟩,λq hq=>⟨⟨hq.1.2,hq.2⟩,hq.1.1.2.2.1⟩,?_⟩;rintro⟨r,n3⟩ ⟨r1,r2,r3,r4⟩;have r1:PV.bl S 0 v.pv r:=r1;have r2:r.size+20<=400*v.pv.wt:=r2;have hDz:(r++E).size<100000000000000000:=by rw[ByteArray.size_append];omega
  refine⟨?ya,?yb⟩;case ya|yb=>
   refine⟨by rw[GO];omega,q18 E,by rw[GO];omega,λq hq=>hq.1.1.2.2.2.2,zw9 E,by show(r.size+E.size)*1<=_;omega,?_⟩;intro a c _;refine⟨⟨S,zz,0,(a,(r++E).size,c),r++E⟩,rfl,rfl,rfl,rfl,rfl,ByteArray.size_append,rfl,⟨hok,hDz⟩,λq hq=>⟨hq.1.1.2,rfl,?_,?_⟩,?_⟩
   ·show(r++E).size<=c;rw[ByteArray.size_append];exact hq.2.1
   ·have h3:=hq.2.2;rw[List.take_of_length_le (by rw[List.length_append,GO,GO];show r.size+E.size<=(r.size+E.size)*1;omega),←j5y]at h3;exact h3
   ·rintro⟨u,m,e⟩ hu _;have hu:=zwn hok v3.1 v5.1 r1 hDz hu;simp only at hu⊢
    refineλh3=>⟨λh0=>⟨λhm=>⟨(v,u),rfl,rfl,rfl,rfl,rfl,rfl,rfl,rfl,rfl,rfl,rfl,rfl,rfl,rfl,rfl,rfl,rfl,rfl,⟨v3.1,?_⟩,λq hq=>⟨hq.1.1.2,hq.2⟩,?_⟩,λhm=> ?_⟩,λh0=> ?_⟩
    ·have:=(hu.resolve_left h3).2.2;show u.pv.sm;rw[this];exact v3.1
    ·have:=(hu.resolve_left h3).2.2;show true=PV.same v.pv u.pv;rw[this];exact(z97 _).symm
    ·exact absurd (hu.resolve_left h3).2.1 hm
    ·exact absurd (hu.resolve_left h3).1 h0
section
 open Go.ChangeShapes Go.WideShapes Go.ChangeAt Go.Joins Go.Deep
abbrev Xn(w:World):Pub:=q11 (λ_ b=>b<w.heap.size) w
variable {w:World} {a:Addr}
def zcl{v:Value} (h:w.cell? a=some v):q5n (Xn w) a=some v/\a.spot=none:=by
  unfold World.cell? at h;cases ho:w.heap[a.block]? with
  |none=>rw[ho]at h;cases h
  | some o=>
    have hlt:a.block<w.heap.size:=(Array.getElem?_eq_some_iff.1 ho).1;have hp:Xn w a.block=some o:=q03.2 ⟨hlt,ho⟩;rw[ho]at h;unfold q5n;rw[hp];cases o<;>simp only at h<;>first|cases h|skip
    cases hs:a.spot with
    |none=>rw[hs]at h;simp[qai,hs]at h⊢;exact h
    |some k=>rw[hs]at h;simp at h
def zen{p:Pub} {x y:List Value} (h1:q37 p a x) (h2:q37 p (a.add x.length) y):q37 p a (x++y):=λj v hj=>by
 by_cases hx:j<x.length
 ·rw[List.getElem?_append_left hx]at hj;exact h1 j v hj
 ·rw[List.getElem?_append_right (by omega)]at hj;have:=h2 _ v hj;rw[Addr.add_add,show x.length+(j- x.length)=j by omega]at this;exact this
def z95{α:Type} {f:α->List Value} {p:Pub} {k:Nat}:∀(l:List α) (a:Addr),(∀g∈l,(f g).length=k)->(∀(i:Nat) (h:i<l.length),q37 p (a.add (i*k)) (f l[i]))->q37 p a (qa f l)
  | [],a,_,_=>λj v hj=>by simp[qa]at hj
  | g::l,a,hf,h=>by have h0:=h 0 (by simp);have e:a.add (0*k)=a:=(by unfold Addr.add;rw[if_pos (by omega)]);rw[e]at h0;show q37 p a (f g++qa f l);refine zen h0 ?_;rw[hf g List.mem_cons_self];refine z95 l (a.add k) (λg hg=>hf g (List.mem_cons_of_mem _ hg)) λi hi=> ?_;have:=h (i+1) (by simp;omega);rw[Addr.add_add,show k+i*k=(i+1)*k by rw[Nat.succ_mul];omega];simpa using this
def zxc{f:Nat} {C:Ct} (h:q4p P f C) (s:C.σ) (vs:List Value) (ha:∀I,VRs I (C.args s) vs) (hh:C.h s=[]) (r:Value) (hr:C.r s= .sv r) (w:World) (hp:C.pre s) (hm:(C.mem s).ok (Xn w)):
  Calls P f ⟨vs⟩ w λe w'=>e= .returned r/\Below w.heap.size w w':=by
 obtain⟨h1,h2,_,h4⟩:=h;obtain⟨h0,h1',e1,e2,h5⟩:=h4 s;rw[hh]at e1;cases e1;refine(h5 (λ_ b=>b<w.heap.size) (λi=>if i=0 then some (0,0,0)else none) w vs (ha _) ⟨λid o b t h=> ?_,λid id' o o' b t t' h=> ?_,λid o b t h=> ?_⟩ (λ_ h=>h) (λ_ h=>h) hp hm (λi hi=>if_neg (by omega)) (if_pos rfl)).mono λe w' he=> ?_
 ·rw[T.get_e]at h;cases h
 ·rw[T.get_e]at h;cases h
 ·rw[T.get_e]at h;cases h
 obtain⟨z,I',rfl,hz,hg,_⟩:=he;rw[hr]at hz;cases hz;exact⟨rfl,⟨hg.same.1,hg.same.2,hg.same.3,hg.size,λk hk=>hg.fr k hk⟩⟩
def WS(w:World) (a:Option Addr) (len cap:Nat) (z:List Int):Prop:=(a=none/\len=0/\cap=0/\z=[])\/∃x,a=some x/\len<=cap/\cap<=maxLen/\z.length=cap/\(∀i,i<z.length->w.cell? (x.add i)=some (.int .u8 (z.getD i 0)))/\∀n∈z,(Lit.int .u8 n).wf=true
def Ht{a:Option Addr} {len cap:Nat} {z:List Int} (h:WS w a len cap z):∃L:List Int,qc qn (a,len,cap) L (Xn w)/\L.length<9223372036854775808/\∀b∈L,0<=b/\b<256:=by
  rcases h with⟨rfl,rfl,rfl,rfl⟩|⟨x,rfl,hl,hm,hz,hc,hw⟩
  · exact⟨[],⟨rfl,Nat.le_refl _, .inl ⟨rfl,trivial⟩⟩,by simp,λb hb=>by cases hb⟩
  have hlen:(z.take len).length=len:=by rw[List.length_take];omega
  have hat:∀(i:Nat) (hi:i<(z.take len).length),w.cell? (x.add i)=some (.int .u8 (z.take len)[i]):=λi hi=>by have hiz:i<z.length:=(by omega);have:=hc i hiz;rw[List.getD_eq_getElem?_getD,List.getElem?_eq_getElem hiz]at this;simpa using this
  refine⟨z.take len,⟨hlen.symm,hl,?_⟩,by unfold maxLen at hm;omega,λb hb=> ?_⟩
  · by_cases h0:z.take len=[]
    · rw[h0];exact .inl ⟨rfl,trivial⟩
    · have hpos:0<(z.take len).length:=List.length_pos_iff.2 h0;have e0:x.add 0=x:=(by unfold Addr.add;rw[if_pos rfl]);have hp0:=zcl (hat 0 hpos);rw[e0]at hp0;refine .inr ⟨x,rfl,hp0.2,z95 (k:=1) _ x (λg _=>rfl) λi hi j v hj=> ?_⟩;cases j with
      |succ j=>simp[qn]at hj
      | zero=>
        have:=(zcl (hat i hi)).1;rw[Addr.add_add,show i*1+0=i by omega,this,←hj];rfl
  · have hw:=hw b (List.mem_of_mem_take hb);simp only[Lit.wf,Bool.and_eq_true,decide_eq_true_eq]at hw;have h1:IntKind.min .u8=0:=(by decide);have h2:IntKind.max .u8=255:=(by decide);omega
end
def Oe:∀{L:List Int},(∀b∈L,0<=b/\b<256)->qa qn L=q18 (mkS (L.map Int.toNat))/\(mkS (L.map Int.toNat)).size=L.length
  | [],_=>⟨rfl,rfl⟩
  | b::l,h=>by obtain⟨i1,i2⟩:=Oe (L:=l) λx hx=>h x (List.mem_cons_of_mem _ hx);obtain⟨h0,h1⟩:=h b List.mem_cons_self;refine⟨?_,by rw[q0v];simp⟩;rw[qa,i1];unfold q18 mkS qn;simp;omega
def adecBlocks_law_wf(a0:Option Addr) (len0 cap0:Nat) (z0:List Int) (a1:Option Addr) (len1 cap1:Nat) (z1:List Int) (a2:Option Addr) (len2 cap2:Nat) (z2:List Int) (a3:Option Addr) (len3 cap3:Nat) (z3:List Int) (w:World) (w0:WS w a0 len0 cap0 z0) (w1:WS w a1 len1 cap1 z1) (w2:WS w a2 len2 cap2 z2) (w3:WS w a3 len3 cap3 z3):Calls P 5 #[.slice a0 len0 cap0, .slice a1 len1 cap1, .slice a2 len2 cap2, .slice a3 len3 cap3] w λe w'=>e= .returned (.bool true)/\Below w.heap.size w w':=by obtain⟨L,hx,hL⟩:=Ht w0;obtain⟨M,hy,hM⟩:=Ht w1;obtain⟨N,hz,hN⟩:=Ht w2;obtain⟨K,hk,hK⟩:=Ht w3;obtain⟨e1,e2⟩:=Oe hK.2;have hk2:len3=K.length:=hk.1;have hk3:=hk.2;rw[e1]at hk3;exact zxc zp0 ⟨(a0,len0,cap0),L,(a1,len1,cap1),M,(a2,len2,cap2),N,(a3,len3,cap3),mkS (K.map Int.toNat)⟩ [.slice a0 len0 cap0, .slice a1 len1 cap1, .slice a2 len2 cap2, .slice a3 len3 cap3] (λI=> .cons (.sv _) (.cons (.sv _) (.cons (.sv _) (.cons (.sv _) .nil)))) rfl (.bool true) rfl w ⟨hL,hM,hN⟩ ⟨hx,hy,hz,by show len3=_;rw[hk2,e2],hk3⟩
end
end Go.Proofs.YtniogjgfomaicaaGreat.Wd
