/-
  What the functions do: contracts, and their questions answered. No condition but what its theorems ask.
-/
import Derived.Test.YtldhaghgonkknaaDoorT1
namespace Go.Proofs.YtldhaghgonkknaaDoor.Wd
open Go.Proofs.YtldhaghgonkknaaDoor.Eng Go.Proofs.YtldhaghgonkknaaDoor.Sen Go.RowKit
set_option linter.defProp false
set_option linter.unusedVariables false
set_option linter.unusedSimpArgs false
set_option maxRecDepth 1000000
open Go.Value (int string slice bool)
open Go.IntKind (i64 u64 u8 u32 i32)
open _root_.List (length take drop)
open _root_.ByteArray (size)
open _root_.Int (toNat)
noncomputable section
section
variable {s:ByteArray} {w:ByteArray}
def zki{i:Int}:isF s i 0 w=wdF s (sk s i.toNat) w:=by unfold isF;rfl
def zqt{i:Int}:isP s i 0 w=wdP s (sk s i.toNat) w:=by unfold isP wdP;rw[zki]
def zan{i d:Int} {b:TrB} (h:rsP (jT s (lv d) i.toNat) s i b):tqP s i 0 d b:=by
 obtain⟨g,e,j⟩:=b
 show(if(0:Int)=0 then rsP (jT s (lv d) i.toNat) s i (g,e,j)else e=0/\rdK s j)
 rw[if_pos rfl];exact h
def zjm{i d e e':Int} {g:GJ} {j:Int} (he:e≠0) (h:e'=e) (hj:rdK s j):tqP s i e d (g,e',j):=by
 show(if e=0 then rsP (jT s (lv d) i.toNat) s i (g,e',j)else e'=e/\rdK s j)
 rw[if_neg he];exact⟨h,hj⟩
def zey{Q:Pub->Prop} {i d e:Int} {k n:Int} {t:ByteArray} {e' q:Int} (h:tqP s i e d (z08 k n t,e',q)):∃b:TrB,b.1.k=k/\b.1.n=n/\b.1.s=t/\b.1.y.1=noA/\b.1.y.2.1=0/\b.1.y.2.2=0/\b.1.x.1=noA/\b.1.x.2.1=0/\b.1.x.2.2=0/\b.2.2=q/\b.2.1=e'/\tqP s i e d b/\∀p:Pub,Q p->b.1.ok p:=
 ⟨(z08 k n t,e',q),rfl,rfl,rfl,rfl,rfl,rfl,rfl,rfl,rfl,rfl,rfl,h,λp _=>z0b k n t p⟩
def z8u(c:Nat) (hl:q2d P 31 (z4g.below z0r (c+1))) (hb:q2d P 32 (z2l.below z0r (c+1))):q2d P 15 (z15.below z7p (c+1)):=by
  refine qk9 mixed (qdv (qhn z1a (qhn z4o (qhn z4y (qhn z0x (qhn zbw qkn)))))) (qel (qhm hl (qhm hb qkm))) (W:=λ_=>{}) Go.Proofs.Tryd.func15 (by kernel_rfl) (show 1<=2 by decide) (show 2<=2 by decide) (λs=>by kernel_rfl) λ⟨⟨s,(i:Int),(e:Int)⟩,(d:Int)⟩=>(zfg c s i e d).mpr ?_
  rintro⟨hmu,⟨h1,h2,h3⟩,d1,d2⟩
  have hmu:lv d<c+1:=hmu
  simp only[sbS,Int.toNat_natCast,exists_const]
  obtain⟨i,rfl⟩:=Int.eq_ofNat_of_zero_le h1
  have rk:∀{q:Nat},q<=s.size->rdK s (q:Int):=λh=>⟨by omega,by omega,h3⟩
  have hl:=z0u (s:=s) (i:=i) (by omega)
  have hg:=z0o s i
  simp only[Int.toNat_natCast,z52,z03,z13]
  refine⟨rk (by omega),λhn=>⟨λ_=> ?_,λh=>absurd h hn⟩,λhe=>⟨λhn=>absurd he hn,λ_=> ?_⟩⟩
  · refine zey ?_
    exact zjm hn (if_neg hn) (rk hl)
  subst he
  simp only[eq_self,if_true,true_and,zki,zqt,Int.toNat_natCast,z03]
  have J:=zbj s (lv d)
  have J:=congrFun J i
  unfold jN at J
  have fin:∀{k n:Int} {t:ByteArray} {e':Int} {q:Nat} {Q:Pub->Prop},rsP (jT s (lv d) i) s i (z08 k n t,e',(q:Int))->∃b:TrB,b.1.k=k/\b.1.n=n/\b.1.s=t/\b.1.y.1=noA/\b.1.y.2.1=0/\b.1.y.2.2=0/\b.1.x.1=noA/\b.1.x.2.1=0/\b.1.x.2.2=0/\b.2.2=(q:Int)/\b.2.1=e'/\tqP s i 0 d b/\∀p:Pub,Q p->b.1.ok p:=λh=>zey (zan (by rw[Int.toNat_natCast];exact h))
  have okL:∀{k n:Int} {t:ByteArray} {q:Nat},jT s (lv d) i= .ok (.mk k n t [] []) q->i<=q->q<=s.size->rsP (jT s (lv d) i) s i (z08 k n t,0,(q:Int)):=λh h1 h2=>by rw[h];exact⟨rk h2,⟨rfl,by omega⟩,rfl,z11 _ _ _⟩
  have erL:∀{k n:Int} {t:ByteArray} {q:Nat} {e:Int} (m:Nat),jT s (lv d) i= .err m->m≠0->q<=s.size->e=m->rsP (jT s (lv d) i) s i (z08 k n t,e,(q:Int)):=λm h h0 h1 h2=>by rw[h];exact z0t (rk h1) h0 h2
  have up:∀(R:JR) (b:TrB),jT s (lv d) i=R->rsP R s (sk s i:Nat) b->tqP s i 0 d b:=λR ⟨g,e,q⟩ h hr=>by
    refine zan ?_
    rw[Int.toNat_natCast,h]
    refine⟨hr.1,?_⟩
    have h2:=hr.2
    cases R with
    |err k=>exact h2
    |ok x j'=>exact⟨⟨h2.1.1,by have:=h2.1.2;omega⟩,h2.2⟩
  refine⟨λhE=> ?_,λhE=>⟨⟨by omega,by omega⟩,?_⟩⟩
  · have hE:((sk s i:Nat):Int)=(s.size:Nat):=hE
    have p0:pk s i=0:=by unfold pk;exact z01 (by omega)
    have w0:∀w:ByteArray,0<w.size->¬wdF s (sk s i) w=true:=λw hw h=>by have:=z36 h;omega
    rw[if_neg (by omega),if_neg (by omega),if_neg (by omega),if_neg (by rw[p0];decide),if_neg (w0 _ (by decide)),if_neg (w0 _ (by decide)),if_neg (w0 _ (by decide))]at J
    exact fin (erL 2 J (by decide) hl rfl)
  have hlt:sk s i<s.size:=by have:¬((sk s i:Nat):Int)=(s.size:Nat):=hE;omega
  have hlt2:((sk s i:Nat):Int)<s.size:=by omega
  have bp:bat s (sk s i)=pk s i:=rfl
  rw[bp]
  have lst:¬20<d->jT s (lv d) i=jLt s (jTo s (lv d)) (sk s i)->pk s i=91->(z0r ((s,((sk s i:Nat):Int)),d)<c+1/\rdK s (sk s i:Nat)/\(1<=d/\d<=20)/\pk s i=91)/\∀b:TrB,z0d ((s,((sk s i:Nat):Int)),d) b->(∃p:Pub,b.1.ok p)->∃b_1:TrB,b_1.1.k=b.1.k/\b_1.1.n=b.1.n/\b_1.1.s=b.1.s/\b_1.1.y.1=b.1.y.1/\b_1.1.y.2.1=b.1.y.2.1/\b_1.1.y.2.2=b.1.y.2.2/\b_1.1.x.1=b.1.x.1/\b_1.1.x.2.1=b.1.x.2.1/\b_1.1.x.2.2=b.1.x.2.2/\b_1.2.2=b.2.2/\b_1.2.1=b.2.1/\tqP s i 0 d b_1/\∀p:Pub,b.1.ok p->b_1.1.ok p:=λhd hJ h=>⟨⟨hmu,rk hl,⟨d1,by omega⟩,h⟩,λb hb _=>⟨b,rfl,rfl,rfl,rfl,rfl,rfl,rfl,rfl,rfl,rfl,rfl,up _ b hJ (by
      have hb:rsP (jLt s (jTo s (lv d)) (((sk s i:Nat):Int)).toNat) s (sk s i:Nat) b:=hb
      rw[Int.toNat_natCast]at hb
      exact hb),λp hp=>hp⟩⟩
  have tbl:¬20<d->jT s (lv d) i=jTb s (jTo s (lv d)) (sk s i)->pk s i=123->(z0r ((s,((sk s i:Nat):Int)),d)<c+1/\rdK s (sk s i:Nat)/\(1<=d/\d<=20)/\pk s i=123)/\∀b:TrB,z07 ((s,((sk s i:Nat):Int)),d) b->(∃p:Pub,b.1.ok p)->∃b_1:TrB,b_1.1.k=b.1.k/\b_1.1.n=b.1.n/\b_1.1.s=b.1.s/\b_1.1.y.1=b.1.y.1/\b_1.1.y.2.1=b.1.y.2.1/\b_1.1.y.2.2=b.1.y.2.2/\b_1.1.x.1=b.1.x.1/\b_1.1.x.2.1=b.1.x.2.1/\b_1.1.x.2.2=b.1.x.2.2/\b_1.2.2=b.2.2/\b_1.2.1=b.2.1/\tqP s i 0 d b_1/\∀p:Pub,b.1.ok p->b_1.1.ok p:=λhd hJ h=>⟨⟨hmu,rk hl,⟨d1,by omega⟩,h⟩,λb hb _=>⟨b,rfl,rfl,rfl,rfl,rfl,rfl,rfl,rfl,rfl,rfl,rfl,up _ b hJ (by
      have hb:rsP (jTb s (jTo s (lv d)) (((sk s i:Nat):Int)).toNat) s (sk s i:Nat) b:=hb
      rw[Int.toNat_natCast]at hb
      exact hb),λp hp=>hp⟩⟩
  have deep:20<d->lv d=0:=λh=>by unfold lv;omega
  refine⟨λc3=> ?_,λc3=>⟨λc1=>⟨λhd=> ?_,λhd=>⟨λc1'=> ?_,λc1'=>absurd c1 c1'⟩⟩,λc1=>⟨λc2=>⟨λhd=> ?_,λhd=>⟨λc1'=>absurd c1' c1,λ_=> ?_⟩⟩,λc2=> ?_⟩⟩⟩
  · rw[if_neg (by omega),if_neg (by omega),if_pos (by omega)]at J
    have hp1:=z2r (s:=s) (i:=i) (by omega)
    refine⟨rk hl,fin ?_⟩
    by_cases hu:(uqS s i).1=0
    · rw[if_pos hu]at J
      rw[hu]
      exact okL J (by omega) hp1
    · rw[if_neg hu]at J
      rw[z2s hu]
      exact erL 2 J (by decide) hp1 rfl
  · rw[if_pos (by omega),deep hd]at J
    exact fin (erL 3 (by rw[deep hd];exact J) (by decide) hl rfl)
  · rw[if_pos (by omega)]at J
    exact lst hd J (by omega)
  · rw[if_neg (by omega),if_pos (by omega),deep hd]at J
    exact fin (erL 3 (by rw[deep hd];exact J) (by decide) hl rfl)
  · rw[if_neg (by omega),if_pos (by omega)]at J
    exact tbl hd J (by omega)
  rw[if_neg (by omega),if_neg (by omega),if_neg (by omega)]at J
  have num:pk s i=45\/z0f (pk s i)=true->rsP (jT s (lv d) i) s i (z08 (if z12 s (sk s i)=true then 3 else 0) (if z12 s (sk s i)=true then nqV s (sk s i)else 0) (mkS []),(if z12 s (sk s i)=true then 0 else 2),(((nqX s (sk s i)).2.1:Nat):Int)):=λhc=>by
    have N:=zf3 hlt hc
    rw[if_pos hc]at J
    have hm:=z2i hlt
    have hd:=z58 s (nmM s (sk s i))
    have hd2:=z5z hm.2.1
    cases hO:z12 s (sk s i)with
    | true=>
      obtain⟨n1,n2,n3⟩:=N.1 hO
      rw[if_pos hO]at J
      simp only[if_true]
      exact okL J (by omega) (by omega)
    | false=>
      rw[if_neg (by rw[hO];decide)]at J
      have hq:=(zf4 hlt).2
      exact erL 2 J (by decide) hq rfl
  have z1:(mkS [110,117,108,108]).size=4:=rfl
  have z2:(mkS [116,114,117,101]).size=4:=rfl
  have z3:(mkS [102,97,108,115,101]).size=5:=rfl
  refine⟨λe=>⟨⟨rk hl,hlt2⟩,fin (num (.inl (by omega)))⟩,λe45=>⟨λe48=>⟨λe57=>⟨⟨rk hl,hlt2⟩,fin (num (.inr (by unfold z0f;simp;omega)))⟩,λe57=> ?_⟩,λe48=> ?_⟩⟩
  all_goals
    have no:¬(pk s i=45\/z0f (pk s i)=true):=λh=>by
      rcases h with h|h
      · omega
      · have:=z0l h;omega
    rw[if_neg no]at J
    refine⟨⟨rk hl,by decide⟩,λw1=> ?_,λw1=> ?_⟩
    · rw[if_pos (show wdF s (sk s i) z3u=true from w1)]at J
      have:=z36 w1
      rw[z1d w1,z1]
      exact fin (okL J (by omega) (by omega))
    rw[if_neg (show¬wdF s (sk s i) z3u=true by rw[show wdF s (sk s i) z3u=false from w1];decide)]at J
    rw[z2j w1,z03]
    refine⟨⟨rk hl,by decide⟩,λw2=> ?_,λw2=> ?_⟩
    · rw[if_pos (show wdF s (sk s i) z3v=true from w2)]at J
      have:=z36 w2
      rw[z1d w2,z2]
      exact fin (okL J (by omega) (by omega))
    rw[if_neg (show¬wdF s (sk s i) z3v=true by rw[show wdF s (sk s i) z3v=false from w2];decide)]at J
    rw[z2j w2,z03]
    refine⟨⟨rk hl,by decide⟩,λw3=> ?_,λw3=> ?_⟩
    · rw[if_pos (show wdF s (sk s i) z25=true from w3)]at J
      have:=z36 w3
      rw[z1d w3,z3]
      exact fin (okL J (by omega) (by omega))
    rw[if_neg (show¬wdF s (sk s i) z25=true by rw[show wdF s (sk s i) z25=false from w3];decide)]at J
    rw[z2j w3]
    exact fin (erL 2 J (by decide) hl rfl)
end
def z85{k n:Int} {t:ByteArray} {a b:Option Addr} {c e:Nat} {gs:List GJ} {nm:List ByteArray} {p:Pub} (h1:GJ.oks gs p) (hc:gs.length<=c) (hr:qj6 p a (List.take (gs.length*5) (z00 GJ.cells gs))) (he:nm.length<=e) (hs:qj6 p b (List.take (nm.length*1) (z00 txV nm))):(GJ.mk k n t (a,gs.length,c) gs (b,nm.length,e) nm).ok p:=by
 have cl:(z00 GJ.cells gs).length=gs.length*5:=z04 z0j gs
 have cm:(z00 txV nm).length=nm.length*1:=z04 z24 nm
 rw[List.take_of_length_le (by rw[cl];exact Nat.le_refl _)]at hr
 rw[List.take_of_length_le (by rw[cm];exact Nat.le_refl _)]at hs
 unfold GJ.ok
 exact⟨⟨rfl,hc,hr⟩,⟨rfl,he,hs⟩,h1⟩
def z34{s:ByteArray} {i e d:Int} {g:GJ} {e' j:Int} (h:tqP s i e d (g,e',j)):rdK s j/\((e≠0/\e'=e)\/(e=0/\rsP (jT s (lv d) i.toNat) s i (g,e',j))):=by
 have h:if e=0 then rsP (jT s (lv d) i.toNat) s i (g,e',j)else e'=e/\rdK s j:=h
 by_cases he:e=0
 ·rw[if_pos he]at h
  exact⟨h.1, .inr ⟨he,h⟩⟩
 ·rw[if_neg he]at h
  exact⟨h.2, .inl ⟨he,h.1⟩⟩
def z6j (c:Nat) (ht:q2d P 15 (z15.below z7p c)):q2d P 32 (z2l.below z0r (c+1)):=by
  refine qk9 mixed (qdv (qhn z4s (qhn z4o (qhn z4y (qhn z0x (qhn zbf qkn)))))) (qel (qhm ht qkm)) (W:=z6y) Go.Proofs.Tryd.func32 (by kernel_rfl) (show 1<=2 by decide) (show 2<=2 by decide) (λs=>by kernel_rfl) λ⟨⟨s,(i:Int)⟩,(d:Int)⟩=>(zfe c s i d).mpr ?_
  rintro⟨hmu,⟨h1,h2,h3⟩,⟨d1,d2⟩,hb⟩
  have hmu:lv d<c+1:=hmu
  obtain⟨i,rfl⟩:=Int.eq_ofNat_of_zero_le h1
  have hb:bat s i=123:=hb
  obtain⟨hs,hp⟩:=zei hb rfl
  have hi:i<s.size:=Nat.lt_of_not_le λh=>by rw[z01 h]at hb;cases hb
  have P1:isP s (i:Int) 0 (mkS [123])=i+1:=by rw[z65 (by decide) (by decide),Int.toNat_natCast,z05 hp,hs]
  have N1:neE s (i:Int) 0 (mkS [123])=0:=by rw[zf2 (by decide) (by decide),Int.toNat_natCast,if_pos hp]
  obtain⟨n,hn⟩:∃n,lv d=n+1:=⟨lv d- 1,by unfold lv;omega⟩
  have rk:∀{q:Nat},q<=s.size->rdK s (q:Int):=λh=>⟨by omega,by omega,h3⟩
  have z1:∀c:Nat,(mkS [c]).size<=10:=λc=>by show 1<=10;decide
  rw[P1,N1,zae (c:=125) (by decide) (by decide),z65 (c:=125) (by decide) (by decide),Int.toNat_natCast]
  simp only[sbS,Int.toNat_natCast,exists_const]
  have hq:=z0o s (i+1)
  have hl:=z0u (s:=s) (i:=i+1) (by omega)
  refine⟨⟨rk (by omega),z1 123⟩,⟨rk (by omega),z1 125⟩,λhE=> ?_,λhE=>⟨?_,?_⟩⟩
  · have hp1:=z0n (s:=s) (i:=i+1) (by omega)
    refine⟨(z08 6 0 (mkS []),0,(tkP s (i+1) 125:Nat)),rfl,rfl,rfl,rfl,rfl,rfl,rfl,rfl,rfl,rfl,rfl,?_,λp _=>z0b 6 0 _ p⟩
    refine z21 ?_
    rw[hn,z05 hE,z0g,Int.toNat_natCast,z18,if_pos hE]
    exact⟨rk hp1,⟨rfl,by omega⟩,rfl,z11 6 0 _⟩
  · refine⟨([],[],(tkP s (i+1) 125:Nat),0),rfl,rfl,rfl,rfl,λp _=>z1y p,?_⟩
    rw[z0h hE]
    refine⟨rk hl,rfl, .inl ⟨rfl,rk hl,⟨show(i:Int)<(sk s (i+1):Nat)by omega,Nat.zero_le _⟩,rfl,n,s.size+1,hn,Nat.le_add_right _ _,?_⟩⟩
    show jO s (jT s n) (s.size+1) (sk s (i+1)) [] []=jTb s (jTo s (lv d)) i
    rw[hn,zer,z0g,z18,if_neg hE]
  · rintro ⟨gs, nm,j,e⟩ ⟨hj,hgn,hI⟩ hmem
    have hj:rdK s j:=hj
    have hgn:gs.length=nm.length:=hgn
    refine⟨λhe=> ?_,λhe=> ?_⟩
    · have he : e=0:=he
      subst he
      rcases hI with⟨_,_,⟨hij,hgl⟩,_,n',f,hn',hf,hR⟩|⟨k,hk,he,_⟩
      case inr=>exact absurd he (by show¬(0:Int)=(k:Int);omega)
      have en:n'=n:=by omega
      rw[en]at hR
      obtain⟨j,rfl⟩:=Int.eq_ofNat_of_zero_le hj.1
      have hj2:(j:Int)<=s.size:=hj.2.1
      have hij:(i:Int)<j:=hij
      simp only[Int.toNat_natCast]at hf hR hgl⊢
      simp only[eq_self,if_true,true_and,and_true]
      obtain⟨f,rfl⟩:∃f',f=f'+1:=⟨f- 1,by omega⟩
      have lv1:lv (d+1)=n:=by unfold lv at hn⊢;omega
      rw[z3q]at hR
      have cl:(z00 GJ.cells gs).length=gs.length*5:=z04 z0j gs
      have cm:(z00 txV nm).length=nm.length*1:=z04 z24 nm
      have muj:muE s (j:Int) 0=s.size+1- j:=rfl
      have hp1:=z2r (s:=s) (i:=j) (by omega)
      have hu2:=z2s (s:=s) (i:=j)
      have hje:j<=sk s j+(uqS s j).2.2:=by have:=z0o s j;omega
      generalize (uqS s j).2.1=t at hR⊢
      generalize (uqS s j).1=ue at hR hu2⊢
      generalize sk s j+(uqS s j).2.2=p1 at hR hp1 hje⊢
      have cutL:∀{X Y:Int} {Q R:Pub->Prop},X=Y->(∀p,Q p->R p)->∃s_3:Int×Int,s_3.1=(p1:Int)/\s_3.2=X/\(∀p,Q p->R p)/\s_3.1=(p1:Int)/\s_3.2=Y:=λ{X Y Q R} h hm=>⟨((p1:Int),X),rfl,rfl,hm,rfl,h⟩
      refine⟨hj,(gs,nm,t),rfl,rfl,rfl,rfl,rfl,⟨hgn,by show gs.length<=20000;omega⟩,⟨λhB=>⟨λhu=> ?_,λhu=> ?_⟩,λhB=> ?_⟩,?_⟩
      · have hB:inB t nm=true:=hB
        have hu:(ue:Int)=0:=hu
        refine⟨((p1:Int),5),rfl,?_,rfl,?_⟩
        · rw[if_pos hu]
        · show(5:Int)=z5s (inB t nm) ue
          unfold z5s;rw[if_pos hu,if_pos hB]
      · have hB:inB t nm=true:=hB
        have hu:¬(ue:Int)=0:=hu
        refine⟨((p1:Int),(ue:Int)),rfl,rfl,rfl,?_⟩
        show(ue:Int)=z5s (inB t nm) ue
        unfold z5s;rw[if_neg hu]
      · have hB:inB t nm=false:=hB
        refine⟨((p1:Int),(ue:Int)),rfl,rfl,rfl,?_⟩
        show(ue:Int)=z5s (inB t nm) ue
        unfold z5s;rw[hB]
        split
        · rename_i h;rw[h];rfl
        · rfl
      rintro⟨pp,e1⟩ ⟨hpp,he1⟩
      have hpp:pp=p1:=hpp
      have he1:e1=z5s (inB t nm) ue:=he1
      subst hpp
      have st:isP s (p1:Int) e1 (mkS [58])<=s.size/\p1<=isP s (p1:Int) e1 (mkS [58])/\((neE s (p1:Int) e1 (mkS [58])=0/\p1<isP s (p1:Int) e1 (mkS [58])/\(match jT s n (isP s (p1:Int) e1 (mkS [58]))with
          | .err k=> .err k
          | .ok x j=>if pk s j=125 then .ok (.mk 6 0 (mkS []) (gs.map GJ.pj++[x]) (nm++[t])) (sk s j+1)else if pk s j=44 then jO s (jT s n) f (sk s j+1) (gs.map GJ.pj++[x]) (nm++[t])else .err 2)=jTb s (jTo s (lv d)) i)\/∃k:Nat,k≠0/\neE s (p1:Int) e1 (mkS [58])=k/\jTb s (jTo s (lv d)) i= .err k):=by
        have g1:=z0o s p1
        have g2:=z0u hp1
        by_cases hu:ue≠0
        · rw[if_pos hu]at hR
          have e2:e1=2:=he1.trans (by rw[hu2 hu];rfl)
          have e0:e1≠0:=by omega
          rw[ze5 e0,zij e0,Int.toNat_natCast]
          exact⟨g2,g1, .inr ⟨2,by decide,e2,hR.symm⟩⟩
        rw[if_neg hu]at hR
        have hu0:ue=0:=by omega
        cases hB:inB t nm with
        | true=>
          rw[if_pos hB]at hR
          have e2:e1=5:=he1.trans (by rw[hu0];simp[z5s,hB])
          have e0:e1≠0:=by omega
          rw[ze5 e0,zij e0,Int.toNat_natCast]
          exact⟨g2,g1, .inr ⟨5,by decide,e2,hR.symm⟩⟩
        | false=>
          rw[if_neg (by rw[hB];decide)]at hR
          have e2:e1=0:=he1.trans (by rw[hu0];simp[z5s,hB])
          subst e2
          rw[z65 (by decide) (by decide),zf2 (by decide) (by decide),Int.toNat_natCast]
          by_cases h58:pk s p1=58
          · rw[if_neg (λh=>h h58)]at hR
            have h3:=z0n (s:=s) (i:=p1) (by omega)
            rw[z05 h58,if_pos h58]
            exact⟨by omega,by omega, .inl ⟨rfl,by omega,hR⟩⟩
          · rw[if_pos h58]at hR
            rw[z0h h58,if_neg h58]
            exact⟨g2,g1, .inr ⟨2,by decide,rfl,hR.symm⟩⟩
      clear hR he1
      generalize isP s (p1:Int) e1 (mkS [58])=q at st⊢
      generalize neE s (p1:Int) e1 (mkS [58])=e2 at st⊢
      obtain⟨hq1,hq2,st⟩:=st
      refine⟨⟨rk hp1,z1 58⟩,cm,by omega,?_,?_,?_⟩
      all_goals
        refine⟨⟨by omega,by omega⟩,⟨show lv (d+1)<c by omega,rk hq1,by omega,by omega⟩,?_⟩
        rintro⟨g,e,jt⟩ hb hp0
        obtain⟨hjt,hb⟩:=z34 hb
        rw[lv1,Int.toNat_natCast]at hb
        have hcs:(∃k:Nat,k≠0/\e=k/\jTb s (jTo s (lv d)) i= .err k)\/(e=0/\(q:Int)<=jt/\p1<q/\(if pk s jt.toNat=125 then JR.ok (.mk 6 0 (mkS []) (gs.map GJ.pj++[g.pj]) (nm++[t])) (sk s jt.toNat+1)else if pk s jt.toNat=44 then jO s (jT s n) f (sk s jt.toNat+1) (gs.map GJ.pj++[g.pj]) (nm++[t])else .err 2)=jTb s (jTo s (lv d)) i):=by
          rcases st with⟨s1,s2,s3⟩|⟨k,s1,s2,s3⟩
          · rcases hb with⟨b1,_⟩|⟨_,hb⟩
            · exact absurd s1 b1
            · obtain⟨_,hcs⟩:=z1z hb
              rcases hcs with⟨k,a1,a2,a3⟩|⟨a1,a2,a3⟩
              · rw[a1]at s3
                exact .inl ⟨k,a3,a2,s3.symm⟩
              · rw[a1]at s3
                exact .inr ⟨a2,a3,s2,s3⟩
          · rcases hb with⟨b1,b2⟩|⟨b1,_⟩
            · exact .inl ⟨k,s1,by rw[b2,s2],s3⟩
            · omega
        clear st hb
        obtain⟨jt,rfl⟩:=Int.eq_ofNat_of_zero_le hjt.1
        rw[Int.toNat_natCast]at hcs
        have hjt2:(jt:Int)<=s.size:=hjt.2.1
        have hjl:=z0u (s:=s) (i:=jt) (by omega)
        have hjg:=z0o s jt
        refine⟨cl,by omega,⟨hjt,z1 125⟩,?_,?_⟩
        all_goals rcases hcs with⟨k,a3,a2,a1⟩|⟨a2,a3,a4,hR⟩
        · have e0:e≠0:=by omega
          intro hF
          rw[zii e0]at hF;cases hF
        · subst a2
          rw[zae (by decide) (by decide),Int.toNat_natCast]
          intro hF
          have hF:pk s jt=125:=of_decide_eq_true hF
          intro _ _ _ a n2 c2 hp2 _ _ _ a5 n5 c5 hp5
          rw[if_pos hF]at hR
          have hq3:=z0n (s:=s) (i:=jt) (by omega)
          refine⟨(.mk 6 0 (mkS []) (a,gs.length+1,c2) (gs++[g]) (a5,nm.length+1,c5) (nm++[t]),0,(isP s (jt:Int) 0 (mkS [125]):Nat)),rfl,rfl,rfl,rfl,rfl,rfl,rfl,rfl,rfl,rfl,rfl,?_,λp hp=>z2y hp.1.1.1 hp.1.1.2 hp.1.2.1 hp.1.2.2 hp.2.1 hp.2.2⟩
          refine z21 ?_
          rw[Int.toNat_natCast,←hR,z65 (by decide) (by decide),Int.toNat_natCast,z05 hF]
          exact⟨rk hq3,⟨rfl,by omega⟩,rfl,by rw[GJ.pj,GJ.pjs_map,List.map_append];rfl⟩
        · have e0:e≠0:=by omega
          intro _
          rw[ze5 e0,Int.toNat_natCast,ze5 e0,zij e0,Int.toNat_natCast,z03]
          refine⟨⟨rk hjl,z1 44⟩,(gs++[g],nm++[t],(sk s jt:Nat),e),rfl,rfl,by simp,by simp,by rw[z02];rfl,by rw[z02];rfl,λp hp=>z0e hp.1 hp.2,⟨rk hjl,by simp[hgn], .inr ⟨k,a3,a2,a1⟩⟩,?_⟩
          show muE s (sk s jt:Nat) e<_
          rw[muj]
          unfold muE
          rw[if_neg e0];omega
        · subst a2
          rw[zae (by decide) (by decide),Int.toNat_natCast]
          intro hF
          have hF:¬pk s jt=125:=of_decide_eq_false hF
          rw[z65 (by decide) (by decide),Int.toNat_natCast,z0h hF,z65 (by decide) (by decide),zf2 (by decide) (by decide),Int.toNat_natCast,z13]
          rw[if_neg hF]at hR
          refine⟨⟨rk hjl,z1 44⟩,?_⟩
          by_cases a6:pk s jt=44
          · rw[if_pos a6]at hR⊢
            rw[z05 (by rw[z13];exact a6),z03]
            have hq3:=z0n (s:=s) (i:=jt) (by omega)
            refine⟨(gs++[g],nm++[t],((sk s jt+1:Nat):Int),0),rfl,rfl,by simp,by simp,by rw[z02];rfl,by rw[z02];rfl,λp hp=>z0e hp.1 hp.2,⟨rk hq3,by simp[hgn], .inl ⟨rfl,rk hq3,⟨show(i:Int)<((sk s jt+1:Nat):Int)by omega,?_⟩,by simp[hgn],n,f,hn,?_,?_⟩⟩,?_⟩
            · show(gs++[g]).length<=sk s jt+1
              simp;omega
            · show s.size+1<=f+(sk s jt+1)
              omega
            · show jO s (jT s n) f (sk s jt+1) ((gs++[g]).map GJ.pj) (nm++[t])=jTb s (jTo s (lv d)) i
              rw[←hR,List.map_append];rfl
            · show s.size+1- (sk s jt+1)<s.size+1- j
              omega
          · rw[if_neg a6]at hR⊢
            rw[z0h (by rw[z13];exact a6),z03]
            refine⟨(gs++[g],nm++[t],(sk s jt:Nat),2),rfl,rfl,by simp,by simp,by rw[z02];rfl,by rw[z02];rfl,λp hp=>z0e hp.1 hp.2,⟨rk hjl,by simp[hgn], .inr ⟨2,by decide,rfl,hR.symm⟩⟩,?_⟩
            show 0<s.size+1- j
            omega
    · have he:e≠0:=he
      rcases hI with⟨e0,_⟩|⟨k,hk,hek,hR⟩
      · exact absurd e0 he
      intro _ _ _ a n2 c2 hp2 _ _ _ a3 n3 c3 hp3
      refine⟨(.mk 6 0 (mkS []) (a,gs.length,c2) gs (a3,nm.length,c3) nm,e,j),rfl,rfl,rfl,rfl,rfl,rfl,rfl,rfl,rfl,rfl,rfl,?_,λp hp=>z85 hp.1.1 hp.1.2.1 hp.1.2.2 hp.2.1 hp.2.2⟩
      exact z21 (by rw[hR];exact z0t hj hk hek)
section
def z1c:∀c:Nat,q2d P 15 (z15.below z7p c)
 |0=>CtR.below_zero (by decide) (by decide) (Sen.enters_of Go.Proofs.Tryd.func15 (by kernel_rfl)) λs=>rfl
 |c+1=>z8u c (z8a c (z1c c)) (z6j c (z1c c))
def z6n:q2d P 15 z15:=CtR.of_below z1c
def zc3:q2d P 7 z2g:=by
 refine qk9 mixed (qdv (qhn z1a (qhn z0x qkn))) (qel (qhm z6n qkm)) (W:=λ_=>{}) Go.Proofs.Tryd.func7 (by kernel_rfl) (show 1<=1 by decide) (show 1<=1 by decide) (λs=>by kernel_rfl) λ(s:ByteArray)=>(zc2 s).mpr ?_
 intro hz _
 simp only[sbS,Int.toNat_natCast,exists_const]
 refine⟨λh=>absurd h (by omega),λ_=>⟨⟨⟨by decide,by omega,hz⟩,by decide,by decide⟩,?_⟩⟩
 rintro⟨g,e,j⟩ hb ⟨p0,hp0⟩
 obtain⟨hj,hb⟩:=z34 hb
 rcases hb with⟨h0,_⟩|⟨_,hb⟩
 ·exact absurd rfl h0
 have hb:rsP (jT s 20 0) s 0 (g,e,j):=hb
 obtain⟨_,hcs⟩:=z1z hb
 have hj1:=hj.1
 have hj2:=hj.2.1
 clear hb
 refine⟨hj,λh1=>⟨λhe=> ?_,λhe=> ?_⟩,λh1=>⟨λhe=> ?_,λhe=> ?_⟩⟩
 ·have h1:((sk s j.toNat:Nat):Int)<s.size:=h1
  rcases hcs with⟨k,a1,a2,a3⟩|⟨a1,a2,a3⟩
  ·exact z0s (z4p a1) a3 (show(if e=0 then 2 else e)=(k:Int)by rw[if_neg (by omega)];exact a2)
  ·exact z0s (k:=2) (by rw[z86 a1,if_pos (by omega)]) (by decide) (show(if e=0 then 2 else e)=((2:Nat):Int)by rw[if_pos a2];rfl)
 ·exfalso
  have he:(if e=0 then 2 else e)=0:=he
  by_cases e0:e=0
  ·rw[if_pos e0]at he;omega
  ·rw[if_neg e0]at he;exact e0 he
 ·have he:¬e=0:=he
  rcases hcs with⟨k,a1,a2,a3⟩|⟨a1,a2,a3⟩
  ·exact z0s (z4p a1) a3 a2
  ·exact absurd a2 he
 ·have he:e=0:=he
  have h1:¬((sk s j.toNat:Nat):Int)<s.size:=h1
  rcases hcs with⟨k,a1,a2,a3⟩|⟨a1,a2,a3⟩
  ·omega
  ·exact z4t (g:=g) (j:=sk s j.toNat) (by rw[z86 a1,if_neg (by omega)]) λp hp=>hp.2
def z20:∀{l:List PJ} {x:PJ},PJ.sms l->x.sm->PJ.sms (l++[x])
  | [],x,_,hx=>by
    show PJ.sms [x]
    unfold PJ.sms
    exact⟨hx,by unfold PJ.sms;trivial⟩
  | y::l,x,h,hx=>by
    unfold PJ.sms at h
    show PJ.sms (y::(l++[x]))
    unfold PJ.sms
    exact⟨h.1,z20 h.2 hx⟩
def z3s:PJ.sms []:=by unfold PJ.sms;trivial
def zal:∀{l:List PJ},PJ.sms l->∀{i:Nat} (h:i<l.length),l[i].sm
 |x::l,e,0,h=>by unfold PJ.sms at e;exact e.1
 |x::l,e,i+1,h=>by unfold PJ.sms at e;exact zal e.2 (by simpa using h)
variable {s:ByteArray}
def zc9{k n:Int} {l:List PJ} {nm:List ByteArray} (h1:l.length<1000000) (h2:nm.length<1000000) (h3:PJ.sms l):(PJ.mk k n s l nm).sm:=by unfold PJ.sm;exact⟨h1,h2,h3⟩
def z0v(k n:Int) (s:ByteArray):(PJ.mk k n s [] []).sm:=zc9 (by decide) (by decide) z3s
def zep{s:ByteArray} {T:Nat->JR} (hT:∀i x j,T i= .ok x j->x.sm):∀(f i:Nat) (acc:List PJ) (x:PJ) (j:Nat),acc.length+f<=20000->PJ.sms acc->jL s T f i acc= .ok x j->x.sm
  |0,i,acc,x,j,_,_,h=>by cases h
  | f + 1,i,acc,x,j,hl,ha,h=>by
    rw[z3p]at h
    cases ht:T i with
    |err k=>rw[ht]at h;cases h
    | ok y q=>
      rw[ht]at h
      simp only at h
      have hy:=hT _ _ _ ht
      split at h
      · cases h
        exact zc9 (by simp;omega) (by decide) (z20 ha hy)
      split at h
      · exact zep hT f _ _ x j (by simp;omega) (z20 ha hy) h
      · cases h
def zes{s:ByteArray} {T:Nat->JR} (hT:∀i x j,T i= .ok x j->x.sm):∀(f i:Nat) (acc:List PJ) (nm:List ByteArray) (x:PJ) (j:Nat),acc.length+f<=20000->nm.length+f<=20000->PJ.sms acc->jO s T f i acc nm= .ok x j->x.sm
  |0,i,acc,nm,x,j,_,_,_,h=>by cases h
  | f + 1,i,acc,nm,x,j,hl,hm,ha,h=>by
    rw[z3q]at h
    split at h
    · cases h
    split at h
    · cases h
    split at h
    · cases h
    cases ht:T (sk s (sk s i+(uqS s i).2.2)+1)with
    |err k=>rw[ht]at h;cases h
    | ok y q=>
      rw[ht]at h
      simp only at h
      have hy:=hT _ _ _ ht
      split at h
      · cases h
        exact zc9 (by simp;omega) (by simp;omega) (z20 ha hy)
      split at h
      · exact zes hT f _ _ _ x j (by simp;omega) (by simp;omega) (z20 ha hy) h
      · cases h
def zeq(hs:s.size<=10000) {T:Option (Nat->JR)} (hT:∀T',T=some T'->∀i x j,T' i= .ok x j->x.sm) {i:Nat} {x:PJ} {j:Nat} (h:jN s T i= .ok x j):x.sm:=by
  unfold jN at h
  split at h
  · cases T with
    |none=>cases h
    | some T'=>
      rw[z1r]at h
      split at h
      · cases h;exact z0v _ _ _
      · exact zep (hT T' rfl) _ _ _ _ _ (by simp;omega) z3s h
  split at h
  · cases T with
    |none=>cases h
    | some T'=>
      rw[z18]at h
      split at h
      · cases h;exact z0v _ _ _
      · exact zes (hT T' rfl) _ _ _ _ _ _ (by simp;omega) (by simp;omega) z3s h
  split at h
  · split at h
    · cases h;exact z0v _ _ _
    · cases h
  split at h
  · split at h
    · cases h;exact z0v _ _ _
    · cases h
  split at h
  · cases h;exact z0v _ _ _
  split at h
  · cases h;exact z0v _ _ _
  split at h
  · cases h;exact z0v _ _ _
  · cases h
def zet{s:ByteArray} (hs:s.size<=10000):∀(n i:Nat) (x:PJ) (j:Nat),jT s n i= .ok x j->x.sm
 |0,i,x,j,h=>zeq hs (λT' e=>by cases e) (show jN s none i=_ from h)
 |n+1,i,x,j,h=>zeq hs (λT' e=>by cases e;exact zet hs n) (show jN s (some (jT s n)) i=_ from h)
def z6b(hs:s.size<=10000) {a b:GJ×Int} (ha:paP s a) (hb:paP s b):a.2=b.2/\a.1.pj=b.1.pj/\a.1.pj.sm:=by
  obtain⟨g,e⟩:=a
  obtain⟨h,e'⟩:=b
  unfold paP at ha hb
  cases hj:jP s with
  | err k=>
    rw[hj]at ha hb
    exact⟨ha.1.trans hb.1.symm,ha.2.2.trans hb.2.2.symm,by show g.pj.sm;rw[ha.2.2];exact z0v _ _ _⟩
  | ok x j=>
    rw[hj]at ha hb
    refine⟨ha.1.trans hb.1.symm,ha.2.trans hb.2.symm,?_⟩
    show g.pj.sm
    rw[ha.2]
    unfold jP at hj
    cases ht:jT s 20 0 with
    |err k=>rw[ht]at hj;cases hj
    | ok y q=>
      rw[ht]at hj
      simp only at hj
      split at hj
      · cases hj
      · cases hj;exact zet hs _ _ _ _ ht
end
def GJ.ok_eq(g:GJ) (p:Pub):g.ok p=(slP GJ.cells g.y g.l p/\slP txV g.x g.nm p/\GJ.oks g.l p):=by cases g;unfold GJ.ok;rfl
def z3o:∀{l:List GJ} {p:Pub},GJ.oks l p->∀{i:Nat} (h:i<l.length),l[i].ok p
 |v::l,p,e,0,h=>by unfold GJ.oks at e;exact e.1
 |v::l,p,e,i+1,h=>by unfold GJ.oks at e;exact z3o e.2 (by simpa using h)
def zj3{g:GJ} {i:Nat} (h:i<g.l.length):SizeOf.sizeOf g.l[i]<SizeOf.sizeOf g:=by
 obtain⟨k,n,s,y,l,x,nm⟩:=g
 have h:i<l.length:=h
 have:=List.sizeOf_lt_of_mem (List.getElem_mem h)
 show SizeOf.sizeOf l[i]<_
 simp
 omega
def z5b(c:Nat) (h0:q5b P 8 (z1h.below zbt c)):q5b P 8 (z1h.below zbt (c+1)):=by
 refine ql1 mixed (qdv (qhn h0 qkn)) (W:=zat) Go.Proofs.Tryd.func8 (by kernel_rfl) (show 1<=1 by decide) (show 1<=1 by decide) (λs=>by kernel_rfl) λ(⟨g,h⟩:GJ×GJ)=>(z8o c g h).mpr ?_
 rintro⟨hmu,hpj,hsm⟩ ⟨p,_,hg,hh⟩
 have hmu:SizeOf.sizeOf g<c+1:=hmu
 rw[GJ.pj_eq g,GJ.pj_eq h]at hpj
 rw[GJ.pj_eq g]at hsm
 injection hpj with hk hn hs hl hm
 unfold PJ.sm at hsm
 rw[List.length_map]at hsm
 have hll:g.l.length=h.l.length:=by have:=congrArg List.length hl;simpa using this
 have hG:∀q:Pub,g.ok q/\h.ok q->(slP GJ.cells g.y g.l q/\slP txV g.x g.nm q/\GJ.oks g.l q)/\(slP GJ.cells h.y h.l q/\slP txV h.x h.nm q/\GJ.oks h.l q):=λq e=>⟨by rw[←GJ.ok_eq];exact e.1,by rw[←GJ.ok_eq];exact e.2⟩
 obtain⟨⟨⟨y1,_⟩,⟨x1,_⟩,_⟩,⟨y2,_⟩,⟨x2,_⟩,_⟩:=hG p ⟨hg,hh⟩
 have hml:g.nm.length=h.nm.length:=by rw[hm]
 simp only[sbS,Int.toNat_natCast,exists_const]
 refine⟨λh=>absurd hk h,λ_=>⟨λ_=>⟨λ_=>(decide_eq_true hn).symm,λ_=>⟨λ_=>(decide_eq_true hs).symm,λ_=>⟨λ_ _=>⟨⟨λh=>absurd (by omega) h,λ_ _ h=>absurd (by omega) h⟩,λ_ _=>⟨⟨0,rfl,Nat.zero_le _⟩,λi hi=>⟨λhlt=> ?_,λ_=>⟨⟨0,rfl,Nat.zero_le _⟩,λi hi k6 hlt=> ?_⟩⟩⟩⟩,λ_ _=>⟨⟨λh=>absurd (by omega) h,λ_ _ h=>absurd (by omega) h⟩,λ_ _=>⟨⟨0,rfl,Nat.zero_le _⟩,λi hi=>⟨λhlt=> ?_,λ_=>⟨⟨0,rfl,Nat.zero_le _⟩,λi hi k6 hlt=> ?_⟩⟩⟩⟩⟩⟩⟩,λ_=>⟨λ_=>(decide_eq_true hn).symm,λ_=>⟨λ_=>(decide_eq_true hs).symm,λ_=>⟨λ_ _=>⟨⟨λh=>absurd (by omega) h,λ_ _ h=>absurd (by omega) h⟩,λ_ _=>⟨⟨0,rfl,Nat.zero_le _⟩,λi hi=>⟨λhlt=> ?_,λ_=>⟨⟨0,rfl,Nat.zero_le _⟩,λi hi k6 hlt=> ?_⟩⟩⟩⟩,λ_ _=>⟨⟨λh=>absurd (by omega) h,λ_ _ h=>absurd (by omega) h⟩,λ_ _=>⟨⟨0,rfl,Nat.zero_le _⟩,λi hi=>⟨λhlt=> ?_,λ_=>⟨⟨0,rfl,Nat.zero_le _⟩,λi hi k6 hlt=> ?_⟩⟩⟩⟩⟩⟩⟩⟩⟩
 all_goals simp only[y1,y2,x1,x2]at hlt⊢
 case refine_1|refine_3|refine_5|refine_7=>
  have hi1:i<g.l.length:=by omega
  have hi2:i<h.l.length:=by omega
  have A:=λq hq=>z4w z0j (by decide) (hG q hq).1.1 hi1
  have B:=λq hq=>z4w z0j (by decide) (hG q hq).2.1 hi2
  have ep:g.l[i].pj=h.l[i].pj:=by
   have:=congrArg (λl:List PJ=>l[i]?) hl
   simpa[hi1,hi2]using this
  have es:g.l[i].pj.sm:=by
   have:=zal hsm.2.2 (i:=i) (by rw[List.length_map];exact hi1)
   simpa using this
  refine⟨⟨by omega,by omega⟩,(A p ⟨hg,hh⟩).1,g.l[i].k,g.l[i].n,g.l[i].s,g.l[i].y.1,g.l[i].y.2.1,g.l[i].y.2.2,g.l[i].x.1,g.l[i].x.2.1,g.l[i].x.2.2,λq hq=>(A q hq).2,⟨by omega,by omega⟩,(B p ⟨hg,hh⟩).1,h.l[i].k,h.l[i].n,h.l[i].s,h.l[i].y.1,h.l[i].y.2.1,h.l[i].y.2.2,h.l[i].x.1,h.l[i].x.2.1,h.l[i].x.2.2,λq hq=>(B q hq).2,(g.l[i],h.l[i]),rfl,rfl,rfl,rfl,rfl,rfl,rfl,rfl,rfl,rfl,rfl,rfl,rfl,rfl,rfl,rfl,rfl,rfl,⟨show SizeOf.sizeOf g.l[i]<c by have:=zj3 hi1;omega,ep,es⟩,λq hq=>⟨z3o (hG q hq).1.2.2 hi1,z3o (hG q hq).2.2.2 hi2⟩,?_⟩
  exactλ_=>⟨⟨by omega,by omega⟩,i+1,by omega,by omega,by omega⟩
 case refine_2|refine_4|refine_6|refine_8=>
  have hi1:i<g.nm.length:=by omega
  have hi2:i<h.nm.length:=by omega
  have A:=λq hq=>z4w z24 (by decide) (hG q hq).1.2.1 hi1
  have B:=λq hq=>z4w z24 (by decide) (hG q hq).2.2.1 hi2
  have en:g.nm[i]=h.nm[i]:=by
   have:=congrArg (λl:List ByteArray=>l[i]?) hm
   simpa[hi1,hi2]using this
  refine⟨⟨by omega,by omega⟩,(A p ⟨hg,hh⟩).1,g.nm[i],λq hq=>(A q hq).2,⟨by omega,by omega⟩,(B p ⟨hg,hh⟩).1,h.nm[i],λq hq=>(B q hq).2,λe=>absurd en e,λ_=>⟨⟨by omega,by omega⟩,i+1,by omega,by omega,by omega⟩⟩
def z32:∀c:Nat,q5b P 8 (z1h.below zbt c)
 |0=>Ct.below_zero (by decide) (by decide) (Sen.enters_of Go.Proofs.Tryd.func8 (by kernel_rfl)) λs=>⟨rfl,rfl⟩
 |c+1=>z5b c (z32 c)
def z8p:q5b P 8 z1h:=Ct.of_below z32
def zbl(hb:q5b P 5 z3k):q5b P 3 zej:=by
 refine qka mixed (qdv (qhn hb (qhn z8p qkn))) (qel (qhm zc1 (qhm zc3 qkm))) (W:=λ_=>{}) Go.Proofs.Tryd.func3 (by kernel_rfl) (by decide) (by decide) (λs=>by kernel_rfl) λ(s:ByteArray)=>(zbk s).mpr ?_
 rintro _ ⟨p0,_⟩
 simp only[sbS,Int.toNat_natCast,exists_const]
 refineλ_ h2=>⟨by omega,λa ha _=>⟨by omega,λp hp=>hp.1,λb hb _=>⟨λ_=> ?_,λh=> ?_⟩⟩⟩
 ·obtain⟨e1,e2,e3⟩:=z6b (by omega) ha hb
  exact⟨(a.1,b.1),rfl,rfl,rfl,rfl,rfl,rfl,rfl,rfl,rfl,rfl,rfl,rfl,rfl,rfl,rfl,rfl,rfl,rfl,⟨e2,e3⟩,λp hp=>⟨hp.1.2,hp.2⟩⟩
 ·exact absurd (z6b (by omega) ha hb).1 h
def zeu{f:Nat} {C:Ct} (h:q5b P f C) (s:C.σ) (vs:List Value) (ha:C.args s=vs.map .sv) (hh:C.h s=[]) (r:Value) (hr:C.r s= .sv r) (w:World) (hp:C.pre s) (hm:(C.mem s).ok (q13 (λ_ b=>b<w.heap.size) w)):
  Calls P f ⟨vs⟩ w λe w'=>e= .returned r/\Below w.heap.size w w':=by
 obtain⟨h1,h2,_,h4⟩:=h
 obtain⟨h0,h1',e1,e2,h5⟩:=h4 s
 rw[hh]at e1
 cases e1
 refine(h5 (λ_ b=>b<w.heap.size) (λi=>if i=0 then some (0,0,0)else none) w vs (by rw[ha];exact VRs.svs vs) ⟨λid o b t h=> ?_,λid id' o o' b t t' h=> ?_,λid o b t h=> ?_⟩ (λ_ h=>h) (λ_ h=>h) hp hm (λi hi=>if_neg (by omega)) (if_pos rfl)).mono λe w' he=> ?_
 ·rw[T.get_e]at h;cases h
 ·rw[T.get_e]at h;cases h
 ·rw[T.get_e]at h;cases h
 obtain⟨z,I',rfl,hz,hg,_⟩:=he
 rw[hr]at hz
 cases hz
 exact⟨rfl,⟨hg.same.1,hg.same.2,hg.same.3,hg.size,λk hk=>hg.fr k hk⟩⟩
def Two(w:World):Prop:=(∃t v e fr,w.heap[1]? =some (.cells #[.iface t v] e fr))/\∃t v e fr,w.heap[2]? =some (.cells #[.iface t v] e fr)
def zci{w:World} (h:Two w):erM.ok (q13 (λ_ b=>b<w.heap.size) w):=by
 obtain⟨⟨t,v,e,fr,h1⟩,t',v',e',fr',h2⟩:=h
 exact⟨⟨t,v,e,fr,q04.2 ⟨(Array.getElem?_eq_some_iff.1 h1).1,h1⟩⟩,t',v',e',fr',q04.2 ⟨(Array.getElem?_eq_some_iff.1 h2).1,h2⟩⟩
def z5u(h:∀w,Two w->Calls P 5 #[] w λe w'=>e= .returned (.bool true)/\Below w.heap.size w w'):q5b P 5 z3k:=
 ql3 (Sen.enters_of Go.Proofs.Tryd.func5 (by kernel_rfl)) (λ_=> .bool true) (λs I=> .sv _) λs F w _ hm=>by
  obtain⟨⟨t,v,e,fr,h1⟩,t',v',e',fr',h2⟩:=(hm:erP (q13 F w))
  exact h w ⟨⟨t,v,e,fr,(q04.1 h1).2⟩,t',v',e',fr',(q04.1 h2).2⟩
def jsonAll_wf(h:∀w,Two w->Calls P 5 #[] w λe w'=>e= .returned (.bool true)/\Below w.heap.size w w') (s:ByteArray) (w:World) (hw:Two w):Calls P 3 #[.string s] w λe w'=>e= .returned (.bool true)/\Below w.heap.size w w':=
 zeu (zbl (z5u h)) s [.string s] rfl rfl (.bool true) rfl w trivial (zci hw)
end
end Go.Proofs.YtldhaghgonkknaaDoor.Wd
