/-
  What the functions do: contracts, and their questions answered. No condition but what its theorems ask.
-/
import Derived.Test.YtpanaicglidfjaaT2
namespace Go.Proofs.Ytpanaicglidfjaa.Wd
open Go.Proofs.Ytpanaicglidfjaa.Eng Go.Proofs.Ytpanaicglidfjaa.Sen Go.RowKit
set_option linter.defProp false
set_option linter.unusedVariables false
set_option linter.unusedSimpArgs false
set_option maxRecDepth 1000000
noncomputable section
def leaf(k n:Int) (s:ByteArray):GJ:= .mk k n s (none,0,0) [] (none,0,0) []
theorem q0o{k n:Int} {s:ByteArray} {p:Pub}:(leaf k n s).ok p:=by
 unfold leaf;rw[GJ.ok];exact⟨q0c,q0c,by rw[GJ.oks];trivial⟩
theorem q0p{k n:Int} {s:ByteArray} (h:s.size<1000) (h0: -9223372036854775808<=n) (h1:n<9223372036854775808):(leaf k n s).wf:=by
 unfold leaf;rw[GJ.wf];exact⟨h,by decide,by decide,λt ht=>(by cases ht),⟨h0,h1⟩,λ_=>rfl,by rw[GJ.wfs];trivial⟩
theorem q08{g:GJ} {l:List GJ} {p:Pub} (h1:g.ok p) (h2:GJ.oks l p):GJ.oks (g::l) p:=by rw[GJ.oks];exact⟨h1,h2⟩
theorem q1h{p:Pub}:GJ.oks [] p:=by rw[GJ.oks];trivial
theorem q09{g:GJ} {l:List GJ} (h1:g.wf) (h2:GJ.wfs l):GJ.wfs (g::l):=by rw[GJ.wfs];exact⟨h1,h2⟩
theorem q1g:GJ.wfs []:=by rw[GJ.wfs];trivial
theorem q85{α:Type} {f:α->List Value} {l:List α} {p:Pub} {a:Option Addr} {n c:Nat} (hn:n=l.length) (h:sliP p a n c (q00 f l)):slP f (a,n,c) l p:=⟨hn,h⟩
theorem q1c{α:Type} {f:α->List Value} {l:List α} {p:Pub} {b s n c:Nat} (hn:n=l.length) (hc:n<=c) (h:q02 p ⟨b,s,none⟩ (q00 f l)):slP f (some ⟨b,s+0,none⟩,n,c) l p:=⟨hn,hc, .inr ⟨_,rfl,rfl,h⟩⟩
def lsJ(x:SV) (l:List GJ):GJ:= .mk 5 0 (mkS []) x l (none,0,0) []
theorem qat{x:SV} {l:List GJ} {p:Pub} (h1:slP GJ.cells x l p) (h2:GJ.oks l p):(lsJ x l).ok p:=by
 unfold lsJ;rw[GJ.ok];exact⟨h1,q0c,h2⟩
theorem q9h{x:SV} {l:List GJ} (h1:l.length<1000) (h2:GJ.wfs l):(lsJ x l).wf:=by
 unfold lsJ;rw[GJ.wf];exact⟨by decide,h1,Nat.zero_le _,λt ht=>(by cases ht),⟨by omega,by omega⟩,λh=>absurd h (by decide),h2⟩
def tbJ(x:SV) (l:List GJ) (y:SV) (nm:List ByteArray):GJ:= .mk 6 0 (mkS []) x l y nm
theorem q83{x:SV} {l:List GJ} {y:SV} {nm:List ByteArray} {p:Pub} (h1:slP GJ.cells x l p) (h3:slP txV y nm p) (h2:GJ.oks l p):(tbJ x l y nm).ok p:=by
 unfold tbJ;rw[GJ.ok];exact⟨h1,h3,h2⟩
theorem q86{x:SV} {l:List GJ} {y:SV} {nm:List ByteArray} (h1:l.length<1000) (h3:nm.length=l.length) (h4:∀t∈nm,t.size<1000) (h2:GJ.wfs l):(tbJ x l y nm).wf:=by
 unfold tbJ;rw[GJ.wf];exact⟨by decide,h1,by omega,h4,⟨by omega,by omega⟩,λ_=>h3,h2⟩
theorem numN_one{L:List Int} {n:Int} (h:n<L.length):q0f L n=n+1:=by unfold q0f;rw[if_neg (by omega)]
theorem numR_pos{L:List Int} {n m:Int} (h:q0s L n m≠0):n<L.length:=by
 unfold q0s at h
 split at h
 ·exact absurd rfl h
 ·omega
theorem bc_one(c:Nat) (h:c<256):q1f (mkS [c])=[.int .u8 (c:Nat)]:=by
 simp[q1f,mkS]
 omega
theorem qpy(n:Nat):IntKind.wrap .u8 (97+(n:Int).tmod 26)=((97+n % 26:Nat):Int):=by
 rw[qma,Int.tmod_eq_emod_of_nonneg (by omega)];omega
theorem q9k{α:Type} {f:α->List Value} {l:List α} {p:Pub} {x:Addr} (k:Nat) (h:q02 p x (q00 f l)):q02 p x (q00 f (l.take k)):=λj v hj=>by
 refine h j v ?_
 conv at hj=>lhs;rw[show q00 f (l.take k)=q00 f (l.take k)from rfl]
 have e:q00 f l=q00 f (l.take k)++q00 f (l.drop k):=by rw[←q0e,List.take_append_drop]
 rw[e,List.getElem?_append_left (List.getElem?_eq_some_iff.mp hj).1];exact hj
def slH(b s:Nat) (r:Int):SV:=(slA (some ⟨b,s+0,none⟩) 3 0 5,(@Int.rec (λ_=>Nat) (λa=>a) (λ_=>0) (1+r))- 0,3- 0)
def syL(r:Int):List GJ:=[leaf 4 0 (mkS [88]),leaf 4 0 (mkS [89]),leaf 4 0 (mkS [90])].take (1+r).toNat
theorem sy_ok{b s:Nat} {r:Int} {p:Pub} (h0:0<=r) (h1:r<3) (h:q02 p ⟨b,s,none⟩ (q00 GJ.cells [leaf 4 0 (mkS [88]),leaf 4 0 (mkS [89]),leaf 4 0 (mkS [90])])):slP GJ.cells (slH b s r) (syL r) p/\GJ.oks (syL r) p:=by
 have:r=0\/r=1\/r=2:=by omega
 rcases this with rfl|rfl|rfl
 ·exact⟨⟨rfl,show 1<=3 by decide, .inr ⟨⟨b,s,none⟩,rfl,rfl,q9k 1 h⟩⟩,q08 q0o q1h⟩
 ·exact⟨⟨rfl,show 2<=3 by decide, .inr ⟨⟨b,s,none⟩,rfl,rfl,q9k 2 h⟩⟩,q08 q0o (q08 q0o q1h)⟩
 ·exact⟨⟨rfl,show 3<=3 by decide, .inr ⟨⟨b,s,none⟩,rfl,rfl,h⟩⟩,q08 q0o (q08 q0o (q08 q0o q1h))⟩
theorem qyi{r:Int} (h0:0<=r) (h1:r<3):(syL r).length<1000/\GJ.wfs (syL r):=by
 have:r=0\/r=1\/r=2:=by omega
 rcases this with rfl|rfl|rfl
 ·exact⟨by decide,q09 (q0p (by decide) (by omega) (by omega)) q1g⟩
 ·exact⟨by decide,q09 (q0p (by decide) (by omega) (by omega)) (q09 (q0p (by decide) (by omega) (by omega)) q1g)⟩
 ·exact⟨by decide,q09 (q0p (by decide) (by omega) (by omega)) (q09 (q0p (by decide) (by omega) (by omega)) (q09 (q0p (by decide) (by omega) (by omega)) q1g))⟩
theorem union_ok(c:Nat) (ht:q0d P 79 (qbj.below qbb c)):q0d P 115 (qkl.below qbb (c+1)):=by
 refine q0v mixed (q05 (q01 qbp (q01 qd5 q06))) (q0g (q04 ht q0q)) (W:=wUnion) Try.func115 (by kernel_rfl) (show 1<=5 by decide) (show 5<=7 by decide) (λs=>by kernel_rfl) λ⟨(x:SV),(L:List Int),(n:Int),(d:Int),N⟩=>(union_eq c x L n d N).mpr ?_
 rintro⟨hmu,hn0,hn1,hL,hd0,hd1,hN,hNs⟩ ⟨p,_,hp⟩
 have hmu:(10- d).toNat<c+1:=hmu
 simp only[decide_eq_true_eq,decide_eq_false_iff_not,Bool.not_eq_true',Bool.not_eq_false',true_and,and_true,eq_self,imp_self,implies_true,Int.toNat_natCast]
 have nb:=q2k hn1
 refine⟨L,⟨hn0,hn1,by omega,by omega,hL⟩,λq hq=>hq,λh0=> ?_,λh0=> ?_⟩
 ·have nb2:=q2k nb.2.1
  have hr:=q28 (n:=q0f L n) (m:=2) hL (by omega)
  obtain⟨s,hs,hsz⟩:∃s:ByteArray,(∀(j:Nat) (v:Value),[Value.string s][j]? =some v->[Value.string (mkS [105,110,116]),Value.string (mkS [115,116,114,105,110,103])][0+(q0s L (q0f L n) 2).toNat*1+j]? =some v)/\s.size<1000:=by
   have:q0s L (q0f L n) 2=0\/q0s L (q0f L n) 2=1:=by omega
   rcases this with e|e
   ·rw[e];exact⟨mkS [105,110,116],λj v hj=>by cases j with|zero=>exact hj|succ j=>simp at hj,by decide⟩
   ·rw[e];exact⟨mkS [115,116,114,105,110,103],λj v hj=>by cases j with|zero=>exact hj|succ j=>simp at hj,by decide⟩
  refine⟨L,⟨by omega,nb.2.1,by omega,by omega,hL⟩,λq hq=>hq,hr,s,hs,by decide,by omega,⟨x,L,q0f L (q0f L n),d+1,N⟩,rfl,rfl,rfl,rfl,rfl,rfl,rfl,⟨?_,by omega,nb2.2.1,hL,by omega,by omega,by omega,hNs⟩,λq hq=>hq,?_⟩
  ·show(10- (d+1)).toNat<c;omega
  rintro⟨g,n',N'⟩ ⟨hw,p1,p2,p3,p4,p5⟩ _
  simp only at p1 p2 p3 p4
  refine⟨λhk=>⟨rfl,by decide,λ_ _ _ a m cc _=>⟨⟨lsJ (a,3,cc) [leaf 4 0 (mkS [110,117,108,108]),leaf 4 0 s,g],n',N'⟩,rfl,rfl,rfl,rfl,rfl,rfl,rfl,rfl,rfl,rfl,rfl,rfl,rfl,rfl,rfl,⟨?_,by omega,p2,p3,by omega,p5⟩,λq hq=> ?_⟩⟩,λhk _ _ _ a m cc _=>⟨⟨lsJ (a,2,cc) [leaf 4 0 (mkS [110,117,108,108]),leaf 4 0 s],n',N'⟩,rfl,rfl,rfl,rfl,rfl,rfl,rfl,rfl,rfl,rfl,rfl,rfl,rfl,rfl,rfl,⟨?_,by omega,p2,p3,by omega,p5⟩,λq hq=> ?_⟩⟩
  ·exact q9h (by simp) (q09 (q0p (by decide) (by omega) (by omega)) (q09 (q0p hsz (by omega) (by omega)) (q09 hw q1g)))
  ·exact qat (q85 rfl hq.2) (q08 q0o (q08 q0o (q08 hq.1.2 q1h)))
  ·exact q9h (by simp) (q09 (q0p (by decide) (by omega) (by omega)) (q09 (q0p hsz (by omega) (by omega)) q1g))
  ·exact qat (q85 rfl hq.2) (q08 q0o (q08 q0o q1h))
 ·refine⟨by omega,⟨x,L,q0f L n,d+1,N⟩,rfl,rfl,rfl,rfl,rfl,rfl,rfl,⟨?_,by omega,nb.2.1,hL,by omega,by omega,by omega,hNs⟩,λq hq=>hq,?_⟩
  ·show(10- (d+1)).toNat<c;omega
  rintro⟨g,n',N'⟩ ⟨hw,p1,p2,p3,p4,p5⟩ _
  simp only at p1 p2 p3 p4
  refine⟨λhk=>⟨by decide,λ_ _ _ a m cc _=>⟨⟨lsJ (a,2,cc) [leaf 4 0 (mkS [110,117,108,108]),g],n',N'⟩,rfl,rfl,rfl,rfl,rfl,rfl,rfl,rfl,rfl,rfl,rfl,rfl,rfl,rfl,rfl,⟨?_,by omega,p2,p3,by omega,p5⟩,λq hq=> ?_⟩⟩,λhk b2 s2 _ _=>⟨⟨lsJ (some ⟨b2,s2+0,none⟩,1,1) [leaf 4 0 (mkS [110,117,108,108])],n',N'⟩,rfl,rfl,rfl,rfl,rfl,rfl,rfl,rfl,rfl,rfl,rfl,rfl,rfl,rfl,rfl,⟨?_,by omega,p2,p3,by omega,p5⟩,λq hq=> ?_⟩⟩
  ·exact q9h (by simp) (q09 (q0p (by decide) (by omega) (by omega)) (q09 hw q1g))
  ·exact qat (q85 rfl hq.2) (q08 q0o (q08 hq.1.2 q1h))
  ·exact q9h (by simp) (q09 (q0p (by decide) (by omega) (by omega)) q1g)
  ·exact qat (q1c rfl (Nat.le_refl _) hq.2) (q08 q0o q1h)
theorem tree_ok(c:Nat) (ht:q0d P 79 (qbj.below qbb c)) (hu:q0d P 115 (qkl.below qbb (c+1))) (hr:q0d P 47 (q40.below muRp (c+1))):q0d P 79 (qbj.below qbb (c+1)):=by
 refine q0v mixed (q05 (q01 qbp (q01 qhv (q01 qd5 (q01 qje q06))))) (q0g (q04 ht (q04 hu (q04 hr q0q)))) (W:=wTree) Try.func79 (by kernel_rfl) (show 1<=5 by decide) (show 5<=7 by decide) (λs=>by kernel_rfl) λ⟨(x:SV),(L:List Int),(n:Int),(d:Int),N⟩=>(tree_eq c x L n d N).mpr ?_
 rintro⟨hmu,hn0,hn1,hL,hd0,hd1,hN,hNs⟩ ⟨p,_,hp⟩
 have hmu:(10- d).toNat<c+1:=hmu
 simp only[decide_eq_true_eq,decide_eq_false_iff_not,Bool.not_eq_true',Bool.not_eq_false',true_and,and_true,eq_self,imp_self,implies_true,Int.toNat_natCast,exists_const]
 have nb:=q2k hn1
 have hLl:=hL.1
 have hr0:=q28 (n:=n) (m:=20) hL (by omega)
 have small8:3<d->(8:Int)≠0/\∃s,s=(q0s L n 20).tmod 8/\q0f L n=q0f L n/\0<=s/\s<20/\(8<=s->d<=3/\n<L.length):=λh=>by
  have e:(q0s L n 20).tmod 8=q0s L n 20 % 8:=Int.tmod_eq_emod_of_nonneg hr0.1
  exact⟨by decide,_,rfl,rfl,by omega,by omega,λh=>by omega⟩
 have small9:(8:Int)≠0/\∃s,s=(q0s L n 20).tmod 8/\q0f L n=q0f L n/\0<=s/\s<20/\(8<=s->d<=3/\n<L.length):=by
  have e:(q0s L n 20).tmod 8=q0s L n 20 % 8:=Int.tmod_eq_emod_of_nonneg hr0.1
  exact⟨by decide,_,rfl,rfl,by omega,by omega,λh=>by omega⟩
 refine⟨L,⟨hn0,hn1,by omega,by omega,hL⟩,λq hq=>hq,⟨small8,λhd3=>⟨L,λq hq=>hq,λ_=>small9,λ_=>⟨_,rfl,rfl,hr0.1,hr0.2,λh=>⟨by omega,numR_pos (m:=20) (by omega)⟩⟩⟩⟩,?_⟩
 rintro k ⟨hk0,hk1,hk2⟩
 refine⟨⟨λh8=> ?_,λh8=>⟨λh10=> ?_,λh10=>⟨λh1=> ?_,λh1=>⟨λh14=> ?_,λh14=>⟨λe14=>⟨λhN0=> ?_,λ_=>by omega⟩,λ_=>by omega⟩⟩⟩⟩⟩,?_⟩
 ·obtain⟨s,hs,hsz⟩:∃s:ByteArray,(∀(j:Nat) (v:Value),[Value.string s][j]? =some v->[Value.string (mkS [105,110,116]),Value.string (mkS [108,111,110,103]),Value.string (mkS [115,116,114,105,110,103]),Value.string (mkS [98,121,116,101,115]),Value.string (mkS [98,111,111,108,101,97,110]),Value.string (mkS [110,117,108,108]),Value.string (mkS [102,108,111,97,116]),Value.string (mkS [100,111,117,98,108,101])][0+k.toNat*1+j]? =some v)/\s.size<1000:=by
   have:k=0\/k=1\/k=2\/k=3\/k=4\/k=5\/k=6\/k=7:=by omega
   rcases this with rfl|rfl|rfl|rfl|rfl|rfl|rfl|rfl
   all_goals refine⟨_,λj v hj=>by cases j with|zero=>exact hj|succ j=>simp at hj,by decide⟩
  exact⟨⟨hk0,h8⟩,s,hs,⟨leaf 4 0 s,q0f L n,N⟩,rfl,rfl,rfl,rfl,rfl,rfl,rfl,rfl,rfl,rfl,rfl,rfl,⟨q0p hsz (by omega) (by omega),nb.1,nb.2.1,Nat.le_refl _,by omega,hNs⟩,λq hq=>q0o⟩
 ·have hd:=hk2 (by omega)
  refine⟨by omega,⟨x,L,q0f L n,d+1,N⟩,rfl,rfl,rfl,rfl,rfl,rfl,rfl,⟨?_,by omega,nb.2.1,hL,by omega,by omega,by omega,hNs⟩,λq hq=>hq,?_⟩
  ·show(10- (d+1)).toNat<c;omega
  rintro⟨g,n',N'⟩ ⟨hw,p1,p2,p3,p4,p5⟩ _ b1 s1 u1 _ b2 s2 u2 _
  simp only at p1 p2 p3 p4
  exact⟨⟨tbJ (some ⟨b1,s1+0,none⟩,2,2) [leaf 4 0 (mkS [97,114,114,97,121]),g] (some ⟨b2,s2+0,none⟩,2,2) [mkS [116,121,112,101],mkS [105,116,101,109,115]],n',N'⟩,rfl,rfl,rfl,rfl,rfl,rfl,rfl,rfl,rfl,rfl,rfl,rfl,rfl,rfl,rfl,⟨q86 (by simp) rfl (by decide) (q09 (q0p (by decide) (by omega) (by omega)) (q09 hw q1g)),by omega,p2,p3,by omega,p5⟩,λq hq=>q83 (q1c rfl (Nat.le_refl _) hq.1.2) (q1c rfl (Nat.le_refl _) hq.2) (q08 q0o (q08 hq.1.1.2 q1h))⟩
 ·have hd:=hk2 (by omega)
  refine⟨by omega,⟨x,L,q0f L n,d+1,N⟩,rfl,rfl,rfl,rfl,rfl,rfl,rfl,⟨?_,by omega,nb.2.1,hL,by omega,by omega,by omega,hNs⟩,λq hq=>hq,?_⟩
  ·show(10- (d+1)).toNat<c;omega
  rintro⟨g,n',N'⟩ ⟨hw,p1,p2,p3,p4,p5⟩ _ b1 s1 u1 _ b2 s2 u2 _
  simp only at p1 p2 p3 p4
  exact⟨⟨tbJ (some ⟨b1,s1+0,none⟩,2,2) [leaf 4 0 (mkS [109,97,112]),g] (some ⟨b2,s2+0,none⟩,2,2) [mkS [116,121,112,101],mkS [118,97,108,117,101,115]],n',N'⟩,rfl,rfl,rfl,rfl,rfl,rfl,rfl,rfl,rfl,rfl,rfl,rfl,rfl,rfl,rfl,⟨q86 (by simp) rfl (by decide) (q09 (q0p (by decide) (by omega) (by omega)) (q09 hw q1g)),by omega,p2,p3,by omega,p5⟩,λq hq=>q83 (q1c rfl (Nat.le_refl _) hq.1.2) (q1c rfl (Nat.le_refl _) hq.2) (q08 q0o (q08 hq.1.1.2 q1h))⟩
 ·have hd:=hk2 (by omega)
  refine⟨⟨x,L,q0f L n,d,N⟩,rfl,rfl,rfl,rfl,rfl,rfl,rfl,⟨?_,by omega,nb.2.1,hL,by omega,by omega,by omega,hNs⟩,λq hq=>hq,?_⟩
  ·show(10- d).toNat<c+1;omega
  rintro⟨g,n',N'⟩ ⟨hw,p1,p2,p3,p4,p5⟩ _
  simp only at p1 p2 p3 p4
  exact⟨⟨g,n',N'⟩,rfl,rfl,rfl,rfl,rfl,rfl,rfl,rfl,rfl,rfl,rfl,rfl,rfl,rfl,rfl,⟨hw,by omega,p2,p3,by omega,p5⟩,λq hq=>hq.2⟩
 ·have hd:=hk2 (by omega)
  have hN0:0<N.length:=by omega
  have nb2:=q2k nb.2.1
  have hr:=q28 (n:=q0f L n) (m:=N.length) hL (by omega)
  obtain⟨i,hi⟩:=Int.eq_ofNat_of_zero_le hr.1
  have hil:i<N.length:=by omega
  refine⟨L,⟨by omega,nb.2.1,by omega,by omega,hL⟩,λq hq=>hq,hr,N[i],?_,⟨leaf 4 0 N[i],q0f L (q0f L n),N⟩,rfl,rfl,rfl,rfl,rfl,rfl,rfl,rfl,rfl,rfl,rfl,rfl,⟨q0p (by have:=hNs N[i] (List.getElem_mem _);omega) (by omega) (by omega),by omega,nb2.2.1,Nat.le_refl _,by omega,hNs⟩,λq hq=>q0o⟩
  rw[hi,Int.toNat_natCast]
  intro j v hj
  cases j with
  |zero=>rw[Nat.zero_add,q60 q13 N i hil 0 (by decide)];exact hj
  |succ j=>simp at hj
 intro _ h14
 have hd:=hk2 (by omega)
 have e26:(N.length:Int).tmod 26=(N.length:Int) % 26:=Int.tmod_eq_emod_of_nonneg (by omega)
 have hz:(mkS [97+N.length % 26]).size=1:=rfl
 have hn2:(mkS [78]++mkS [97+N.length % 26]).size=2:=by rw[ByteArray.size_append,hz];rfl
 have hnl:n<L.length:=hd.2
 have hnn:=numN_one hnl
 refine⟨by decide,by omega,mkS [97+N.length % 26],rfl,?_,by rw[hz];decide,q03 q13 N,by omega,?_⟩
 ·intro j v hj
  rw[bc_one _ (by omega)]at hj
  rw[qpy,Nat.zero_add];exact hj
 have hN':∀t∈N++[(mkS [78]++mkS [97+N.length % 26])],t.size<100:=λt ht=>by
  rcases List.mem_append.1 ht with h|h
  ·exact hNs t h
  ·simp at h;rw[h];omega
 have hNl:(N++[(mkS [78]++mkS [97+N.length % 26])]).length=N.length+1:=by simp
 have hNr:q00 txV (N++[(mkS [78]++mkS [97+N.length % 26])])=q00 txV N++[Value.string (mkS [78]++mkS [97+N.length % 26])]:=by rw[q0e];rfl
 generalize (mkS [78]++mkS [97+N.length % 26])=name at*
 generalize N++[name]=N1 at*
 have nb2:=q2k nb.2.1
 refine⟨λh15=> ?_,λh15=>⟨λh16=> ?_,λh16=> ?_⟩⟩
 ·have hr4:=q28 (n:=q0f L n) (m:=4) hL (by omega)
  refine⟨L,⟨by omega,nb.2.1,by omega,by omega,hL⟩,λq hq=>hq,λb1 s1 u1 _ b2 s2 u2 _=>⟨⟨tbJ (some ⟨b1,s1+0,none⟩,3,3) [leaf 4 0 (mkS [102,105,120,101,100]),leaf 4 0 name,leaf 3 (q0s L (q0f L n) 4) (mkS [])] (some ⟨b2,s2+0,none⟩,3,3) [mkS [116,121,112,101],mkS [110,97,109,101],mkS [115,105,122,101]],q0f L (q0f L n),N1⟩,rfl,rfl,rfl,rfl,rfl,rfl,rfl,rfl,rfl,rfl,hNr,hNl,⟨?_,by omega,nb2.2.1,by omega,by omega,hN'⟩,λq hq=> ?_⟩⟩
  ·exact q86 (by simp) rfl (by decide) (q09 (q0p (by decide) (by omega) (by omega)) (q09 (q0p (by omega) (by omega) (by omega)) (q09 (q0p (by decide) (by omega) (by omega)) q1g)))
  ·exact q83 (q1c rfl (Nat.le_refl _) hq.1.2) (q1c rfl (Nat.le_refl _) hq.2) (q08 q0o (q08 q0o (q08 q0o q1h)))
 ·have hr3:=q28 (n:=q0f L n) (m:=3) hL (by omega)
  have nb3:=q2k nb2.2.1
  generalize hrr:q0s L (q0f L n) 3=r at hr3
  refine⟨L,⟨by omega,nb.2.1,by omega,by omega,hL⟩,λq hq=>hq,?_⟩
  rw[hrr]
  refine⟨by omega,λb1 s1 u1 _=>⟨Nat.le_refl _,by omega,L,⟨by omega,nb2.2.1,by omega,by omega,hL⟩,λq hq=>hq.1,?_,?_⟩⟩
  ·refineλ_=>⟨by decide,by decide,λ_ _ _ a _ cc _ _ _ _ a2 _ cc2 _=>⟨⟨tbJ (a,4,cc) [leaf 4 0 (mkS [101,110,117,109]),leaf 4 0 name,lsJ (slH b1 s1 r) (syL r),leaf 4 0 (mkS [88])] (a2,4,cc2) [mkS [116,121,112,101],mkS [110,97,109,101],mkS [115,121,109,98,111,108,115],mkS [100,101,102,97,117,108,116]],q0f L (q0f L (q0f L n)),N1⟩,rfl,rfl,rfl,rfl,rfl,rfl,rfl,rfl,rfl,rfl,hNr,hNl,⟨?_,by omega,nb3.2.1,by omega,by omega,hN'⟩,λq hq=> ?_⟩⟩
   ·exact q86 (by simp) rfl (by decide) (q09 (q0p (by decide) (by omega) (by omega)) (q09 (q0p (by omega) (by omega) (by omega)) (q09 (q9h (qyi hr3.1 hr3.2).1 (qyi hr3.1 hr3.2).2) (q09 (q0p (by decide) (by omega) (by omega)) q1g))))
   ·have hsy:=sy_ok (b:=b1) (s:=s1) hr3.1 hr3.2 hq.1.1.2
    exact q83 (q85 rfl hq.1.2) (q85 rfl hq.2) (q08 q0o (q08 q0o (q08 (qat hsy.1 hsy.2) (q08 q0o q1h))))
  ·refineλ_ b3 s3 _ _ b4 s4 _ _=>⟨⟨tbJ (some ⟨b3,s3+0,none⟩,3,3) [leaf 4 0 (mkS [101,110,117,109]),leaf 4 0 name,lsJ (slH b1 s1 r) (syL r)] (some ⟨b4,s4+0,none⟩,3,3) [mkS [116,121,112,101],mkS [110,97,109,101],mkS [115,121,109,98,111,108,115]],q0f L (q0f L (q0f L n)),N1⟩,rfl,rfl,rfl,rfl,rfl,rfl,rfl,rfl,rfl,rfl,hNr,hNl,⟨?_,by omega,nb3.2.1,by omega,by omega,hN'⟩,λq hq=> ?_⟩
   ·exact q86 (by simp) rfl (by decide) (q09 (q0p (by decide) (by omega) (by omega)) (q09 (q0p (by omega) (by omega) (by omega)) (q09 (q9h (qyi hr3.1 hr3.2).1 (qyi hr3.1 hr3.2).2) q1g)))
   ·have hsy:=sy_ok (b:=b1) (s:=s1) hr3.1 hr3.2 hq.1.1.2
    exact q83 (q1c rfl (Nat.le_refl _) hq.1.2) (q1c rfl (Nat.le_refl _) hq.2) (q08 q0o (q08 q0o (q08 (qat hsy.1 hsy.2) q1h)))
 ·refine⟨⟨name,x,L,q0f L n,d,N1⟩,rfl,rfl,rfl,rfl,rfl,rfl,hNr,hNl,⟨?_,by show name.size<100;omega,by omega,nb.2.1,hL,hd0,hd.1,by omega,hN'⟩,λq hq=>hq,?_⟩
  ·show(10- d).toNat<c+1;omega
  rintro⟨g,n',N'⟩ ⟨hw,p1,p2,p3,p4,p5⟩ _
  simp only at p1 p2 p3 p4
  exact⟨⟨g,n',N'⟩,rfl,rfl,rfl,rfl,rfl,rfl,rfl,rfl,rfl,rfl,rfl,rfl,rfl,rfl,rfl,⟨hw,by omega,p2,by omega,by omega,p5⟩,λq hq=>hq.2⟩
theorem qhb:∀{l m:List GJ} {p:Pub},GJ.oks l p->GJ.oks m p->GJ.oks (l++m) p
  | [],m,p,h1,h2=>h2
  | g::l,m,p,h1,h2=>by
    rw[GJ.oks]at h1
    exact q08 h1.1 (qhb h1.2 h2)
theorem qha:∀{l m:List GJ},GJ.wfs l->GJ.wfs m->GJ.wfs (l++m)
  | [],m,h1,h2=>h2
  | g::l,m,h1,h2=>by
    rw[GJ.wfs]at h1
    exact q09 h1.1 (qha h1.2 h2)
theorem qux(c:Nat) (ht:q0d P 79 (qbj.below qbb c)):q0d P 47 (q40.below muRp (c+1)):=by
 refine q0v mixed (q05 (q01 qbp (q01 qd5 (q01 qje (q01 dflt_ok q06))))) (q0g (q04 ht q0q)) (W:=qkn) Try.func47 (by kernel_rfl) (show 1<=5 by decide) (show 5<=7 by decide) (λs=>by kernel_rfl) λ⟨s,(x:SV),(L:List Int),(n:Int),(d:Int),N⟩=>(recP_eq c s x L n d N).mpr ?_
 rintro⟨hmu,hss,hn0,hn1,hL,hd0,hd1,hN,hNs⟩ ⟨p,_,hp⟩
 have hmu:(10- d).toNat<c+1:=hmu
 simp only[decide_eq_true_eq,decide_eq_false_iff_not,Bool.not_eq_true',Bool.not_eq_false',true_and,and_true,eq_self,imp_self,implies_true,Int.toNat_natCast,exists_const]
 have nb:=q2k hn1
 have hLl:=hL.1
 have hr5:=q28 (n:=n) (m:=5) hL (by omega)
 refine⟨L,⟨hn0,hn1,by omega,by omega,hL⟩,λq hq=>hq,⟨⟨0,q0f L n,N,[]⟩,rfl,rfl,rfl,rfl,rfl,λq hq=>q1h,by omega,by omega,by omega,rfl,q1g,nb.1,nb.2.1,Nat.le_refl _,by omega,hNs⟩,?_⟩
 rintro⟨i,n1,N1,fs⟩ ⟨i0,i1,i2,hfl,hfw,q1,q2,q3,q4,q5⟩ _
 simp only at i0 i1 i2 hfl hfw q1 q2 q3 q4 q5⊢
 refine⟨λhlt=>⟨by omega,⟨x,L,n1,d+1,N1⟩,rfl,rfl,rfl,rfl,rfl,rfl,rfl,⟨?_,by omega,q2,hL,by omega,by omega,by omega,q5⟩,λq hq=>hq.1,?_⟩,λhge=> ?_⟩
 ·show(10- (d+1)).toNat<c;omega
 ·rintro⟨g,n2,N2⟩ ⟨hw,p1,p2,p3,p4,p5⟩ _
  simp only at p1 p2 p3 p4
  have hr3:=q28 (n:=n2) (m:=3) hL (by omega)
  have nb2:=q2k p2
  have dfb:=dfOf_bd (g:=g) (L:=L) (n:=q0f L n2) hL nb2.2.1
  obtain⟨e,rfl⟩:=Int.eq_ofNat_of_zero_le i0
  have hz:(mkS [97+e]).size=1:=rfl
  have hsz:(mkS [102]++mkS [97+e]).size=2:=by rw[ByteArray.size_append,hz];rfl
  refine⟨by omega,mkS [97+e],rfl,?_,by rw[hz];decide,L,⟨by show 0<=n2;omega,p2,by omega,by omega,hL⟩,λq hq=>hq.1.1,λh0=>⟨by decide,⟨L,g⟩,rfl,rfl,rfl,rfl,rfl,rfl,rfl,rfl,rfl,⟨by show 0<=q0f L n2;omega,nb2.2.1,hL,hw⟩,λq hq=>⟨hq.1.1,hq.2⟩,by decide,λ_ _ _ a _ cc _ _ _ _ a2 _ cc2 _=>⟨q03 q80 fs,by omega,by omega,⟨(e:Int)+1,(q61 g L (q0f L n2)).2.2.2,N2,fs++[tbJ (a,3,cc) [leaf 4 0 (mkS [102]++mkS [97+e]),g,leaf (q61 g L (q0f L n2)).1 (q61 g L (q0f L n2)).2.1 (q61 g L (q0f L n2)).2.2.1] (a2,3,cc2) [mkS [110,97,109,101],mkS [116,121,112,101],mkS [100,101,102,97,117,108,116]]]⟩,rfl,rfl,rfl,rfl,rfl,?_,rfl,rfl,by simp,λq hq=>hq.1.1.1.1,λq hq=> ?_,?_,?_⟩⟩,λh0 b3 s3 _ _ b4 s4 _ _=>⟨q03 q80 fs,by omega,by omega,⟨(e:Int)+1,q0f L n2,N2,fs++[tbJ (some ⟨b3,s3+0,none⟩,2,2) [leaf 4 0 (mkS [102]++mkS [97+e]),g] (some ⟨b4,s4+0,none⟩,2,2) [mkS [110,97,109,101],mkS [116,121,112,101]]]⟩,rfl,rfl,rfl,rfl,rfl,?_,rfl,rfl,by simp,λq hq=>hq.1.1.1.1,λq hq=> ?_,?_,?_⟩⟩
  ·intro j v hj
   rw[bc_one _ (by omega)]at hj
   rw[show IntKind.wrap .u8 (97+(e:Int))=((97+e:Nat):Int)by rw[qma];omega,Nat.zero_add];exact hj
  ·rw[q0e];rfl
  ·exact qhb hq.1.1.1.2 (q08 (q83 (q85 rfl hq.1.2) (q85 rfl hq.2) (q08 q0o (q08 hq.1.1.2 (q08 q0o q1h)))) q1h)
  ·refine⟨by omega,by omega,i2,by rw[List.length_append];show((fs.length+1:Nat):Int)=_;omega,qha hfw (q09 (q86 (by simp) rfl (by decide) (q09 (q0p (by omega) (by omega) (by omega)) (q09 hw (q09 (q0p (by omega) (by omega) (by omega)) q1g)))) q1g),by omega,dfb.1.2,by omega,by omega,p5⟩
  ·show(q0s L n 5- ((e:Int)+1)).toNat<_;omega
  ·rw[q0e];rfl
  ·exact qhb hq.1.1.1.2 (q08 (q83 (q1c rfl (Nat.le_refl _) hq.1.2) (q1c rfl (Nat.le_refl _) hq.2) (q08 q0o (q08 hq.1.1.2 q1h))) q1h)
  ·refine⟨by omega,by omega,i2,by rw[List.length_append];show((fs.length+1:Nat):Int)=_;omega,qha hfw (q09 (q86 (by simp) rfl (by decide) (q09 (q0p (by omega) (by omega) (by omega)) (q09 hw q1g))) q1g),by omega,nb2.2.1,by omega,by omega,p5⟩
  ·show(q0s L n 5- ((e:Int)+1)).toNat<_;omega
 ·intro _ _ _ a _ cc _ b3 s3 _ _ b4 s4 _ _
  refine⟨⟨tbJ (some ⟨b3,s3+0,none⟩,4,4) [leaf 4 0 (mkS [114,101,99,111,114,100]),leaf 4 0 s,leaf 4 0 (mkS [115]),lsJ (a,fs.length,cc) fs] (some ⟨b4,s4+0,none⟩,4,4) [mkS [116,121,112,101],mkS [110,97,109,101],mkS [110,97,109,101,115,112,97,99,101],mkS [102,105,101,108,100,115]],n1,N1⟩,rfl,rfl,rfl,rfl,rfl,rfl,rfl,rfl,rfl,rfl,rfl,rfl,⟨?_,q1,q2,q3,q4,q5⟩,λq hq=> ?_⟩
  ·exact q86 (by simp) rfl (by decide) (q09 (q0p (by decide) (by omega) (by omega)) (q09 (q0p (by omega) (by omega) (by omega)) (q09 (q0p (by decide) (by omega) (by omega)) (q09 (q9h (by omega) hfw) q1g))))
  ·have e1:List.take (fs.length*5) (q00 GJ.cells fs)=q00 GJ.cells fs:=List.take_of_length_le (by rw[q03 q80];exact Nat.le_refl _)
   have e2:=hq.1.1.2
   rw[e1]at e2
   exact q83 (q1c rfl (Nat.le_refl _) hq.1.2) (q1c rfl (Nat.le_refl _) hq.2) (q08 q0o (q08 q0o (q08 q0o (q08 (qat (q85 rfl e2) hq.1.1.1.2) q1h))))
theorem q6g:∀c,q0d P 79 (qbj.below qbb c)/\q0d P 47 (q40.below muRp c)
 |0=>⟨CtR.below_zero (by decide) (by decide) (Sen.enters_of Try.func79 (by kernel_rfl)) λs=>rfl,CtR.below_zero (by decide) (by decide) (Sen.enters_of Try.func47 (by kernel_rfl)) λs=>rfl⟩
 |c+1=>⟨tree_ok c (q6g c).1 (union_ok c (q6g c).1) (qux c (q6g c).1),qux c (q6g c).1⟩
theorem qx4:q0d P 47 q40:=CtR.of_below λc=>(q6g c).2
def mkO(S:List AT) (e:Int) (r k:Nat):List (Nat×AO):=[(1, .cells 98 (some 0) false [.ssl r 0 S.length 10 k, .sv (.int .i64 e)]),(r, .row 61 0 (q00 AT.cells S))]
def mkE(h:T AO) (id:Nat):Option Int:=match h.get id with
  | some (.cells _ _ _ [_,e])=>match gi e with
    |some (_,e)=>some e
    |none=>none
  |_=>none
def selFail(l:List AV) (h:T AO):Option (Sel (List AT×Int×Int)):=match l with
  | [.ptr id _,e]=>match mkE h id with
    | some e0=>match gi e with
      |some (_,e)=>some ⟨List AT,λS=>(S,e0,e)⟩
      |none=>none
    |none=>none
  |_=>none
def faE(e0 e:Int):Int:=if e0=0 then e else e0
def q4d:Ct where
 σ:=List AT×Int×Int
 args:=λ⟨S,e0,e⟩=>[.ptr 1 0, .sv (.int .i64 e)]
 h:=λ⟨S,e0,e⟩=>mkO S e0 2 3
 m:=4
 sel:=some selFail
 r:=λ⟨S,e0,e⟩=> .int .i64 0
 h':=λ⟨S,e0,e⟩=>mkO S (faE e0 e) 2 3
 m':=4
 g:=λ_=>none
def adS(S:List AT) (t:AT):List AT:=if 60<=S.length then S else S++[t]
def adE(S:List AT) (e:Int):Int:=if 60<=S.length then faE e 3 else e
def adR(S:List AT):Int:=if 60<=S.length then 0 else S.length
def cAdd:Ct where
 σ:=List AT×Int×AT
 args:=λ⟨S,e,t⟩=>[.ptr 1 0,t.av]
 h:=λ⟨S,e,t⟩=>mkO S e 2 3
 m:=4
 r:=λ⟨S,e,t⟩=> .sv (.int .i64 (adR S))
 h':=λ⟨S,e,t⟩=>mkO (adS S t) (adE S e) 4 5
 m':=6
 g:=λ_=>none
def kinds:List ByteArray:=[mkS [110,117,108,108],mkS [98,111,111,108,101,97,110],mkS [105,110,116],mkS [108,111,110,103],mkS [102,108,111,97,116],mkS [100,111,117,98,108,101],mkS [98,121,116,101,115],mkS [115,116,114,105,110,103],mkS [114,101,99,111,114,100],mkS [101,110,117,109],mkS [102,105,120,101,100],mkS [97,114,114,97,121],mkS [109,97,112],mkS [117,110,105,111,110]]
def idxF(s:ByteArray):List ByteArray->Nat->Int
 | [],_=>0
 |k::l,i=>if k=s then(i:Int)+1 else idxF s l (i+1)
def q0x(s:ByteArray):Int:=idxF s kinds 0
def qr4:Ct:={ctQ ByteArray (λs=>[.sv (.string s)]) (λ_=>True) (λ_=>{}) (λs=> .sv (.int .i64 (q0x s)))with find:=some λl _=>match l with
 | [a]=>gs a
 |_=>none}
def wKind:qr4.σ->WayF:=λs=>{
 ann:=λ_ _ _=>some {σ:=Nat,pre:=λj=>j<=14/\idxF s (kinds.drop j) j=q0x s,t:=λj=>[(4, .sv (.int .i64 (j:Int)))],h:=λ_=>[],more:=0,μ:=λj=>14- j,keep:=[0,2,3]}}
def q8d(k:Int):ByteArray:=if k<1\/14<k then mkS []else kinds.getD (k.toNat- 1) (mkS [])
def cWord:Ct:=ctQ Int (λk=>[.sv (.int .i64 k)]) (λ_=>True) (λ_=>{}) λk=> .sv (.string (q8d k))
def findF(s:ByteArray):List AT->Nat->Option Nat
 | [],_=>none
 |a::l,i=>if a.nm=s/\9<=a.k/\a.k<=11 then some i else findF s l (i+1)
def fnI(o:Option Nat):Int:=match o with
 |some i=>i
 |none=>0
def selFind(l:List AV) (h:T AO):Option (Sel (List AT×Int×ByteArray)):=match l with
  | [.ptr id _,a]=>match mkE h id with
    | some e=>match gs a with
      |some s=>some ⟨List AT,λS=>(S,e,s)⟩
      |none=>none
    |none=>none
  |_=>none
def qsm:Ct where
 σ:=List AT×Int×ByteArray
 args:=λ⟨S,e,s⟩=>[.ptr 1 0, .sv (.string s)]
 h:=λ⟨S,e,s⟩=>mkO S e 2 3
 m:=4
 pre:=λ⟨S,e,s⟩=>S.length<1000
 sel:=some selFind
 r:=λ⟨S,e,s⟩=> .tup [.sv (.int .i64 (fnI (findF s S 0))), .sv (.bool (findF s S 0).isSome)]
 h':=λ⟨S,e,s⟩=>mkO S e 2 3
 m':=4
 g:=λ_=>none
def wFind:qsm.σ->WayF:=λ⟨S,e,s⟩=>{
 ann:=λ_ _ _=>some {σ:=Nat,pre:=λj=>j<=S.length/\findF s (S.drop j) j=findF s S 0,t:=λj=>[(6, .sv (.int .i64 (j:Int)))],h:=λ_=>[],more:=0,μ:=λj=>S.length- j,keep:=[0,1,4,5]}}
def qm8(S:List AT) (t:Int):ByteArray:=if t<0\/S.length<=t then mkS []else match S[t.toNat]? with
 |some a=>if a.nm=mkS []then q8d a.k else a.nm
 |none=>mkS []
def cTag:Ct where
 σ:=List AT×Int
 args:=λ⟨S,t⟩=>[.agg [.ssl 1 0 S.length 10 2], .sv (.int .i64 t)]
 h:=λ⟨S,t⟩=>[(1, .row 61 0 (q00 AT.cells S))]
 m:=3
 pre:=λ⟨S,t⟩=>S.length<1000
 r:=λ⟨S,t⟩=> .sv (.string (qm8 S t))
 h':=λ⟨S,t⟩=>[(1, .row 61 0 (q00 AT.cells S))]
 m':=3
 g:=λ_=>none
def q5i(a b:ByteArray):ByteArray:=if a=mkS []\/b=mkS []then a++b else a++mkS [46]++b
def fsz2(l:List AV):Option (ByteArray×ByteArray):=match l with
  | [a,b]=>match gs a with
    | some a=>match gs b with
      |some b=>some (a,b)
      |none=>none
    |none=>none
  |_=>none
def cJoin:Ct:={ctQ (ByteArray×ByteArray) (λ⟨a,b⟩=>[.sv (.string a), .sv (.string b)]) (λ⟨a,b⟩=>a.size<1000000/\b.size<1000000) (λ_=>{}) (λ⟨a,b⟩=> .sv (.string (q5i a b)))with find:=some λl _=>fsz2 l}
def isLt(c:Nat):Bool:=(c==95)|| (decide (65<=c)&&decide (c<=90))|| (decide (97<=c)&&decide (c<=122))
def isDg(c:Nat):Bool:=decide (48<=c)&&decide (c<=57)
def qii:Ct:=ctS Int (λc=>[.int .u8 c]) f1i (λc=>0<=c/\c<256) (λ_=>{}) λc=> .sv (.bool (isLt c.toNat))
def qwb:Ct:=ctS Int (λc=>[.int .u8 c]) f1i (λc=>0<=c/\c<256) (λ_=>{}) λc=> .sv (.bool (isDg c.toNat))
def ptC(s:ByteArray) (i:Nat):Bool:=isLt (bat s i)|| (decide (0<i)&&isDg (bat s i))
def ptA(s:ByteArray):Nat->Nat->Bool
 |0,_=>true
 |f+1,i=>if i<s.size then ptC s i&&ptA s f (i+1)else true
def q5g(s:ByteArray):Bool:=ptA s s.size 0&&decide (0<s.size)
def qmv:Ct:={ctQ ByteArray (λs=>[.sv (.string s)]) (λs=>s.size<1000000) (λ_=>{}) (λs=> .sv (.bool (q5g s)))with find:=some λl _=>match l with
 | [a]=>gs a
 |_=>none}
def wPart:qmv.σ->WayF:=λs=>{
 ann:=λ_ _ _=>some {σ:=Nat,pre:=λj=>j<=s.size/\ptA s (s.size- j) j=ptA s s.size 0,t:=λj=>[(3, .sv (.int .i64 (j:Int)))],h:=λ_=>[],more:=0,μ:=λj=>s.size- j,keep:=[0,2]}}
def qwf(s:ByteArray):Nat->Nat->ByteArray->Bool
 |0,_,_=>true
 |f+1,i,q=>if i<s.size/\bat s i≠46 then qwf s f (i+1) (q++s.extract i (i+1))else if q5g q=true then qwf s f (i+1) (mkS [])else false
def q7y(s:ByteArray):Bool:=qwf s (s.size+1) 0 (mkS [])
def ql4:Ct:={ctQ ByteArray (λs=>[.sv (.string s)]) (λs=>s.size<100000) (λ_=>{}) (λs=> .sv (.bool (q7y s)))with find:=some λl _=>match l with
 | [a]=>gs a
 |_=>none}
def wParts:ql4.σ->WayF:=λs=>{
 ann:=λ_ _ _=>some {σ:=Nat×ByteArray,pre:=λ⟨j,q⟩=>j<=s.size+1/\q.size<=j/\qwf s (s.size+1- j) j q=q7y s,t:=λ⟨j,q⟩=>[(3, .sv (.string q)),(4, .sv (.int .i64 (j:Int)))],h:=λ_=>[],more:=0,μ:=λ⟨j,q⟩=>s.size+1- j,keep:=[0,2]}}
def qcn(s:ByteArray):Nat->ByteArray
 |0=>mkS []
 |i+1=>if bat s i=46 then s.extract 0 i else qcn s i
def qe7:Ct:={ctQ ByteArray (λs=>[.sv (.string s)]) (λs=>s.size<1000000) (λ_=>{}) (λs=> .sv (.string (qcn s s.size)))with find:=some λl _=>match l with
 | [a]=>gs a
 |_=>none}
def qp3:qe7.σ->WayF:=λs=>{
 ann:=λ_ _ _=>some {σ:=Nat,pre:=λj=>j<=s.size/\qcn s j=qcn s s.size,t:=λj=>[(3, .sv (.int .i64 ((j:Int)- 1)))],h:=λ_=>[],more:=0,μ:=λj=>j,keep:=[0,2]}}
def dotF(s:ByteArray):Nat->Nat->Bool
 |0,_=>false
 |f+1,i=>if i<s.size then decide (bat s i=46)||dotF s f (i+1)else false
def hasDot(s:ByteArray):Bool:=dotF s s.size 0
def q2o(nm sp:ByteArray):ByteArray:=if hasDot nm=true then nm else q5i sp nm
def whE(nm sp:ByteArray) (e:Int):Int:=if nm=mkS []\/q7y (q2o nm sp)=false then faE e 6 else e
def selWhole(l:List AV) (h:T AO):Option (Sel (List AT×Int×ByteArray×ByteArray)):=match l with
  | [.ptr id _,a,b]=>match mkE h id with
    | some e=>match gs a with
      | some a=>match gs b with
        |some b=>some ⟨List AT,λS=>(S,e,a,b)⟩
        |none=>none
      |none=>none
    |none=>none
  |_=>none
def qcj:Ct where
 σ:=List AT×Int×ByteArray×ByteArray
 args:=λ⟨S,e,a,b⟩=>[.ptr 1 0, .sv (.string a), .sv (.string b)]
 h:=λ⟨S,e,a,b⟩=>mkO S e 2 3
 m:=4
 pre:=λ⟨S,e,a,b⟩=>a.size<10000/\b.size<50000
 sel:=some selWhole
 r:=λ⟨S,e,a,b⟩=> .sv (.string (q2o a b))
 h':=λ⟨S,e,a,b⟩=>mkO S (whE a b e) 2 3
 m':=4
 g:=λ_=>none
def wWhole:qcj.σ->WayF:=λ⟨S,e,a,b⟩=>{
 ann:=λ_ _ _=>some {σ:=Nat×ByteArray,pre:=λ⟨j,q⟩=>j<=a.size/\((if dotF a (a.size- j) j=true then a else q)=q2o a b),t:=λ⟨j,q⟩=>[(7, .sv (.string q)),(8, .sv (.int .i64 (j:Int)))],h:=λ_=>[],more:=0,μ:=λ⟨j,q⟩=>a.size- j,keep:=[0,1,2,6]}}
def q0z(s:ByteArray) (g:GJ):Option GJ:=if g.k=6 then q8c s g.nm g.l else none
def qb6:Ct:=ctQ (GJ×ByteArray) (λ⟨g,s⟩=>[g.av, .sv (.string s)]) (λ⟨g,s⟩=>g.wf) (λ⟨g,s⟩=>gM g) λ⟨g,s⟩=> .tup [((q0z s g).getD zJ).av, .sv (.bool (q0z s g).isSome)]
def wGet6:qb6.σ->WayF:=λ⟨g,s⟩=>{
 ann:=λ_ _ _=>some {σ:=Nat,pre:=λj=>j<=g.nm.length/\(if g.k=6 then q8c s (g.nm.drop j) (g.l.drop j)else none)=q0z s g,t:=λj=>[(6, .sv (.int .i64 (j:Int)))],h:=λ_=>[],more:=0,μ:=λj=>g.nm.length- j,keep:=[1,2,4,5]}}
def woR(g:GJ) (s:ByteArray) (must:Bool) (e:Int):ByteArray×Int:=match q0z s g with
 |none=>if must=true then(mkS [],faE e 2)else(mkS [],e)
 |some t=>if t.k=4 then(t.s,e)else(mkS [],faE e 2)
def qfd:Ct where
 σ:=List AT×Int×GJ×ByteArray×Bool
 args:=λ⟨S,e,g,s,b⟩=>[.ptr 1 0,g.av, .sv (.string s), .sv (.bool b)]
 h:=λ⟨S,e,g,s,b⟩=>mkO S e 2 3
 m:=4
 pre:=λ⟨S,e,g,s,b⟩=>g.wf
 mem:=λ⟨S,e,g,s,b⟩=>gM g
 r:=λ⟨S,e,g,s,b⟩=> .sv (.string (woR g s b e).1)
 h':=λ⟨S,e,g,s,b⟩=>mkO S (woR g s b e).2 2 3
 m':=4
 g:=λ_=>none
theorem qzj(S:List AT) (e0 e:Int):q2h P (λ_=>none) Try.f72 q4d (λ_=>{}) ⟨S,e0,e⟩=(True->(decide (e0=(0:Int))=true->List.length S=List.length S/\faE e0 e=e/\q00 AT.cells S=q00 AT.cells S/\True)/\(decide (e0=(0:Int))=false->List.length S=List.length S/\faE e0 e=e0/\q00 AT.cells S=q00 AT.cells S/\True)):=by kernel_rfl
theorem addM_eq(S:List AT) (e:Int) (t:AT):q2h P (q0r [(72,q4d)]) Try.f78 cAdd (λ_=>{}) ⟨S,e,t⟩=(True->(decide ((60:Int)<=(↑(List.length S):Int))=true->∃(b:List AT),(3:Int)=(3:Int)/\List.length b=List.length S/\e=e/\q00 AT.cells b=q00 AT.cells S/\True/\adR S=(0:Int)/\List.length (adS S t)=List.length b/\adE S e=faE e (3:Int)/\q00 AT.cells (adS S t)=q00 AT.cells b/\True)/\(decide ((60:Int)<=(↑(List.length S):Int))=false->List.length (q00 AT.cells S)=List.length S*(10:Nat)/\(List.length S+nat_lit 1)*(160:Nat)<=(140737488355328:Nat)/\((-9223372036854775808:Int)<=(↑(List.length S+nat_lit 1):Int)- (1:Int)/\(↑(List.length S+nat_lit 1):Int)- (1:Int)<=(9223372036854775807:Int))/\adR S=(↑(List.length S+nat_lit 1):Int)- (1:Int)/\List.length (adS S t)=List.length S+nat_lit 1/\adE S e=e/\q00 AT.cells (adS S t)=q00 AT.cells S++[Value.int IntKind.i64 (AT.k t),Value.string (AT.nm t),Value.slice (Prod.fst (AT.al t)) (Prod.fst (Prod.snd (AT.al t))) (Prod.snd (Prod.snd (AT.al t))),Value.int IntKind.i64 (AT.it t),Value.slice (Prod.fst (AT.sy t)) (Prod.fst (Prod.snd (AT.sy t))) (Prod.snd (Prod.snd (AT.sy t))),Value.bool (AT.hd t),Value.string (AT.df t),Value.int IntKind.i64 (AT.sz t),Value.slice (Prod.fst (AT.f t)) (Prod.fst (Prod.snd (AT.f t))) (Prod.snd (Prod.snd (AT.f t))),Value.slice (Prod.fst (AT.br t)) (Prod.fst (Prod.snd (AT.br t))) (Prod.snd (Prod.snd (AT.br t)))]/\True)):=by kernel_rfl
noncomputable section
variable (x0:ByteArray) (x1:Nat)
 abbrev zba6:=x1<=14/\idxF x0 (List.drop x1 kinds) x1=q0x x0
 abbrev zba5:=((-9223372036854775808:Int)<=(↑x1:Int)+1/\(↑x1:Int)+1<=9223372036854775807)
 abbrev zba4:=zba5 x1/\q0x x0=(↑x1:Int)+1/\True
 abbrev zba3:=zba5 x1/\∃(i0:Nat),x0=x0/\(↑i0:Int)=(↑x1:Int)+1/\(zba6 x0 i0)/\(14:Nat)- i0<14- x1/\True
 abbrev zba2:=(0<=(↑x1:Int)/\(↑x1:Int)<(↑(nat_lit 14):Int))/\∃(i0:ByteArray),(∀(i1:Nat) (i2:Value),[Value.string i0][i1]? =some i2->[Value.string (mkS [110,117,108,108]),Value.string (mkS [98,111,111,108,101,97,110]),Value.string (mkS [105,110,116]),Value.string (mkS [108,111,110,103]),Value.string (mkS [102,108,111,97,116]),Value.string (mkS [100,111,117,98,108,101]),Value.string (mkS [98,121,116,101,115]),Value.string (mkS [115,116,114,105,110,103]),Value.string (mkS [114,101,99,111,114,100]),Value.string (mkS [101,110,117,109]),Value.string (mkS [102,105,120,101,100]),Value.string (mkS [97,114,114,97,121]),Value.string (mkS [109,97,112]),Value.string (mkS [117,110,105,111,110])][nat_lit 0+Int.toNat (↑x1:Int)*1+i1]? =some i2)/\(decide (i0=x0)=true->zba4 x0 x1)/\(decide (i0=x0)=false->zba3 x0 x1)
 abbrev zba1:=(decide ((↑x1:Int)<Int.ofNat (nat_lit 14))=true->zba2 x0 x1)/\(decide ((↑x1:Int)<Int.ofNat (nat_lit 14))=false->q0x x0=0/\True)
 abbrev zba0:=(∃(i0:Nat),x0=x0/\(↑i0:Int)=0/\(zba6 x0 i0)/\True)/\∀(i1:Nat),zba6 x0 i1->zba1 x0 i1
end
theorem qz4(s:ByteArray):q2h P (λ_=>none) Try.f77 qr4 (wKind) s=(True->zba0 s):=by kernel_rfl
def kind_eq(s:ByteArray):=Eq.trans (qz4 s) (by delta zba6 zba5 zba4 zba3 zba2 zba1 zba0;exact rfl)
noncomputable section
variable (x0:Int)
 abbrev zbb2:=(0<=x0/\x0<(↑(nat_lit 15):Int))/\∃(i0:ByteArray),(∀(i1:Nat) (i2:Value),[Value.string i0][i1]? =some i2->[Value.string (mkS []),Value.string (mkS [110,117,108,108]),Value.string (mkS [98,111,111,108,101,97,110]),Value.string (mkS [105,110,116]),Value.string (mkS [108,111,110,103]),Value.string (mkS [102,108,111,97,116]),Value.string (mkS [100,111,117,98,108,101]),Value.string (mkS [98,121,116,101,115]),Value.string (mkS [115,116,114,105,110,103]),Value.string (mkS [114,101,99,111,114,100]),Value.string (mkS [101,110,117,109]),Value.string (mkS [102,105,120,101,100]),Value.string (mkS [97,114,114,97,121]),Value.string (mkS [109,97,112]),Value.string (mkS [117,110,105,111,110])][nat_lit 0+Int.toNat x0*1+i1]? =some i2)/\q8d x0=i0/\True
 abbrev zbb1:=(decide (14<x0)=true->q8d x0=mkS []/\True)/\(decide (14<x0)=false->zbb2 x0)
 abbrev zbb0:=(decide (x0<1)=true->q8d x0=mkS []/\True)/\(decide (x0<1)=false->zbb1 x0)
end
theorem qsl(k:Int):q2h P (λ_=>none) Try.f139 cWord (λ_=>{}) k=(True->zbb0 k):=by kernel_rfl
def qx5(k:Int):=Eq.trans (qsl k) (by delta zbb2 zbb1 zbb0;exact rfl)
noncomputable section
variable (x0:ByteArray) (x1:List AT) (x2:Int) (x3:Nat) (x4:Int) (x5:Prop)
 abbrev zbc6:=List.length x1=List.length x1/\x2=x2/\q00 AT.cells x1=q00 AT.cells x1/\x5
 abbrev zbc7:=x3<=List.length x1/\findF x0 (List.drop x3 x1) x3=findF x0 x1 0
 abbrev zbc3:=((-9223372036854775808:Int)<=(↑x3:Int)+1/\(↑x3:Int)+1<=9223372036854775807)/\∃(i0:Nat),x0=x0/\(↑i0:Int)=(↑x3:Int)+1/\zbc6 x1 x2 ((zbc7 x0 x1 i0)/\List.length x1- i0<List.length x1- x3/\True)
 abbrev zbc5:=(decide (x2<=11)=true->fnI (findF x0 x1 0)=(↑x3:Int)/\Option.isSome (findF x0 x1 0)=true/\zbc6 x1 x4 True)/\(decide (x2<=11)=false->zbc3 x0 x1 x4 x3)
 abbrev zbc4:=(decide (9<=x2)=true->zbc5 x0 x1 x2 x3 x4)/\(decide (9<=x2)=false->zbc3 x0 x1 x4 x3)
 abbrev zbc2:=(0<=(↑x3:Int)/\(↑x3:Int)<(↑(List.length x1):Int))/\∃(i0:Int),∃(i1:ByteArray),∃(i2:Option Addr),∃(i3:Nat),∃(i4:Nat),∃(i5:Int),∃(i6:Option Addr),∃(i7:Nat),∃(i8:Nat),∃(i9:Bool),∃(i10:ByteArray),∃(i11:Int),∃(i12:Option Addr),∃(i13:Nat),∃(i14:Nat),∃(i15:Option Addr),∃(i16:Nat),∃(i17:Nat),(∀(i18:Nat) (i19:Value),[Value.int IntKind.i64 i0,Value.string i1,Value.slice i2 i3 i4,Value.int IntKind.i64 i5,Value.slice i6 i7 i8,Value.bool i9,Value.string i10,Value.int IntKind.i64 i11,Value.slice i12 i13 i14,Value.slice i15 i16 i17][i18]? =some i19->(q00 AT.cells x1)[nat_lit 0+Int.toNat (↑x3:Int)*nat_lit 10+i18]? =some i19)/\(decide (i1=x0)=true->zbc4 x0 x1 i0 x3 x2)/\(decide (i1=x0)=false->zbc3 x0 x1 x2 x3)
 abbrev zbc8:=fnI (findF x0 x1 0)=0/\Option.isSome (findF x0 x1 0)=false/\zbc6 x1 x2 True
 abbrev zbc1:=(decide ((↑x3:Int)<(↑(List.length x1):Int))=true->zbc2 x0 x1 x2 x3)/\(decide ((↑x3:Int)<(↑(List.length x1):Int))=false->zbc8 x0 x1 x2)
 abbrev zbc0:=(∃(i0:Nat),x0=x0/\(↑i0:Int)=0/\zbc6 x1 x2 ((zbc7 x0 x1 i0)/\True))/\∀(i1:Nat),zbc7 x0 x1 i1->zbc1 x0 x1 x2 i1
end
theorem qs9(S:List AT) (e:Int) (s:ByteArray):q2h P (λ_=>none) Try.f106 qsm (wFind) ⟨S,e,s⟩=(List.length S<1000->zbc0 s S e):=by kernel_rfl
def findM_eq(S:List AT) (e:Int) (s:ByteArray):=Eq.trans (qs9 S e s) (by delta zbc6 zbc7 zbc3 zbc5 zbc4 zbc2 zbc8 zbc1 zbc0;exact rfl)
theorem tag_eq(S:List AT) (t:Int):q2h P (q0r [(139,cWord)]) Try.f108 cTag (λ_=>{}) ⟨S,t⟩=(List.length S<(1000:Nat)->(decide (t<(0:Int))=true->qm8 S t=mkS []/\q00 AT.cells S=q00 AT.cells S/\True)/\(decide (t<(0:Int))=false->(decide ((↑(List.length S):Int)<=t)=true->qm8 S t=mkS []/\q00 AT.cells S=q00 AT.cells S/\True)/\(decide ((↑(List.length S):Int)<=t)=false->((0:Int)<=t/\t<(↑(List.length S):Int))/\∃(s:ByteArray),(∀(j:Nat) (v:Value),[Value.string s][j]? =some v->(q00 AT.cells S)[nat_lit 0+Int.toNat t*nat_lit 10+(1:Nat)+j]? =some v)/\((!decide (s=mkS []))=true->((0:Int)<=t/\t<(↑(List.length S):Int))/\∃(s:ByteArray),(∀(j:Nat) (v:Value),[Value.string s][j]? =some v->(q00 AT.cells S)[nat_lit 0+Int.toNat t*nat_lit 10+(1:Nat)+j]? =some v)/\qm8 S t=s/\q00 AT.cells S=q00 AT.cells S/\True)/\((!decide (s=mkS []))=false->((0:Int)<=t/\t<(↑(List.length S):Int))/\∃(n:Int),(∀(j:Nat) (v:Value),[Value.int IntKind.i64 n][j]? =some v->(q00 AT.cells S)[nat_lit 0+Int.toNat t*nat_lit 10+(0:Nat)+j]? =some v)/\∃(s:Int),s=n/\True/\qm8 S t=q8d s/\q00 AT.cells S=q00 AT.cells S/\True)))):=by kernel_rfl
theorem join_eq(a b:ByteArray):q2h P (λ_=>none) Try.f107 cJoin (λ_=>{}) ⟨a,b⟩=(ByteArray.size a<(1000000:Nat)/\ByteArray.size b<(1000000:Nat)->(decide (a=mkS [])=true->ByteArray.size a+ByteArray.size b<=(9223372036854775807:Nat)/\q5i a b=a++b/\True)/\(decide (a=mkS [])=false->(decide (b=mkS [])=true->ByteArray.size a+ByteArray.size b<=(9223372036854775807:Nat)/\q5i a b=a++b/\True)/\(decide (b=mkS [])=false->ByteArray.size a+ByteArray.size (mkS [(46:Nat)])<=(9223372036854775807:Nat)/\ByteArray.size (a++mkS [(46:Nat)])+ByteArray.size b<=(9223372036854775807:Nat)/\q5i a b=a++mkS [(46:Nat)]++b/\True))):=by kernel_rfl
theorem quf(c:Int):q2h P (λ_=>none) Try.f150 qii (λ_=>{}) c=((0:Int)<=c/\c<(256:Int)->(decide ((97:Int)<=c)=true->(decide (c<=(122:Int))=true->isLt (Int.toNat c)=true/\True)/\(decide (c<=(122:Int))=false->(decide ((65:Int)<=c)=true->(decide (c<=(90:Int))=true->isLt (Int.toNat c)=true/\True)/\(decide (c<=(90:Int))=false->isLt (Int.toNat c)=decide (c=(95:Int))/\True))/\(decide ((65:Int)<=c)=false->isLt (Int.toNat c)=decide (c=(95:Int))/\True)))/\(decide ((97:Int)<=c)=false->(decide ((65:Int)<=c)=true->(decide (c<=(90:Int))=true->isLt (Int.toNat c)=true/\True)/\(decide (c<=(90:Int))=false->isLt (Int.toNat c)=decide (c=(95:Int))/\True))/\(decide ((65:Int)<=c)=false->isLt (Int.toNat c)=decide (c=(95:Int))/\True))):=by kernel_rfl
theorem digit_eq(c:Int):q2h P (λ_=>none) Try.f151 qwb (λ_=>{}) c=((0:Int)<=c/\c<(256:Int)->(decide ((48:Int)<=c)=true->isDg (Int.toNat c)=decide (c<=(57:Int))/\True)/\(decide ((48:Int)<=c)=false->isDg (Int.toNat c)=false/\True)):=by kernel_rfl
noncomputable section
variable (x0:ByteArray) (x1:Nat) (x2:Prop)
 abbrev zbg7:=x1<=ByteArray.size x0/\ptA x0 (ByteArray.size x0- x1) x1=ptA x0 (ByteArray.size x0) 0
 abbrev qzg:=(↑(bat x0 (Int.toNat (↑x1:Int))):Int)
 abbrev zbg8:=(0<=(↑x1:Int)/\(↑x1:Int)<(↑(ByteArray.size x0):Int))/\(qzg x0 x1)=(qzg x0 x1)/\(0<=(qzg x0 x1)/\(qzg x0 x1)<256)/\x2
 abbrev zbg3:=((-9223372036854775808:Int)<=(↑x1:Int)+1/\(↑x1:Int)+1<=9223372036854775807)/\∃(i0:Nat),x0=x0/\(↑i0:Int)=(↑x1:Int)+1/\(zbg7 x0 i0)/\ByteArray.size x0- i0<ByteArray.size x0- x1/\True
 abbrev zbg5:=zbg8 x0 x1 (((!isDg (Int.toNat (qzg x0 x1)))=true->q5g x0=false/\True)/\((!isDg (Int.toNat (qzg x0 x1)))=false->zbg3 x0 x1))
 abbrev zbg4:=(decide ((↑x1:Int)=0)=true->q5g x0=false/\True)/\(decide ((↑x1:Int)=0)=false->zbg5 x0 x1)
 abbrev zbg2:=zbg8 x0 x1 (((!isLt (Int.toNat (qzg x0 x1)))=true->zbg4 x0 x1)/\((!isLt (Int.toNat (qzg x0 x1)))=false->zbg3 x0 x1))
 abbrev zbg1:=(decide ((↑x1:Int)<(↑(ByteArray.size x0):Int))=true->zbg2 x0 x1)/\(decide ((↑x1:Int)<(↑(ByteArray.size x0):Int))=false->q5g x0=decide (0<(↑(ByteArray.size x0):Int))/\True)
 abbrev zbg0:=(∃(i0:Nat),x0=x0/\(↑i0:Int)=0/\(zbg7 x0 i0)/\True)/\∀(i1:Nat),zbg7 x0 i1->zbg1 x0 i1
end
theorem part_eqz(s:ByteArray):q2h P (q0r [(150,qii),(151,qwb)]) Try.f141 qmv (wPart) s=(ByteArray.size s<1000000->zbg0 s):=by kernel_rfl
def part_eq(s:ByteArray):=Eq.trans (part_eqz s) (by delta zbg7 qzg zbg8 zbg3 zbg5 zbg4 zbg2 zbg1 zbg0;exact rfl)
noncomputable section
variable (x0:ByteArray) (x1:Nat×ByteArray) (x2:Nat×ByteArray)
 abbrev zbh6:=x1.1<=ByteArray.size x0+1/\ByteArray.size x1.2<=x1.1/\qwf x0 (ByteArray.size x0+1- x1.1) x1.1 x1.2=q7y x0
 abbrev zbh8:=((-9223372036854775808:Int)<=(↑x1.1:Int)+1/\(↑x1.1:Int)+1<=9223372036854775807)
 abbrev zbh9:=(↑x1.1:Int)=(↑x2.1:Int)+1/\(zbh6 x0 x1)/\ByteArray.size x0+1- x1.1<ByteArray.size x0+1- x2.1/\True
 abbrev zbh5:=zbh8 x1/\(0<=(↑x1.1:Int)/\(↑x1.1:Int)<=(↑x1.1:Int)+1/\(↑x1.1:Int)+1<=(↑(ByteArray.size x0):Int))/\ByteArray.size x1.2+ByteArray.size (ByteArray.extract x0 (Int.toNat (↑x1.1:Int)) (Int.toNat ((↑x1.1:Int)+1)))<=9223372036854775807/\zbh8 x1/\∃(i0:Nat×ByteArray),x0=x0/\i0.2=x1.2++ByteArray.extract x0 (Int.toNat (↑x1.1:Int)) (Int.toNat ((↑x1.1:Int)+1))/\zbh9 x0 i0 x1
 abbrev zbh7:=zbh8 x1/\∃(i0:Nat×ByteArray),x0=x0/\i0.2=mkS []/\zbh9 x0 i0 x1
 abbrev zbh4:=x1.2=x1.2/\ByteArray.size x1.2<1000000/\((!q5g x1.2)=true->q7y x0=false/\True)/\((!q5g x1.2)=false->zbh7 x0 x1)
 abbrev zbh3:=(0<=(↑x1.1:Int)/\(↑x1.1:Int)<(↑(ByteArray.size x0):Int))/\((!decide ((↑(bat x0 (Int.toNat (↑x1.1:Int))):Int)=46))=true->zbh5 x0 x1)/\((!decide ((↑(bat x0 (Int.toNat (↑x1.1:Int))):Int)=46))=false->zbh4 x0 x1)
 abbrev zbh2:=(decide ((↑x1.1:Int)<(↑(ByteArray.size x0):Int))=true->zbh3 x0 x1)/\(decide ((↑x1.1:Int)<(↑(ByteArray.size x0):Int))=false->zbh4 x0 x1)
 abbrev zbh1:=(decide ((↑x1.1:Int)<=(↑(ByteArray.size x0):Int))=true->zbh2 x0 x1)/\(decide ((↑x1.1:Int)<=(↑(ByteArray.size x0):Int))=false->q7y x0=true/\True)
 abbrev zbh0:=(∃(i0:Nat×ByteArray),x0=x0/\i0.2=mkS []/\(↑i0.1:Int)=0/\(zbh6 x0 i0)/\True)/\∀(i1:Nat×ByteArray),zbh6 x0 i1->zbh1 x0 i1
end
theorem quy(s:ByteArray):q2h P (q0r [(141,qmv)]) Try.f140 ql4 (wParts) s=(ByteArray.size s<100000->zbh0 s):=by kernel_rfl
def qxk(s:ByteArray):=Eq.trans (quy s) (by delta zbh6 zbh8 zbh9 zbh5 zbh7 zbh4 zbh3 zbh2 zbh1 zbh0;exact rfl)
noncomputable section
variable (x0:ByteArray) (x1:Nat)
 abbrev zbi5:=x1<=ByteArray.size x0/\qcn x0 x1=qcn x0 (ByteArray.size x0)
 abbrev zbi6:=0<=(↑x1:Int)- 1
 abbrev zbi4:=(zbi6 x1/\(↑x1:Int)- 1<=(↑(ByteArray.size x0):Int))/\qcn x0 (ByteArray.size x0)=ByteArray.extract x0 0 (Int.toNat ((↑x1:Int)- 1))/\True
 abbrev zbi3:=((-9223372036854775808:Int)<=(↑x1:Int)- 1- 1/\(↑x1:Int)- 1- 1<=9223372036854775807)/\∃(i0:Nat),x0=x0/\(↑i0:Int)- 1=(↑x1:Int)- 1- 1/\(zbi5 x0 i0)/\i0<x1/\True
 abbrev zbi2:=(zbi6 x1/\(↑x1:Int)- 1<(↑(ByteArray.size x0):Int))/\(decide ((↑(bat x0 (Int.toNat ((↑x1:Int)- 1))):Int)=46)=true->zbi4 x0 x1)/\(decide ((↑(bat x0 (Int.toNat ((↑x1:Int)- 1))):Int)=46)=false->zbi3 x0 x1)
 abbrev zbi1:=(decide (zbi6 x1)=true->zbi2 x0 x1)/\(decide (zbi6 x1)=false->qcn x0 (ByteArray.size x0)=mkS []/\True)
 abbrev zbi0:=((-9223372036854775808:Int)<=(↑(ByteArray.size x0):Int)- 1/\(↑(ByteArray.size x0):Int)- 1<=9223372036854775807)/\(∃(i0:Nat),x0=x0/\(↑i0:Int)- 1=(↑(ByteArray.size x0):Int)- 1/\(zbi5 x0 i0)/\True)/\∀(i1:Nat),zbi5 x0 i1->zbi1 x0 i1
end
theorem qnu(s:ByteArray):q2h P (λ_=>none) Try.f111 qe7 (qp3) s=(ByteArray.size s<1000000->zbi0 s):=by kernel_rfl
def qvz(s:ByteArray):=Eq.trans (qnu s) (by delta zbi5 zbi6 zbi4 zbi3 zbi2 zbi1 zbi0;exact rfl)
noncomputable section
variable (x0:ByteArray) (x1:ByteArray) (x2:List AT) (x3:Int) (x4:Nat×ByteArray) (x5:Prop) (x6:Nat×ByteArray)
 abbrev zbj9:=x4.1<=ByteArray.size x0/\(if dotF x0 (ByteArray.size x0- x4.1) x4.1=true then x0 else x4.2)=q2o x0 x1
 abbrev zbj7:=List.length x2=List.length x2/\x3=x3/\q00 AT.cells x2=q00 AT.cells x2/\(zbj9 x0 x1 x4)/\x5
 abbrev zbj10:=((-9223372036854775808:Int)<=(↑x4.1:Int)+1/\(↑x4.1:Int)+1<=9223372036854775807)
 abbrev zbj11:=x0=x0/\(↑x4.1:Int)=(↑x6.1:Int)+1/\zbj7 x1 x0 x2 x3 x4 (ByteArray.size x1- x4.1<ByteArray.size x1- x6.1/\True)
 abbrev zbj5:=zbj10 x4/\∃(i0:Nat×ByteArray),x0=x0/\i0.2=x0/\zbj11 x1 x0 x2 x3 i0 x4
 abbrev zbj4:=zbj10 x4/\∃(i0:Nat×ByteArray),x0=x0/\i0.2=x4.2/\zbj11 x1 x0 x2 x3 i0 x4
 abbrev zbj2:=(0<=(↑x4.1:Int)/\(↑x4.1:Int)<(↑(ByteArray.size x0):Int))/\(decide ((↑(bat x0 (Int.toNat (↑x4.1:Int))):Int)=46)=true->zbj5 x0 x1 x2 x3 x4)/\(decide ((↑(bat x0 (Int.toNat (↑x4.1:Int))):Int)=46)=false->zbj4 x0 x1 x2 x3 x4)
 abbrev zbj8:=∃(i0:List AT),(6:Int)=6/\List.length i0=List.length x2/\x3=x3/\q00 AT.cells i0=q00 AT.cells x2/\True/\q2o x0 x1=x4.2/\List.length x2=List.length i0/\whE x0 x1 x3=faE x3 6/\q00 AT.cells x2=q00 AT.cells i0/\True
 abbrev zbj6:=x4.2=x4.2/\ByteArray.size x4.2<100000/\((!q7y x4.2)=true->zbj8 x0 x1 x2 x3 x4)/\((!q7y x4.2)=false->q2o x0 x1=x4.2/\List.length x2=List.length x2/\whE x0 x1 x3=x3/\q00 AT.cells x2=q00 AT.cells x2/\True)
 abbrev zbj3:=(decide (x0=mkS [])=true->zbj8 x0 x1 x2 x3 x4)/\(decide (x0=mkS [])=false->zbj6 x0 x1 x2 x3 x4)
 abbrev zbj1:=(decide ((↑x4.1:Int)<(↑(ByteArray.size x0):Int))=true->zbj2 x0 x1 x2 x3 x4)/\(decide ((↑x4.1:Int)<(↑(ByteArray.size x0):Int))=false->zbj3 x0 x1 x2 x3 x4)
 abbrev zbj0:=x0=x0/\x1=x1/\(ByteArray.size x0<1000000/\ByteArray.size x1<1000000)/\(∃(i0:Nat×ByteArray),x1=x1/\i0.2=q5i x0 x1/\x0=x0/\(↑i0.1:Int)=0/\zbj7 x1 x0 x2 x3 i0 True)/\∀(i1:Nat×ByteArray),zbj9 x1 x0 i1->zbj1 x1 x0 x2 x3 i1
end
theorem qnz(S:List AT) (e:Int) (a b:ByteArray):q2h P (q0r [(107,cJoin),(140,ql4),(72,q4d)]) Try.f110 qcj (wWhole) ⟨S,e,a,b⟩=(ByteArray.size a<10000/\ByteArray.size b<50000->zbj0 b a S e):=by kernel_rfl
def qs1(S:List AT) (e:Int) (a b:ByteArray):=Eq.trans (qnz S e a b) (by delta zbj9 zbj7 zbj10 zbj11 zbj5 zbj4 zbj2 zbj8 zbj6 zbj3 zbj1 zbj0;exact rfl)
noncomputable section
variable (x0:ByteArray) (x1:GJ) (x2:Nat) (x3:Prop)
 abbrev zbk9:=x2<=List.length (GJ.nm x1)/\(if GJ.k x1=6 then q8c x0 (List.drop x2 (GJ.nm x1)) (List.drop x2 (GJ.l x1))else none)=q0z x0 x1
 abbrev zbk8:=GJ.k x1=GJ.k x1/\GJ.n x1=GJ.n x1/\GJ.s x1=GJ.s x1/\(GJ.y x1).1=(GJ.y x1).1/\(GJ.y x1).2.1=(GJ.y x1).2.1/\(GJ.y x1).2.2=(GJ.y x1).2.2/\(GJ.x x1).1=(GJ.x x1).1/\(GJ.x x1).2.1=(GJ.x x1).2.1/\(GJ.x x1).2.2=(GJ.x x1).2.2/\(∀(i0:Pub),True/\GJ.ok x1 i0->True/\GJ.ok x1 i0)/\(zbk9 x0 x1 x2)/\x3
 abbrev qyk:=(↑x2:Int)<(↑(GJ.x x1).2.1:Int)
 abbrev zbk13:=(↑x2:Int)<(↑(GJ.y x1).2.1:Int)
 abbrev qgh:=GJ.y (Option.getD (q0z x0 x1) zJ)
 abbrev qin:=GJ.x (Option.getD (q0z x0 x1) zJ)
 abbrev zbk6:=(0<=(↑x2:Int)/\zbk13 x1 x2)/\(GJ.y x1).1≠noA/\∃(i0:Int),∃(i1:Int),∃(i2:ByteArray),∃(i3:Option Addr),∃(i4:Nat),∃(i5:Nat),∃(i6:Option Addr),∃(i7:Nat),∃(i8:Nat),(∀(i9:Pub),True/\GJ.ok x1 i9->q02 i9 (adr (GJ.y x1).1 (Int.toNat (↑x2:Int)*5)) [Value.int IntKind.i64 i0,Value.int IntKind.i64 i1,Value.string i2,Value.slice i3 i4 i5,Value.slice i6 i7 i8])/\GJ.k (Option.getD (q0z x0 x1) zJ)=i0/\GJ.n (Option.getD (q0z x0 x1) zJ)=i1/\GJ.s (Option.getD (q0z x0 x1) zJ)=i2/\(qgh x0 x1).1=i3/\(qgh x0 x1).2.1=i4/\(qgh x0 x1).2.2=i5/\(qin x0 x1).1=i6/\(qin x0 x1).2.1=i7/\(qin x0 x1).2.2=i8/\Option.isSome (q0z x0 x1)=true/\True
 abbrev zbk7:=((-9223372036854775808:Int)<=(↑x2:Int)+1/\(↑x2:Int)+1<=9223372036854775807)/\∃(i0:Nat),x0=x0/\(↑i0:Int)=(↑x2:Int)+1/\zbk8 x0 x1 i0 (List.length (GJ.nm x1)- i0<List.length (GJ.nm x1)- x2/\True)
 abbrev zbk5:=(0<=(↑x2:Int)/\qyk x1 x2)/\(GJ.x x1).1≠noA/\∃(i0:ByteArray),(∀(i1:Pub),True/\GJ.ok x1 i1->q02 i1 (adr (GJ.x x1).1 (Int.toNat (↑x2:Int)*1)) [Value.string i0])/\(decide (i0=x0)=true->zbk6 x0 x1 x2)/\(decide (i0=x0)=false->zbk7 x0 x1 x2)
 abbrev zbk4:=GJ.k (Option.getD (q0z x0 x1) zJ)=0/\GJ.n (Option.getD (q0z x0 x1) zJ)=0/\GJ.s (Option.getD (q0z x0 x1) zJ)=mkS []/\(qgh x0 x1).1=noA/\(qgh x0 x1).2.1=0/\(qgh x0 x1).2.2=0/\(qin x0 x1).1=noA/\(qin x0 x1).2.1=0/\(qin x0 x1).2.2=0/\Option.isSome (q0z x0 x1)=false/\True
 abbrev zbk3:=(decide (zbk13 x1 x2)=true->zbk5 x0 x1 x2)/\(decide (zbk13 x1 x2)=false->zbk4 x0 x1)
 abbrev zbk2:=(decide (qyk x1 x2)=true->zbk3 x0 x1 x2)/\(decide (qyk x1 x2)=false->zbk4 x0 x1)
 abbrev zbk1:=(decide (GJ.k x1=6)=true->zbk2 x0 x1 x2)/\(decide (GJ.k x1=6)=false->zbk4 x0 x1)
 abbrev zbk0:=(∃(i0:Nat),x0=x0/\(↑i0:Int)=0/\zbk8 x0 x1 i0 True)/\∀(i2:Nat),zbk9 x0 x1 i2->zbk1 x0 x1 i2
end
theorem qxa(g:GJ) (s:ByteArray):q2h P (λ_=>none) Try.f75 qb6 (wGet6) ⟨g,s⟩=(GJ.wf g->(∃(p:Pub),True/\GJ.ok g p)->zbk0 s g):=by kernel_rfl
def get6_eq(g:GJ) (s:ByteArray):=Eq.trans (qxa g s) (by delta zbk9 zbk8 qyk zbk13 qgh qin zbk6 zbk7 zbk5 zbk4 zbk3 zbk2 zbk1 zbk0;exact rfl)
noncomputable section
variable (x0:GJ×ByteArray) (x1:List AT) (x2:Int) (x3:GJ) (x4:ByteArray) (x5:Bool)
 abbrev zbl5:=(woR x3 x4 x5 x2).1=mkS []/\List.length x1=List.length x1/\(woR x3 x4 x5 x2).2=x2/\q00 AT.cells x1=q00 AT.cells x1/\True
 abbrev zbl2:=∃(i0:List AT),(2:Int)=2/\List.length i0=List.length x1/\x2=x2/\q00 AT.cells i0=q00 AT.cells x1/\True/\(woR x3 x4 x5 x2).1=mkS []/\List.length x1=List.length i0/\(woR x3 x4 x5 x2).2=faE x2 2/\q00 AT.cells x1=q00 AT.cells i0/\True
 abbrev zbl4:=(woR x3 x4 x5 x2).1=GJ.s (Option.getD (q0z x0.2 x0.1) zJ)/\List.length x1=List.length x1/\(woR x3 x4 x5 x2).2=x2/\q00 AT.cells x1=q00 AT.cells x1/\True
 abbrev zbl1:=((!decide (GJ.k (Option.getD (q0z x0.2 x0.1) zJ)=4))=true->zbl2 x1 x2 x3 x4 x5)/\((!decide (GJ.k (Option.getD (q0z x0.2 x0.1) zJ)=4))=false->zbl4 x0 x1 x2 x3 x4 x5)
 abbrev zbl0:=((!Option.isSome (q0z x0.2 x0.1))=true->zbl2 x1 x2 x3 x4 x5)/\((!Option.isSome (q0z x0.2 x0.1))=false->zbl1 x0 x1 x2 x3 x4 x5)
 abbrev zbl3:=((!x5)=true->zbl5 x1 x2 x3 x4 x5)/\((!x5)=false->zbl0 x0 x1 x2 x3 x4 x5)
end
theorem qr8(S:List AT) (e:Int) (g:GJ) (s:ByteArray) (b:Bool):q2h P (q0r [(75,qb6),(72,q4d)]) Try.f109 qfd (λ_=>{}) ⟨S,e,g,s,b⟩=(GJ.wf g->(∃(p:Pub),True/\GJ.ok g p)->∃(s_1:GJ×ByteArray),GJ.k s_1.1=GJ.k g/\GJ.n s_1.1=GJ.n g/\GJ.s s_1.1=GJ.s g/\(GJ.y s_1.1).1=(GJ.y g).1/\(GJ.y s_1.1).2.1=(GJ.y g).2.1/\(GJ.y s_1.1).2.2=(GJ.y g).2.2/\(GJ.x s_1.1).1=(GJ.x g).1/\(GJ.x s_1.1).2.1=(GJ.x g).2.1/\(GJ.x s_1.1).2.2=(GJ.x g).2.2/\s_1.2=s/\GJ.wf s_1.1/\(∀(p:Pub),True/\GJ.ok g p->GJ.ok s_1.1 p)/\((!Option.isSome (q0z s_1.2 s_1.1))=true->zbl3 s_1 S e g s b)/\((!Option.isSome (q0z s_1.2 s_1.1))=false->zbl0 s_1 S e g s b)):=by kernel_rfl
def wordM_eq(S:List AT) (e:Int) (g:GJ) (s:ByteArray) (b:Bool):=Eq.trans (qr8 S e g s b) (by delta zbl5 zbl2 zbl4 zbl1 zbl0 zbl3;exact rfl)
theorem q2b:q15 P 72 q4d:=by
 refine q0h mixed q1o (W:=λ_=>{}) Try.func72 (by kernel_rfl) (by decide) (by decide) (λs=>by kernel_rfl) λ⟨S,(e0:Int),(e:Int)⟩=>(qzj S e0 e).mpr ?_
 simp only[decide_eq_true_eq,decide_eq_false_iff_not,true_and,and_true,eq_self]
 intro _
 exact⟨λh=>if_pos h,λh=>if_neg h⟩
theorem qe1:q15 P 78 cAdd:=by
 refine q0h mixed (q05 (q01 q2b q06)) (W:=λ_=>{}) Try.func78 (by kernel_rfl) (by decide) (by decide) (λs=>by kernel_rfl) λ⟨S,(e:Int),t⟩=>(addM_eq S e t).mpr ?_
 simp only[decide_eq_true_eq,decide_eq_false_iff_not,true_and,and_true,eq_self]
 intro _
 refine⟨λh=>⟨S,rfl,rfl,?_,?_,?_,?_⟩,λh=>⟨q03 q3g S,by omega,by omega,?_,?_,?_,?_⟩⟩
 ·unfold adR;rw[if_pos (by omega)]
 ·unfold adS;rw[if_pos (by omega)]
 ·unfold adE;rw[if_pos (by omega)]
 ·unfold adS;rw[if_pos (by omega)]
 ·unfold adR;rw[if_neg (by omega)];omega
 ·unfold adS;rw[if_neg (by omega)];simp
 ·unfold adE;rw[if_neg (by omega)]
 ·unfold adS;rw[if_neg (by omega),q0e];rfl
theorem qq3{s:ByteArray} {l:List ByteArray} {j:Nat} (h:j<l.length):idxF s (l.drop j) j=if l[j]=s then(j:Int)+1 else idxF s (l.drop (j+1)) (j+1):=by
 rw[List.drop_eq_getElem_cons h,idxF]
theorem tx_sub{l:List ByteArray} {i:Nat} (h:i<l.length):∀(j:Nat) (v:Value),[Value.string l[i]][j]? =some v->(q00 txV l)[0+i*1+j]? =some v:=λj v hj=>by
 cases j with
 |zero=>rw[Nat.zero_add,q60 q13 l i h 0 (by decide)];exact hj
 |succ j=>simp at hj
theorem qw3:q15 P 77 qr4:=by
 refine q0h mixed q1o (W:=wKind) Try.func77 (by kernel_rfl) (by decide) (by decide) (λs=>by kernel_rfl) λ(s:ByteArray)=>(kind_eq s).mpr ?_
 simp only[decide_eq_true_eq,decide_eq_false_iff_not,true_and,and_true,eq_self,Int.toNat_natCast]
 intro _
 refine⟨⟨0,rfl,by omega,rfl⟩,?_⟩
 rintro j ⟨hj,ht⟩
 refine⟨λhlt=> ?_,λhge=> ?_⟩
 ·have hl:j<kinds.length:=by show j<14;have:(j:Int)<14:=hlt;omega
  have hd:=qq3 (s:=s) hl
  rw[ht]at hd
  refine⟨⟨by omega,by have:(j:Int)<14:=hlt;exact this⟩,kinds[j],tx_sub hl,λh=>⟨by omega,by rw[hd,if_pos h]⟩,λh=>⟨by omega,j+1,by omega,⟨by have:(j:Int)<14:=hlt;omega,by rw[hd,if_neg h]⟩,by have:(j:Int)<14:=hlt;omega⟩⟩
 ·have:¬((j:Int)<14):=hge
  rw[List.drop_of_length_le (by show 14<=j;omega),idxF]at ht
  exact ht.symm
theorem wordK_ok:q15 P 139 cWord:=by
 refine q0h mixed q1o (W:=λ_=>{}) Try.func139 (by kernel_rfl) (by decide) (by decide) (λs=>by kernel_rfl) λ(k:Int)=>(qx5 k).mpr ?_
 simp only[decide_eq_true_eq,decide_eq_false_iff_not,true_and,and_true,eq_self,Int.toNat_natCast]
 intro _
 refine⟨λh=>by unfold q8d;rw[if_pos (.inl h)],λh=>⟨λh2=>by unfold q8d;rw[if_pos (.inr h2)],λh2=>⟨⟨by omega,by show k<15;omega⟩,q8d k,?_,rfl⟩⟩⟩
 obtain⟨j,rfl⟩:=Int.eq_ofNat_of_zero_le (show 0<=k by omega)
 obtain⟨i,rfl⟩:∃i,j=i+1:=⟨j- 1,by omega⟩
 have hi:i+1<(mkS []::kinds).length:=by show i+1<15;omega
 have e:q8d ((i+1:Nat):Int)=(mkS []::kinds)[i+1]:=by
  unfold q8d
  rw[if_neg (by omega),Int.toNat_natCast,Nat.add_sub_cancel,List.getD_eq_getElem?_getD,List.getElem?_eq_getElem (by simpa using hi)];rfl
 rw[e,Int.toNat_natCast]
 exact tx_sub (l:=mkS []::kinds) hi
theorem qmx{s:ByteArray} {l:List AT} {j:Nat} (h:j<l.length):findF s (l.drop j) j=if l[j].nm=s/\9<=l[j].k/\l[j].k<=11 then some j else findF s (l.drop (j+1)) (j+1):=by
 rw[List.drop_eq_getElem_cons h,findF]
theorem qke{l:List AT} {i:Nat} (h:i<l.length):∀(j:Nat) (v:Value),l[i].cells[j]? =some v->(q00 AT.cells l)[0+i*10+j]? =some v:=λj v hj=>by
 have hl:j<10:=(List.getElem?_eq_some_iff.mp hj).1
 rw[Nat.zero_add,q60 q3g l i h j hl];exact hj
theorem qky:q15 P 106 qsm:=by
 refine q0h mixed q1o (W:=wFind) Try.func106 (by kernel_rfl) (by decide) (by decide) (λs=>by kernel_rfl) λ⟨S,(e:Int),s⟩=>(findM_eq S e s).mpr ?_
 simp only[decide_eq_true_eq,decide_eq_false_iff_not,true_and,and_true,eq_self,Int.toNat_natCast]
 intro hl
 refine⟨⟨0,rfl,by omega,rfl⟩,?_⟩
 rintro j ⟨hj,ht⟩
 refine⟨λhlt=> ?_,λhge=> ?_⟩
 ·have hjl:j<S.length:=by omega
  have hd:=qmx (s:=s) hjl
  rw[ht]at hd
  refine⟨⟨by omega,by omega⟩,S[j].k,S[j].nm,S[j].al.1,S[j].al.2.1,S[j].al.2.2,S[j].it,S[j].sy.1,S[j].sy.2.1,S[j].sy.2.2,S[j].hd,S[j].df,S[j].sz,S[j].f.1,S[j].f.2.1,S[j].f.2.2,S[j].br.1,S[j].br.2.1,S[j].br.2.2,qke hjl,λh1=>⟨λh2=>⟨λh3=> ?_,λh3=>⟨by omega,j+1,by omega,⟨by omega,?_⟩,by omega⟩⟩,λh2=>⟨by omega,j+1,by omega,⟨by omega,?_⟩,by omega⟩⟩,λh1=>⟨by omega,j+1,by omega,⟨by omega,?_⟩,by omega⟩⟩
  ·rw[hd,if_pos ⟨h1,h2,h3⟩];exact⟨rfl,rfl⟩
  ·rw[hd,if_neg (λh=>h3 h.2.2)]
  ·rw[hd,if_neg (λh=>h2 h.2.1)]
  ·rw[hd,if_neg (λh=>h1 h.1)]
 ·rw[List.drop_of_length_le (by omega),findF]at ht
  rw[←ht];exact⟨rfl,rfl⟩
theorem tag_ok:q15 P 108 cTag:=by
 refine q0h mixed (q05 (q01 wordK_ok q06)) (W:=λ_=>{}) Try.func108 (by kernel_rfl) (by decide) (by decide) (λs=>by kernel_rfl) λ⟨S,(t:Int)⟩=>(tag_eq S t).mpr ?_
 simp only[decide_eq_true_eq,decide_eq_false_iff_not,Bool.not_eq_true',Bool.not_eq_false',true_and,and_true,eq_self,Int.toNat_natCast]
 intro hl
 refine⟨λh=>by unfold qm8;rw[if_pos (.inl h)],λh=>⟨λh2=>by unfold qm8;rw[if_pos (.inr h2)],λh2=> ?_⟩⟩
 obtain⟨j,rfl⟩:=Int.eq_ofNat_of_zero_le (show 0<=t by omega)
 have hj:j<S.length:=by omega
 rw[Int.toNat_natCast]
 have e1:qm8 S (j:Int)=if S[j].nm=mkS []then q8d S[j].k else S[j].nm:=by
  unfold qm8
  rw[if_neg (by omega),Int.toNat_natCast,List.getElem?_eq_getElem hj]
 have c1:∀(i:Nat) (v:Value),[Value.string S[j].nm][i]? =some v->(q00 AT.cells S)[0+j*10+1+i]? =some v:=λi v hi=>by
  cases i with
  |zero=>exact qke hj 1 v hi
  |succ i=>simp at hi
 refine⟨⟨by omega,by omega⟩,S[j].nm,c1,λh3=>⟨⟨by omega,by omega⟩,S[j].nm,c1,by rw[e1,if_neg h3]⟩,λh3=>⟨⟨by omega,by omega⟩,S[j].k,λi v hi=> ?_,S[j].k,rfl,by rw[e1,if_pos h3]⟩⟩
 cases i with
 |zero=>exact qke hj 0 v hi
 |succ i=>simp at hi
theorem qoy:q15 P 150 qii:=by
 refine q0h mixed q1o (W:=λ_=>{}) Try.func150 (by kernel_rfl) (by decide) (by decide) (λc=>by kernel_rfl) λ(c:Int)=>(quf c).mpr ?_
 rintro⟨h1,h2⟩
 obtain⟨n,rfl⟩:=Int.eq_ofNat_of_zero_le h1
 simp only[decide_eq_true_eq,decide_eq_false_iff_not,Int.toNat_natCast,and_true]
 repeat' first|intro _|apply And.intro
 all_goals (rw[Bool.eq_iff_iff];simp[isLt];omega)
theorem qxo:q15 P 151 qwb:=by
 refine q0h mixed q1o (W:=λ_=>{}) Try.func151 (by kernel_rfl) (by decide) (by decide) (λc=>by kernel_rfl) λ(c:Int)=>(digit_eq c).mpr ?_
 rintro⟨h1,h2⟩
 obtain⟨n,rfl⟩:=Int.eq_ofNat_of_zero_le h1
 simp only[decide_eq_true_eq,decide_eq_false_iff_not,Int.toNat_natCast,and_true]
 repeat' first|intro _|apply And.intro
 all_goals (rw[Bool.eq_iff_iff];simp[isDg];omega)
theorem ptA_at{s:ByteArray} {j:Nat} (h:j<s.size):ptA s (s.size- j) j=(ptC s j&&ptA s (s.size- (j+1)) (j+1)):=by
 rw[show s.size- j=s.size- (j+1)+1 by omega,ptA,if_pos h]
theorem qgv:q15 P 141 qmv:=by
 refine q0h mixed (q05 (q01 qoy (q01 qxo q06))) (W:=wPart) Try.func141 (by kernel_rfl) (by decide) (by decide) (λs=>by kernel_rfl) λ(s:ByteArray)=>(part_eq s).mpr ?_
 simp only[decide_eq_true_eq,decide_eq_false_iff_not,Bool.not_eq_true',Bool.not_eq_false',true_and,and_true,eq_self,Int.toNat_natCast]
 intro hs
 refine⟨⟨0,rfl,by omega,rfl⟩,?_⟩
 rintro j ⟨hj,ht⟩
 have hb:=q6w s j
 refine⟨λhlt=> ?_,λhge=> ?_⟩
 ·have hd:=ptA_at (s:=s) (j:=j) (by omega)
  rw[ht]at hd
  refine⟨⟨by omega,by omega⟩,⟨by omega,by omega⟩,λh1=>⟨λh2=> ?_,λh2=>⟨⟨by omega,by omega⟩,⟨by omega,by omega⟩,λh3=> ?_,λh3=>⟨by omega,j+1,by omega,⟨by omega,?_⟩,by omega⟩⟩⟩,λh1=>⟨by omega,j+1,by omega,⟨by omega,?_⟩,by omega⟩⟩
  ·unfold q5g;rw[hd];unfold ptC;rw[h1,decide_eq_false (by omega)];rfl
  ·unfold q5g;rw[hd];unfold ptC;rw[h1,h3,Bool.and_false];rfl
  ·rw[hd];unfold ptC;rw[h1,h3,decide_eq_true (by omega)];rfl
  ·rw[hd];unfold ptC;rw[h1];rfl
 ·rw[show s.size- j=0 by omega,ptA]at ht
  unfold q5g;rw[←ht]
  exact q11 (by omega)
theorem ptsG_at{s q:ByteArray} {j:Nat} (h:j<s.size+1):qwf s (s.size+1- j) j q=if j<s.size/\bat s j≠46 then qwf s (s.size+1- (j+1)) (j+1) (q++s.extract j (j+1))else if q5g q=true then qwf s (s.size+1- (j+1)) (j+1) (mkS [])else false:=by
 rw[show s.size+1- j=s.size+1- (j+1)+1 by omega,qwf]
theorem qxc:q15 P 140 ql4:=by
 refine q0h mixed (q05 (q01 qgv q06)) (W:=wParts) Try.func140 (by kernel_rfl) (by decide) (by decide) (λs=>by kernel_rfl) λ(s:ByteArray)=>(qxk s).mpr ?_
 simp only[decide_eq_true_eq,decide_eq_false_iff_not,Bool.not_eq_true',Bool.not_eq_false',true_and,and_true,eq_self,Int.toNat_natCast]
 intro hs
 refine⟨⟨⟨0,mkS []⟩,rfl,rfl,by omega,Nat.le_refl _,rfl⟩,?_⟩
 rintro⟨j,q⟩ ⟨hj,hq,ht⟩
 simp only at hj hq ht⊢
 have t1:((j:Int)+1).toNat=j+1:=by omega
 refine⟨λhle=> ?_,λhge=> ?_⟩
 ·have hd:=ptsG_at (s:=s) (q:=q) (j:=j) (by omega)
  rw[ht]at hd
  rw[t1]
  refine⟨λhlt=>⟨⟨by omega,by omega⟩,λh46=>⟨by omega,⟨by omega,by omega,by omega⟩,?_,by omega,⟨j+1,q++s.extract j (j+1)⟩,rfl,rfl,⟨by show j+1<=_;omega,?_,?_⟩,by show s.size+1- (j+1)<_;omega⟩,λh46=>⟨by omega,λhp=> ?_,λhp=>⟨by omega,⟨j+1,mkS []⟩,rfl,rfl,⟨by show j+1<=_;omega,Nat.zero_le _,?_⟩,by show s.size+1- (j+1)<_;omega⟩⟩⟩,λhge=>⟨by omega,λhp=> ?_,λhp=>⟨by omega,⟨j+1,mkS []⟩,rfl,rfl,⟨by show j+1<=_;omega,Nat.zero_le _,?_⟩,by show s.size+1- (j+1)<_;omega⟩⟩⟩
  ·rw[ByteArray.size_extract];omega
  ·show(q++s.extract j (j+1)).size<=j+1
   rw[ByteArray.size_append,ByteArray.size_extract];omega
  ·rw[hd,if_pos ⟨by omega,by omega⟩]
  ·rw[hd,if_neg (by omega),hp];rfl
  ·rw[hd,if_neg (by omega),if_pos hp]
  ·rw[hd,if_neg (by omega),hp];rfl
  ·rw[hd,if_neg (by omega),if_pos hp]
 ·rw[show s.size+1- j=0 by omega,qwf]at ht
  exact ht.symm
theorem qpo:q15 P 111 qe7:=by
 refine q0h mixed q1o (W:=qp3) Try.func111 (by kernel_rfl) (by decide) (by decide) (λs=>by kernel_rfl) λ(s:ByteArray)=>(qvz s).mpr ?_
 simp only[decide_eq_true_eq,decide_eq_false_iff_not,Bool.not_eq_true',Bool.not_eq_false',true_and,and_true,eq_self,Int.toNat_natCast]
 intro hs
 refine⟨by omega,⟨s.size,rfl,Nat.le_refl _,rfl⟩,?_⟩
 rintro j ⟨hj,ht⟩
 refine⟨λh0=> ?_,λh0=> ?_⟩
 ·obtain⟨i,rfl⟩:∃i,j=i+1:=⟨j- 1,by omega⟩
  have e:((i+1:Nat):Int)- 1=(i:Int):=by omega
  rw[qcn]at ht
  rw[e,Int.toNat_natCast]
  refine⟨⟨by omega,by omega⟩,λh=>⟨⟨by omega,by omega⟩,?_⟩,λh=>⟨by omega,i,by omega,⟨by omega,?_⟩,by omega⟩⟩
  ·rw[←ht,if_pos (by omega)]
  ·rw[←ht,if_neg (by omega)]
 ·obtain rfl:j=0:=by omega
  rw[qcn]at ht;exact ht.symm
theorem qup:q15 P 107 cJoin:=by
 refine q0h mixed q1o (W:=λ_=>{}) Try.func107 (by kernel_rfl) (by decide) (by decide) (λs=>by kernel_rfl) λ⟨a,b⟩=>(join_eq a b).mpr ?_
 simp only[decide_eq_true_eq,decide_eq_false_iff_not,Bool.not_eq_true',Bool.not_eq_false',true_and,and_true,eq_self,Int.toNat_natCast]
 rintro⟨ha,hb⟩
 have z:(mkS [46]).size=1:=rfl
 unfold q5i
 refine⟨λh=>⟨by omega,if_pos (.inl h)⟩,λh=>⟨λh2=>⟨by omega,if_pos (.inr h2)⟩,λh2=>⟨by omega,by rw[ByteArray.size_append];omega,if_neg (by simp[h,h2])⟩⟩⟩
theorem dotF_at{s:ByteArray} {j:Nat} (h:j<s.size):dotF s (s.size- j) j=(decide (bat s j=46)||dotF s (s.size- (j+1)) (j+1)):=by
 rw[show s.size- j=s.size- (j+1)+1 by omega,dotF,if_pos h]
theorem qo4{a b:ByteArray}:(q5i a b).size<=a.size+b.size+1:=by
 have z:(mkS [46]).size=1:=rfl
 unfold q5i
 split
 ·rw[ByteArray.size_append];omega
 ·rw[ByteArray.size_append,ByteArray.size_append];omega
theorem q9c{a b:ByteArray}:(q2o a b).size<=a.size+b.size+1:=by
 unfold q2o
 split
 ·omega
 ·have:=qo4 (a:=b) (b:=a);omega
theorem qut:q15 P 110 qcj:=by
 refine q0h mixed (q05 (q01 qup (q01 qxc (q01 q2b q06)))) (W:=wWhole) Try.func110 (by kernel_rfl) (by decide) (by decide) (λs=>by kernel_rfl) λ⟨S,(e:Int),a,b⟩=>(qs1 S e a b).mpr ?_
 simp only[decide_eq_true_eq,decide_eq_false_iff_not,Bool.not_eq_true',Bool.not_eq_false',true_and,and_true,eq_self,Int.toNat_natCast]
 rintro⟨ha,hb⟩
 have hw:=q9c (a:=a) (b:=b)
 refine⟨⟨by omega,by omega⟩,⟨⟨0,q5i b a⟩,rfl,rfl,Nat.zero_le _,rfl⟩,?_⟩
 rintro⟨j,q⟩ ⟨hj,ht⟩
 simp only at hj ht⊢
 refine⟨λhlt=> ?_,λhge=> ?_⟩
 ·have hd:=dotF_at (s:=a) (j:=j) (by omega)
  rw[hd]at ht
  refine⟨⟨by omega,by omega⟩,λh=>⟨by omega,⟨j+1,a⟩,rfl,by show((j+1:Nat):Int)=_;omega,⟨by show j+1<=_;omega,?_⟩,by show a.size- (j+1)<_;omega⟩,λh=>⟨by omega,⟨j+1,q⟩,rfl,by show((j+1:Nat):Int)=_;omega,⟨by show j+1<=_;omega,?_⟩,by show a.size- (j+1)<_;omega⟩⟩
  ·rw[decide_eq_true (by omega),Bool.true_or,if_pos rfl]at ht
   rw[←ht];exact ite_self _
  ·rw[decide_eq_false (by omega),Bool.false_or]at ht
   exact ht
 ·rw[show a.size- j=0 by omega,dotF,if_neg (by simp)]at ht
  rw[ht]
  unfold whE
  refine⟨λh=>⟨S,rfl,rfl,rfl,rfl,if_pos (.inl h),rfl⟩,λh=>⟨by omega,λh2=>⟨S,rfl,rfl,rfl,rfl,if_pos (.inr h2),rfl⟩,λh2=>⟨rfl,if_neg (by rw[h2];simp[h])⟩⟩⟩
theorem q65:q15 P 75 qb6:=by
 refine q0h mixed q1o (W:=wGet6) Try.func75 (by kernel_rfl) (by decide) (by decide) (λs=>by kernel_rfl) λ⟨g,s⟩=>(get6_eq g s).mpr ?_
 rintro hw ⟨p,_,hp⟩
 rw[GJ.wf_eq]at hw
 obtain⟨_,hl,hnl,_⟩:=hw
 have gx:=λq (hq:g.ok q)=>(by rw[GJ.ok_eq]at hq;exact hq.2.1:slP txV g.x g.nm q)
 have gy:=λq (hq:g.ok q)=>(by rw[GJ.ok_eq]at hq;exact hq.1:slP GJ.cells g.y g.l q)
 have xl:g.x.2.1=g.nm.length:=(gx p hp).1
 have yl:g.y.2.1=g.l.length:=(gy p hp).1
 simp only[decide_eq_true_eq,decide_eq_false_iff_not,Bool.not_eq_true',Bool.not_eq_false',true_and,and_true,eq_self,imp_self,implies_true,Int.toNat_natCast,xl,yl]
 refine⟨⟨0,rfl,by omega,rfl⟩,?_⟩
 rintro j ⟨hj,ht⟩
 have none0:q0z s g=none->(((q0z s g).getD zJ).k=0/\((q0z s g).getD zJ).n=0/\((q0z s g).getD zJ).s=mkS []/\((q0z s g).getD zJ).y.1=noA/\((q0z s g).getD zJ).y.2.1=0/\((q0z s g).getD zJ).y.2.2=0/\((q0z s g).getD zJ).x.1=noA/\((q0z s g).getD zJ).x.2.1=0/\((q0z s g).getD zJ).x.2.2=0/\(q0z s g).isSome=false):=λh=>by
  rw[h];exact⟨rfl,rfl,rfl,rfl,rfl,rfl,rfl,rfl,rfl,rfl⟩
 have endd:g.nm.length<=j->q0z s g=none:=λh=>by
  rw[←ht,List.drop_of_length_le h]
  split
  ·rw[q8c];intros;simp at*
  ·rfl
 refine⟨λh6=>⟨λhlt=>⟨λhlt2=> ?_,λh=>by omega⟩,λh=>none0 (endd (by omega))⟩,λh6=>none0 (by rw[←ht,if_neg h6])⟩
 have h1:j<g.nm.length:=by omega
 have h2:j<g.l.length:=by omega
 have hd:=qg3 (s:=s) h1 h2
 rw[if_pos h6]at ht
 rw[ht]at hd
 refine⟨⟨by omega,by omega⟩,(qks (gx p hp) h1).1,g.nm[j],λq hq=>(qks (gx q hq) h1).2,λhs=> ?_,λhs=>⟨by omega,j+1,by omega,⟨by omega,?_⟩,by omega⟩⟩
 ·rw[if_pos hs]at hd
  refine⟨⟨by omega,by omega⟩,(qz7 (gy p hp) h2).1,g.l[j].k,g.l[j].n,g.l[j].s,g.l[j].y.1,g.l[j].y.2.1,g.l[j].y.2.2,g.l[j].x.1,g.l[j].x.2.1,g.l[j].x.2.2,λq hq=>(qz7 (gy q hq) h2).2,?_⟩
  rw[hd]
  exact⟨rfl,rfl,rfl,rfl,rfl,rfl,rfl,rfl,rfl,rfl⟩
 ·rw[if_neg hs]at hd
  rw[if_pos h6]
  exact hd.symm
theorem qcl:q15 P 109 qfd:=by
  refine q0h mixed (q05 (q01 q65 (q01 q2b q06))) (W:=λ_=>{}) Try.func109 (by kernel_rfl) (by decide) (by decide) (λs=>by kernel_rfl) λ⟨S,(e:Int),g,s,b⟩=>(wordM_eq S e g s b).mpr ?_
  rintro hw ⟨p,_,hp⟩
  simp only[decide_eq_true_eq,decide_eq_false_iff_not,Bool.not_eq_true',Bool.not_eq_false',true_and,and_true,eq_self,imp_self,implies_true,Int.toNat_natCast]
  refine⟨⟨g,s⟩,rfl,rfl,rfl,rfl,rfl,rfl,rfl,rfl,rfl,rfl,hw,λq hq=>hq,?_⟩
  simp only
  unfold woR
  cases hk:q0z s g with
  | none=>
    refine⟨λ_=>⟨λhb=> ?_,λhb=>⟨λ_=>⟨S,rfl,rfl,?_,rfl,?_,rfl⟩,λh=>absurd h (by simp)⟩⟩,λh=>absurd h (by simp)⟩
    · simp only[hb];refine⟨?_,?_⟩<;>first|rfl|trivial
    · simp only[hb];rfl
    · simp only[hb];rfl
  | some t=>
    refine⟨λh=>absurd h (by simp),λ_=>⟨λh=>absurd h (by simp),λ_=>⟨λh4=>⟨S,rfl,rfl,?_,rfl,?_,rfl⟩,λh4=> ?_⟩⟩⟩
    · have h4:¬t.k=4:=h4
      simp only[if_neg h4]
    · have h4:¬t.k=4:=h4
      simp only[if_neg h4]
    · have h4:t.k=4:=h4
      simp only[if_pos h4];refine⟨?_,?_⟩<;>first|rfl|trivial
def q87:List GJ->Int->List ByteArray->List ByteArray×Int
 | [],e,acc=>(acc,e)
 |g::l,e,acc=>if e=0 then q87 l (if g.k=4 then 0 else 2) (acc++[g.s])else(acc,e)
def tyE(g:GJ) (s:ByteArray) (e:Int):Int:=if((q0z s g).getD zJ).k=5 then e else faE e 2
def q4f(g:GJ) (s:ByteArray) (e:Int):List ByteArray×Bool×Int:=if(q0z s g).isSome=true then((q87 ((q0z s g).getD zJ).l (tyE g s e) []).1,true,(q87 ((q0z s g).getD zJ).l (tyE g s e) []).2)else([],false,e)
def txsM(l:List ByteArray):List SV->PF
 | [x]=>⟨true,slP txV x l,λ_ _ h e=>q0i h e⟩
 |_=>{}
def qc4:Ct where
 σ:=List AT×Int×GJ×ByteArray
 args:=λ⟨S,e,g,s⟩=>[.ptr 1 0,g.av, .sv (.string s)]
 h:=λ⟨S,e,g,s⟩=>mkO S e 2 3
 m:=4
 pre:=λ⟨S,e,g,s⟩=>g.wf
 mem:=λ⟨S,e,g,s⟩=>gM g
 r:=λ⟨S,e,g,s⟩=> .tup [.tsl 4, .sv (.bool (q4f g s e).2.1)]
 h':=λ⟨S,e,g,s⟩=>mkO S (q4f g s e).2.2 2 3
 m':=5
 g:=λ⟨S,e,g,s⟩=>some {β:=Unit,ks:=[4],pre:=λ_=>True,mem:=λ_ xs=>txsM (q4f g s e).1 xs}
def mkC(S:List AT) (e:Int) (r k:Nat):Nat×AO:=(1, .cells 98 (some 0) false [.ssl r 0 S.length 10 k, .sv (.int .i64 e)])
def wTexts:qc4.σ->WayF:=λ⟨S,e,g,s⟩=>{
 cut:=λi _ _=>match i with
  |6=>some {σ:=Unit,t:=λ_=>[],h:=λ_=>[mkC S (tyE g s e) 2 3],more:=0,μ:=λ_=>0,keep:=[0,6,7,8]}
  |_=>none
 ann:=λ_ _ _=>some {σ:=Nat×Int×List ByteArray,pre:=λ⟨j,e',acc⟩=>j<=((q0z s g).getD zJ).l.length/\acc.length<=j/\q87 (((q0z s g).getD zJ).l.drop j) e' acc=q87 ((q0z s g).getD zJ).l (tyE g s e) [],t:=λ⟨j,e',acc⟩=>[(11, .sv (.int .i64 (j:Int))),(10, .ssl 7 0 acc.length 1 8)],h:=λ⟨j,e',acc⟩=>[(7, .row 9 0 (q00 txV acc)),mkC S e' 2 3],more:=2,μ:=λ⟨j,e',acc⟩=>((q0z s g).getD zJ).l.length- j,keep:=[0,6,7,8]}
 pubE:=[6]}
def q4k(n:Nat) (a:AT):Prop:=(1<=a.k/\a.k<=14)/\(a.k=12\/a.k=13->0<=a.it/\a.it<n)/\(∀b∈a.brs,0<=b/\b<n)/\(a.k=14->a.brs≠[])/\(∀f∈a.fs,(0<=f.ty/\f.ty<n)/\f.df.wf)/\(a.k=10->a.sys≠[])/\(a.k=11->0<=a.sz/\a.sz<=5000)/\(a.fs.length<=30/\a.brs.length<=30/\a.sys.length<=30)
def grown(S:List AT) (e:Int) (T:List AT) (e':Int):Prop:=(S++T).length<=60/\(e'=0->e=0/\∀a∈T,q4k (S++T).length a)
def toM(T:List AT):PF:=⟨true,λp=>∀a∈T,a.ok p,λ_ _ h e a ha=>AT.ok_mono h (e a ha)⟩
abbrev TmB:=List AT×Int×Int
def qjl:CtR where
 σ:=List AT×Int×ByteArray×ByteArray
 args:=λ⟨S,e,s,sp⟩=>[.ptr 1 0, .sv (.string s), .sv (.string sp)]
 h:=λ⟨S,e,s,sp⟩=>mkO S e 2 3
 m:=4
 pre:=λ⟨S,e,s,sp⟩=>S.length<=60/\s.size<100000/\sp.size<100000
 β:=λ_=>TmB
 post:=λ⟨S,e,s,sp⟩ ⟨T,e',r⟩=>grown S e T e'/\(e'=0->0<=r/\r<(S++T).length)
 pm:=λ_ ⟨T,e',r⟩=>toM T
 r:=λ_ ⟨T,e',r⟩=> .sv (.int .i64 r)
 h':=λ⟨S,e,s,sp⟩ ⟨T,e',r⟩=>mkO (S++T) e' 4 5
 m':=6
def wTextM:qjl.σ->WayF:=λ⟨S,e,s,sp⟩=>{
 cut:=λi _ _=>match i with
  |4=>some {σ:=Unit,t:=λ_=>[],h:=λ_=>[],more:=0,μ:=λ_=>0,keep:=[0,1,2,6,7]}
  |_=>none
 ann:=λ_ _ _=>some {σ:=Nat×Bool,pre:=λ⟨j,d⟩=>j<=s.size,t:=λ⟨j,d⟩=>[(9, .sv (.int .i64 (j:Int))),(8, .sv (.bool d))],h:=λ_=>[],more:=0,μ:=λ⟨j,d⟩=>s.size- j,keep:=[0,1,2,6,7]}}
noncomputable section
variable (x0:GJ×ByteArray) (x1:List AT) (x2:Int) (x3:GJ) (x4:ByteArray) (x5:Nat×Int×List ByteArray) (x6:Prop) (x7:Nat×Int×List ByteArray) (x8:Nat->Option Obj) (x9:Nat) (x10:Option Addr)
 abbrev qmm:=q00 AT.cells x1=q00 AT.cells x1
 abbrev q8f:=Option.getD (q0z x0.2 x0.1) zJ
 abbrev zbm5:=GJ.k (q8f x0)=GJ.k (q8f x0)/\GJ.n (q8f x0)=GJ.n (q8f x0)/\GJ.s (q8f x0)=GJ.s (q8f x0)/\(GJ.y (q8f x0)).1=(GJ.y (q8f x0)).1/\(GJ.y (q8f x0)).2.1=(GJ.y (q8f x0)).2.1/\(GJ.y (q8f x0)).2.2=(GJ.y (q8f x0)).2.2/\(GJ.x (q8f x0)).1=(GJ.x (q8f x0)).1/\(GJ.x (q8f x0)).2.1=(GJ.x (q8f x0)).2.1/\(GJ.x (q8f x0)).2.2=(GJ.x (q8f x0)).2.2/\(∀(i0:Pub),True/\GJ.ok x3 i0->True/\GJ.ok x3 i0)/\x6
 abbrev qli:=GJ.l (Option.getD (q0z x4 x3) zJ)
 abbrev zbm7:=x5.1<=List.length (qli x3 x4)/\List.length x5.2.2<=x5.1/\q87 (List.drop x5.1 (qli x3 x4)) x5.2.1 x5.2.2=q87 (qli x3 x4) (tyE x3 x4 x2) []
 abbrev qxn:=(↑x5.1:Int)<(↑(GJ.y (q8f x0)).2.1:Int)
 abbrev qzx:=(0<=(↑x5.1:Int)/\qxn x0 x5)/\(GJ.y (q8f x0)).1≠noA/\x6
 abbrev zbm10:=(∀(i0:Pub),True/\GJ.ok x3 i0->q02 i0 (Addr.add (adr (GJ.y (q8f x0)).1 (Int.toNat (↑x5.1:Int)*5)) 2) [Value.string x4])/\List.length (q00 txV x5.2.2)=List.length x5.2.2*1/\(List.length x5.2.2+nat_lit 1)*16<=140737488355328/\((-9223372036854775808:Int)<=(↑x5.1:Int)+1/\(↑x5.1:Int)+1<=9223372036854775807)/\x6
 abbrev zbm15:=(↑x5.1:Int)=(↑x7.1:Int)+1/\List.length x5.2.2=List.length x7.2.2+nat_lit 1/\x6
 abbrev zbm12:=zbm5 x0 x3 ((zbm7 x2 x3 x4 x5)/\List.length (qli x3 x4)- x5.1<List.length (qli x3 x4)- x7.1/\True)
 abbrev zbm6:=qzx x0 x5 (∃(i0:ByteArray),zbm10 x0 x3 i0 x5 (∃(i2:Nat×Int×List ByteArray),zbm15 i2 (List.length x1=List.length x1/\i2.2.1=x5.2.1/\q00 txV i2.2.2=q00 txV x5.2.2++[Value.string i0]/\qmm x1/\zbm12 x0 x2 x3 x4 i2 x5) x5))
 abbrev zbm4:=qzx x0 x5 (∃(i0:Int),(∀(i1:Pub),True/\GJ.ok x3 i1->q02 i1 (Addr.add (adr (GJ.y (q8f x0)).1 (Int.toNat (↑x5.1:Int)*5)) 0) [Value.int IntKind.i64 i0])/\((!decide (i0=4))=true->∃(i2:List AT),(2:Int)=2/\List.length i2=List.length x1/\x5.2.1=x5.2.1/\q00 AT.cells i2=q00 AT.cells x1/\True/\qzx x0 x5 (∃(i3:ByteArray),zbm10 x0 x3 i3 x5 (∃(i5:Nat×Int×List ByteArray),zbm15 i5 (List.length x1=List.length i2/\i5.2.1=faE x5.2.1 2/\q00 txV i5.2.2=q00 txV x5.2.2++[Value.string i3]/\q00 AT.cells x1=q00 AT.cells i2/\zbm12 x0 x2 x3 x4 i5 x5) x5)))/\((!decide (i0=4))=false->zbm6 x0 x1 x2 x3 x4 x5))
 abbrev zbm16:=(True/\GJ.ok x3 x8)/\List.length x5.2.2<=x9/\q1l x8 x10 (List.take (List.length x5.2.2*nat_lit 1) (q00 txV x5.2.2))
 abbrev zbm8:=∀(i0 i1 i2:Nat) (i3:Option Addr) (i4 i5:Nat),(∃(i6:Pub),zbm16 x3 x5 i6 i5 i3)->∃(i7:Unit),i3=i3/\List.length x5.2.2=List.length x5.2.2/\i5=i5/\(q4f x3 x4 x2).2.1=true/\List.length x1=List.length x1/\(q4f x3 x4 x2).2.2=x5.2.1/\qmm x1/\Pl i3/\True/\(∀(i8:Pub),zbm16 x3 x5 i8 i5 i3->slP txV (i3,List.length x5.2.2,i5) (q4f x3 x4 x2).1 i8)/\True
 abbrev zbm3:=(decide (x5.2.1=0)=true->zbm4 x0 x1 x2 x3 x4 x5)/\(decide (x5.2.1=0)=false->zbm8 x1 x2 x3 x4 x5)
 abbrev zbm2:=(decide (qxn x0 x5)=true->zbm3 x0 x1 x2 x3 x4 x5)/\(decide (qxn x0 x5)=false->zbm8 x1 x2 x3 x4 x5)
 abbrev zbm1:=(∃(i0:Nat×Int×List ByteArray),(↑i0.1:Int)=0/\List.length i0.2.2=0/\List.length x1=List.length x1/\i0.2.1=tyE x3 x4 x2/\qmm x1/\zbm5 x0 x3 ((zbm7 x2 x3 x4 i0)/\True))/\∀(i2:Nat×Int×List ByteArray),zbm7 x2 x3 x4 i2->zbm2 x0 x1 x2 x3 x4 i2
 abbrev zbm0:=(((!decide (GJ.k (q8f x0)=5))=true->∃(i0:List AT),(2:Int)=2/\List.length i0=List.length x1/\x2=x2/\q00 AT.cells i0=q00 AT.cells x1/\True/\∃(i1:Unit),List.length x1=List.length i0/\tyE x3 x4 x2=faE x2 2/\q00 AT.cells x1=q00 AT.cells i0/\zbm5 x0 x3 (True/\True))/\((!decide (GJ.k (q8f x0)=5))=false->∃(i3:Unit),List.length x1=List.length x1/\tyE x3 x4 x2=x2/\qmm x1/\zbm5 x0 x3 (True/\True)))/\∀(i5:Unit),True->zbm1 x0 x1 x2 x3 x4
end
theorem qug(S:List AT) (e:Int) (g:GJ) (s:ByteArray):q2h P (q0r [(75,qb6),(72,q4d)]) Try.f112 qc4 (wTexts) ⟨S,e,g,s⟩=(GJ.wf g->(∃(p:Pub),True/\GJ.ok g p)->∃(s_1:GJ×ByteArray),GJ.k s_1.1=GJ.k g/\GJ.n s_1.1=GJ.n g/\GJ.s s_1.1=GJ.s g/\(GJ.y s_1.1).1=(GJ.y g).1/\(GJ.y s_1.1).2.1=(GJ.y g).2.1/\(GJ.y s_1.1).2.2=(GJ.y g).2.2/\(GJ.x s_1.1).1=(GJ.x g).1/\(GJ.x s_1.1).2.1=(GJ.x g).2.1/\(GJ.x s_1.1).2.2=(GJ.x g).2.2/\s_1.2=s/\GJ.wf s_1.1/\(∀(p:Pub),True/\GJ.ok g p->GJ.ok s_1.1 p)/\((!Option.isSome (q0z s_1.2 s_1.1))=true->∃(b:Unit),noA=noA/\(0:Nat)=0/\(0:Nat)=0/\(q4f g s e).2.1=false/\List.length S=List.length S/\(q4f g s e).2.2=e/\qmm S/\Pl noA/\True/\(∀(p:Pub),True/\GJ.ok g p->slP txV (noA,(0:Nat),(0:Nat)) (q4f g s e).1 p)/\True)/\((!Option.isSome (q0z s_1.2 s_1.1))=false->zbm0 s_1 S e g s)):=by kernel_rfl
def qzz(S:List AT) (e:Int) (g:GJ) (s:ByteArray):=Eq.trans (qug S e g s) (by delta qmm q8f zbm5 qli zbm7 qxn qzx zbm10 zbm15 zbm12 zbm6 zbm4 zbm16 zbm8 zbm3 zbm2 zbm1 zbm0;exact rfl)
noncomputable section
variable (x0:ByteArray) (x1:List AT) (x2:Int) (x3:ByteArray) (x4:Nat×Bool) (x5:TmB) (x6:List AT) (x7:Prop) (x8:Nat×Bool)
 abbrev zbn6:=(grown x1 x2 x5.1 x5.2.1/\(x5.2.1=0->0<=x5.2.2/\x5.2.2<(↑(List.length (x1++x5.1)):Int)))/\(∀(i0:Pub),True->∀(i1:AT),i1∈x5.1->AT.ok i1 i0)/\True
 abbrev qlr:=List.length x1=List.length x1/\x2=x2/\q00 AT.cells x1=q00 AT.cells x1/\x7
 abbrev zbn5:=(decide (q0x x0<=8)=true->∃(i0:List AT×Int×AT),AT.k i0.2.2=q0x x0/\AT.nm i0.2.2=mkS []/\(AT.al i0.2.2).1=noA/\(AT.al i0.2.2).2.1=0/\(AT.al i0.2.2).2.2=0/\AT.it i0.2.2=0/\(AT.sy i0.2.2).1=noA/\(AT.sy i0.2.2).2.1=0/\(AT.sy i0.2.2).2.2=0/\AT.hd i0.2.2=false/\AT.df i0.2.2=mkS []/\AT.sz i0.2.2=0/\(AT.f i0.2.2).1=noA/\(AT.f i0.2.2).2.1=0/\(AT.f i0.2.2).2.2=0/\(AT.br i0.2.2).1=noA/\(AT.br i0.2.2).2.1=0/\(AT.br i0.2.2).2.2=0/\List.length i0.1=List.length x1/\i0.2.1=x2/\q00 AT.cells i0.1=q00 AT.cells x1/\True/\∃(i1:TmB),i1.2.2=adR i0.1/\List.length (x1++i1.1)=List.length (adS i0.1 i0.2.2)/\i1.2.1=adE i0.1 i0.2.1/\q00 AT.cells (x1++i1.1)=q00 AT.cells (adS i0.1 i0.2.2)/\zbn6 x1 x2 i1)/\(decide (q0x x0<=8)=false->∃(i4:Unit),x0=x0/\q0x x0=q0x x0/\x3=x3/\qlr x1 x2 (True/\True))
 abbrev zbn13:=((-9223372036854775808:Int)<=(↑x4.1:Int)+1/\(↑x4.1:Int)+1<=9223372036854775807)
 abbrev zbn15:=x4.1<=ByteArray.size x0/\ByteArray.size x0- x4.1<ByteArray.size x0- x8.1/\True
 abbrev zbn10:=zbn13 x4/\∃(i0:Nat×Bool),x0=x0/\q0x x0=q0x x0/\(↑i0.1:Int)=(↑x4.1:Int)+1/\x3=x3/\i0.2=true/\qlr x1 x2 (zbn15 x0 i0 x4)
 abbrev zbn9:=(0<=(↑x4.1:Int)/\(↑x4.1:Int)<(↑(ByteArray.size x0):Int))/\zbn13 x4/\∃(i0:Nat×Bool),x0=x0/\q0x x0=q0x x0/\(↑i0.1:Int)=(↑x4.1:Int)+1/\x3=x3/\i0.2=decide ((↑(bat x0 (Int.toNat (↑x4.1:Int))):Int)=46)/\qlr x1 x2 (zbn15 x0 i0 x4)
 abbrev zbn7:=(x4.2=true->zbn10 x0 x1 x2 x3 x4)/\(x4.2=false->zbn9 x0 x1 x2 x3 x4)
 abbrev qt9:=List.length x1=List.length x6/\x2=x2/\q00 AT.cells x1=q00 AT.cells x6/\x7
 abbrev zbn14:=List.length (x1++x5.1)=List.length x6/\x5.2.1=x2/\q00 AT.cells (x1++x5.1)=q00 AT.cells x6/\zbn6 x1 x2 x5
 abbrev zbn8:=List.length x1<1000/\((!Option.isSome (findF x0 x1 0))=true->∃(i0:List AT),(4:Int)=4/\qt9 i0 x2 x1 (True/\∃(i1:TmB),i1.2.2=0/\List.length (x6++i1.1)=List.length i0/\i1.2.1=faE x2 4/\q00 AT.cells (x6++i1.1)=q00 AT.cells i0/\zbn6 x6 x2 i1))/\((!Option.isSome (findF x0 x1 0))=false->∃(i2:TmB),i2.2.2=fnI (findF x0 x1 0)/\zbn14 x6 x2 i2 x1)
 abbrev zbn4:=x0=x0/\x3=x3/\(ByteArray.size x0<1000000/\ByteArray.size x3<1000000)/\∃(i0:List AT),q5i x0 x3=q5i x0 x3/\qt9 i0 x2 x1 (List.length i0<1000/\(Option.isSome (findF (q5i x0 x3) i0 0)=true->∃(i1:TmB),i1.2.2=fnI (findF (q5i x0 x3) i0 0)/\zbn14 x1 x2 i1 i0)/\(Option.isSome (findF (q5i x0 x3) i0 0)=false->∃(i4:List AT),x3=x3/\qt9 i4 x2 i0 (zbn8 x3 i4 x2 x1)))
 abbrev zbn3:=((!x4.2)=true->zbn4 x0 x1 x2 x3)/\((!x4.2)=false->∃(i12:List AT),x3=x3/\qt9 i12 x2 x1 (zbn8 x3 i12 x2 x1))
 abbrev zbn2:=(decide ((↑x4.1:Int)<(↑(ByteArray.size x0):Int))=true->zbn7 x0 x1 x2 x3 x4)/\(decide ((↑x4.1:Int)<(↑(ByteArray.size x0):Int))=false->zbn3 x3 x1 x2 x0 x4)
 abbrev zbn1:=(∃(i0:Nat×Bool),x0=x0/\q0x x0=q0x x0/\(↑i0.1:Int)=0/\x3=x3/\i0.2=false/\qlr x1 x2 (i0.1<=ByteArray.size x0/\True))/\∀(i1:Nat×Bool),i1.1<=ByteArray.size x0->zbn2 x0 x1 x2 x3 i1
 abbrev zbn0:=x0=x0/\True/\((decide (1<=q0x x0)=true->zbn5 x0 x1 x2 x3)/\(decide (1<=q0x x0)=false->∃(i5:Unit),x0=x0/\q0x x0=q0x x0/\x3=x3/\qlr x1 x2 (True/\True)))/\∀(i6:Unit),True->zbn1 x0 x1 x2 x3
end
theorem qtr(S:List AT) (e:Int) (s sp:ByteArray):q68 P (q0r [(77,qr4),(78,cAdd),(107,cJoin),(106,qsm),(72,q4d)]) (q1s []) Try.f73 qjl (wTextM) ⟨S,e,s,sp⟩=(List.length S<=60/\ByteArray.size s<100000/\ByteArray.size sp<100000->zbn0 s S e sp):=by kernel_rfl
def textM_eq(S:List AT) (e:Int) (s sp:ByteArray):=Eq.trans (qtr S e s sp) (by delta zbn6 qlr zbn5 zbn13 zbn15 zbn10 zbn9 zbn7 qt9 zbn14 zbn8 zbn4 zbn3 zbn2 zbn1 zbn0;exact rfl)
end
end Go.Proofs.Ytpanaicglidfjaa.Wd
