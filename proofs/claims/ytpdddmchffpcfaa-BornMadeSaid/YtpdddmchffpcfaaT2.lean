/-
  What the functions do: contracts, and their questions answered. No condition but what its theorems ask.
-/
import Derived.Test.YtpdddmchffpcfaaT1
import Derived.Lib.Repeat
import Derived.Test.YtpdddmchffpcfaaSh
namespace Go.Proofs.Ytpdddmchffpcfaa.Wd
open Go.Proofs.Ytpdddmchffpcfaa.Eng Go.Proofs.Ytpdddmchffpcfaa.Sen Go.RowKit
set_option linter.defProp false
set_option linter.unusedVariables false
set_option linter.unusedSimpArgs false
set_option maxRecDepth 1000000
open Go.Value (int string slice bool)
open Go.IntKind (i64 u64 u8 u32 i32)
open _root_.List (length take drop)
open _root_.ByteArray (size)
open _root_.Int (toNat)
noncomputable section
section
def z11:∀l:List Int,z00 inV l=l.map (Value.int .i64)
 | []=>rfl
 |x::l=>by rw[z00,z11 l];rfl
def zfr(l:List Int):(z00 inV l).map unI=l:=by
 rw[z11,List.map_map]
 conv=>rhs;rw[←List.map_id l]
 rfl
variable {l:List Int} {i:Nat}
def z4w(h:i<l.length):(z00 inV l)[i]? =some (.int .i64 (l.getD i 0)):=by
 rw[z11,List.getElem?_map,List.getElem?_eq_getElem h,List.getD_eq_getElem?_getD,List.getElem?_eq_getElem h];rfl
def z27(l:List Int):(z00 inV l).length=l.length:=by rw[z11,List.length_map]
def z3o(l:List Int) (i:Nat) (b:Int):spl (z00 inV l) i [.int .i64 b]=z00 inV (l.set i b):=by
 rw[z11,z11,List.map_set];rfl
def q0b{i j:Nat} {b:Int} (h:i<l.length):(l.set i b).getD j 0=if j=i then b else l.getD j 0:=by
 rw[List.getD_eq_getElem?_getD,List.getElem?_set,List.getD_eq_getElem?_getD]
 by_cases e:i=j
 ·subst e;rw[if_pos rfl,if_pos h,if_pos rfl];rfl
 ·rw[if_neg e,if_neg (λh=>e h.symm)]
def z7s(l brs:List Int):∀i,lbP l brs i= -1\/(0<=lbP l brs i/\lbP l brs i<i/\z0f l (brs.getD (lbP l brs i).toNat 0)≠ -1)
  |0=> .inl rfl
  | i +1=>by
    unfold lbP
    simp only
    split
    · rename_i h
      refine .inr ⟨by omega,by omega,?_⟩
      rw[Int.toNat_natCast];exact h.1
    · rcases z7s l brs i with h|⟨h1,h2,h3⟩
      · exact .inl h
      · exact .inr ⟨h1,by omega,h3⟩
def zb0(l brs:List Int):∀i j,j<i->z0f l (brs.getD j 0)≠ -1->lbP l brs i≠ -1/\z0f l (brs.getD (lbP l brs i).toNat 0)<=z0f l (brs.getD j 0)
  | i + 1,j,hj,hr=>by
    have ih:=zb0 l brs i j
    unfold lbP
    simp only
    by_cases hc:z0f l (brs.getD i 0)≠ -1/\(lbP l brs i= -1\/z0f l (brs.getD i 0)<z0f l (brs.getD (lbP l brs i).toNat 0))
    · rw[if_pos hc,Int.toNat_natCast]
      refine⟨by omega,?_⟩
      by_cases e:j=i
      · subst e;exact Int.le_refl _
      · have:=ih (by omega) hr
        rcases hc.2 with h|h
        · exact absurd h this.1
        · omega
    · rw [if_neg hc]
      by_cases e:j=i
      · subst e
        have:¬(lbP l brs j= -1\/z0f l (brs.getD j 0)<z0f l (brs.getD (lbP l brs j).toNat 0)):=λh=>hc ⟨hr,h⟩
        exact⟨λh=>this (.inl h),by
          have:¬z0f l (brs.getD j 0)<z0f l (brs.getD (lbP l brs j).toNat 0):=λh=>this (.inr h)
          omega⟩
      · exact ih (by omega) hr
def z7r{a:AT} (h:lbF l a≠ -1):0<=lbF l a/\lbF l a<a.brs.length/\z0f l (a.brs.getD (lbF l a).toNat 0)≠ -1/\a.brs.getD (lbF l a).toNat 0∈a.brs:=by
 rcases z7s l a.brs a.brs.length with h1|⟨h1,h2,h3⟩
 ·exact absurd h1 h
 ·refine⟨h1,h2,h3,?_⟩
  have hlt:(lbP l a.brs a.brs.length).toNat<a.brs.length:=by omega
  show a.brs.getD (lbP l a.brs a.brs.length).toNat 0∈a.brs
  rw[List.getD_eq_getElem?_getD,List.getElem?_eq_getElem hlt]
  exact List.getElem_mem hlt
def zaz{a:AT} {b:Int} (hb:b∈a.brs) (hr:z0f l b≠ -1):lbF l a≠ -1/\z0f l (a.brs.getD (lbF l a).toNat 0)<=z0f l b:=by
 obtain⟨j,hj,rfl⟩:=List.getElem_of_mem hb
 have e:a.brs.getD j 0=a.brs[j]:=by rw[List.getD_eq_getElem?_getD,List.getElem?_eq_getElem hj];rfl
 have:=zb0 l a.brs a.brs.length j hj (by rw[e];exact hr)
 rw[e]at this
 exact this
def z1o{l:List Int} {fs:List AF}:∀{i m},z3x l fs i=some m->0<=m/\∀(j:Nat) (f:AF),j<i->fs[j]? =some f->z0f l f.ty≠ -1/\z0f l f.ty<=m
  |0,m,h=>by cases h;exact⟨by omega,λj f hj=>by omega⟩
  | i + 1,m,h=>by
    simp only[z3x]at h
    split at h
    · cases h
    · rename_i m0 hm
      split at h
      · cases h
      · rename_i f hf
        split at h
        · cases h
        · rename_i hr
          cases h
          obtain⟨h1,h2⟩:=z1o hm
          refine⟨by omega,λj g hj hg=> ?_⟩
          by_cases e:j=i
          · subst e;rw[hf]at hg;cases hg;exact⟨hr,by omega⟩
          · obtain⟨h3,h4⟩:=h2 j g (by omega) hg
            exact⟨h3,by omega⟩
def z2b{l:List Int} {fs:List AF} {n:Int} (h0:0<=n) (hl:∀t,z0f l t<=n):∀{i m},z3x l fs i=some m->m<=n
  |0,m,h=>by cases h;exact h0
  | i + 1,m,h=>by
    simp only[z3x]at h
    split at h
    · cases h
    · rename_i m0 hm
      split at h
      · cases h
      · rename_i f hf
        split at h
        · cases h
        · cases h
          have:=z2b h0 hl hm
          have:=hl f.ty
          omega
def z5u{l:List Int} {fs:List AF} {i:Nat} (h:z3x l fs i=none):∀k,z3x l fs (i+k)=none
  |0=>h
  | k+1=>by
    show z3x l fs (i+k+1)=none
    rw[z3x,z5u h k]
def zbj{fs:List AF} (hi:i<=fs.length) (h:z3x l fs i=none):z3x l fs fs.length=none:=by
 have:=z5u h (fs.length- i)
 rwa [show i+(fs.length- i)=fs.length by omega]at this
def z2c{t:Nat} (h:t<l.length):z0f l (t:Int)=l.getD t 0:=by
 unfold z0f
 rw[if_neg (by omega),Int.toNat_natCast]
def z22{t:Int} (h:z0f l t≠ -1):∃k:Nat,t=k/\k<l.length/\z0f l t=l.getD k 0:=by
 unfold z0f at h⊢
 by_cases hc:t<0\/(l.length:Int)<=t
 ·rw[if_pos hc]at h;exact absurd rfl h
 ·exact⟨t.toNat,by omega,by omega,if_neg hc⟩
def z4t{k:Nat} (h:k<l.length):l.getD k 0∈l:=by
 rw[List.getD_eq_getElem?_getD,List.getElem?_eq_getElem h];exact List.getElem_mem h
variable {n:Nat}
def z1p(h:z2x l n) (t:Int): -1<=z0f l t/\z0f l t<=n:=by
 by_cases hc:z0f l t= -1
 ·rw[hc];omega
 ·obtain⟨k,_,hk,e⟩:=z22 hc
  rw[e]
  exact h.2 _ (z4t hk)
def zpq(h:z2x l n) (a:AT): -1<=rkF l a/\rkF l a<=n+1:=by
 unfold rkF
 split
 ·split
  ·omega
  ·rename_i m hm
   have:=z2b (n:=(n:Int)) (by omega) (λt=>(z1p h t).2) hm
   have:=(z1o hm).1
   omega
 ·split
  ·split
   ·have:=z1p h (a.brs.getD (lbF l a).toNat 0);omega
   ·omega
  ·split<;>omega
def z1m{S:List AT} {l:List Int}:∀{i:Nat} {e:MapEntry},e∈esF S l i->∃t,t<i/\told S l t=true/\e=⟨.int .i64 (t:Nat), .int .i64 (rkS S l t),(esF S l t).length⟩
  | i +1,e,h=>by
    unfold esF at h
    split at h
    · rename_i ht
      rcases List.mem_append.1 h with h|h
      · obtain⟨t,h1,h2⟩:=z1m h;exact⟨t,by omega,h2⟩
      · rw[List.mem_singleton]at h;exact⟨i,by omega,ht,h⟩
    · obtain⟨t,h1,h2⟩:=z1m h;exact⟨t,by omega,h2⟩
def z2n{S:List AT} {l:List Int} {t:Nat} (ht:told S l t=true):∀{i:Nat},t<i->(⟨.int .i64 (t:Nat), .int .i64 (rkS S l t),(esF S l t).length⟩:MapEntry)∈esF S l i
  | i +1,h=>by
    have e0:esF S l (i+1)=if told S l i=true then esF S l i++[⟨.int .i64 (i:Nat), .int .i64 (rkS S l i),(esF S l i).length⟩]else esF S l i:=rfl
    rw[e0]
    by_cases e:t=i
    · subst e;rw[if_pos ht];exact List.mem_append.2 (.inr List.mem_cons_self)
    · have:=z2n ht (i:=i) (by omega)
      split
      · exact List.mem_append.2 (.inl this)
      · exact this
def z3d{S:List AT} {l:List Int}:∀i:Nat,(esF S l i).map (·.born)=List.range (esF S l i).length
  |0=>rfl
  | i +1=>by
    unfold esF
    split
    · rw[List.map_append,z3d i,List.length_append]
      simp[List.range_succ]
    · exact z3d i
variable {S:List AT}
def z5q(i:Nat):qiy (esF S l i):=by
 unfold qiy;rw[z3d];exact List.nodup_range
def z6i(i:Nat):qlu (esF S l i) (esF S l i).length:=λe he=>by
 have:e.born∈(esF S l i).map (·.born):=List.mem_map.2 ⟨e,he,rfl⟩
 rw[z3d]at this
 exact List.mem_range.1 this
def ziz(i:Nat):qlt (esF S l i):=λe he=>by
 obtain⟨t,_,_,rfl⟩:=z1m he
 exact⟨_,_,rfl,rfl⟩
def z5s{k:Value}:∀{es:List MapEntry} {i:Nat},(∀e∈es,q5h k e.key=false)->q3o k es i=none
  | [],i,h=>rfl
  | e::es,i,h=>by
    unfold q3o
    rw[h e List.mem_cons_self]
    exact z5s λe he=>h e (List.mem_cons_of_mem _ he)
def ze2(i:Nat):q3o (.int .i64 (i:Nat)) (esF S l i) 0=none:=z5s λe he=>by
 obtain⟨t,h1,_,rfl⟩:=z1m he
 show decide ((i:Int)=(t:Nat))=false
 rw[decide_eq_false]
 omega
def zj0(i:Nat):∀e∈esF S l i,kOK (.int .i64) e.key:=λe he=>by
 obtain⟨t,_,_,rfl⟩:=z1m he
 exact rfl
def zj1(h:told S l i=true):esF S l (i+1)=qiw (.int .i64 (i:Nat)) (.int .i64 (rkS S l i)) (esF S l i) (esF S l i).length/\(esF S l (i+1)).length=qiv (.int .i64 (i:Nat)) (esF S l i) (esF S l i).length:=by
 unfold qiw qiv
 rw[ze2]
 have:esF S l (i+1)=esF S l i++[⟨.int .i64 (i:Nat), .int .i64 (rkS S l i),(esF S l i).length⟩]:=by rw[esF,if_pos h]
 rw[this]
 exact⟨rfl,by simp⟩
def z7k(h:told S l i=false):esF S l (i+1)=esF S l i:=by
 rw[esF,if_neg (by rw[h];decide)]
def zep{es:List MapEntry} {seen:List Nat}:z40 es (seen++[n])<=z40 es seen:=by
  unfold z40
  induction es with
  |nil=>exact Nat.le_refl _
  | cons a es ih=>
    simp only[List.filter_cons,List.mem_append,List.mem_singleton]
    by_cases h:a.born∈seen
    · simp[h];simpa using ih
    · by_cases h2:a.born=n
      · have h':n∉seen:=h2 ▸ h
        simp[h2,h'];simp at ih;omega
      · simp[h,h2];simpa using ih
def z7w{seen:List Nat}:∀{es:List MapEntry} {e:MapEntry},qkv es seen e->z40 es (seen++[e.born])<z40 es seen
  | a ::es,e,h=>by
    have hle:=zep (es:=es) (seen:=seen) (n:=e.born)
    obtain⟨h1,h2⟩:=h
    unfold z40 at hle⊢
    simp only[List.filter_cons]
    rcases List.mem_cons.1 h1 with rfl|h1
    · simp[h2]at hle⊢;omega
    · have ih:=z7w ⟨h1,h2⟩
      unfold z40 at ih
      by_cases h3:a.born∈seen
      · simp[h3]at ih⊢;exact ih
      · by_cases h4:a.born=e.born
        · have h':e.born∉seen:=h4 ▸ h3
          simp[h4,h']at ih hle⊢;omega
        · simp[h3,h4]at ih⊢;exact ih
def zac:∀{l l':List Int},l'.length=l.length->(∀t,t<l.length->l'.getD t 0= -1->l.getD t 0= -1)->z68 l'<=z68 l
  | [],[],_,_=>Nat.le_refl _
  | x ::l,y::l',hl,h=>by
    have ih:=zac (l:=l) (l':=l') (by simpa using hl) λt ht hy=>by
      have:=h (t+1) (by simpa using ht) (by simpa using hy)
      simpa using this
    have h0:=h 0 (by simp)
    simp at h0
    unfold z68 at ih⊢
    simp only[List.filter_cons]
    by_cases hy:y= -1
    · rw[hy,h0 hy];simp at ih⊢;omega
    · by_cases hx:x= -1
      · simp[hx,hy]at ih⊢;omega
      · simp[hx,hy]at ih⊢;omega
def zad:∀{l l':List Int},l'.length=l.length->(∀t,t<l.length->l'.getD t 0= -1->l.getD t 0= -1)->∀{k:Nat},k<l.length->l.getD k 0= -1->l'.getD k 0≠ -1->z68 l'<z68 l
  | x ::l,y::l',hl,h,k,hk,h1,h2=>by
    have hl':l'.length=l.length:=by simpa using hl
    have hr:∀t,t<l.length->l'.getD t 0= -1->l.getD t 0= -1:=λt ht hy=>by
      have:=h (t+1) (by simpa using ht) (by simpa using hy)
      simpa using this
    have hle:=zac hl' hr
    have h0:=h 0 (by simp)
    simp at h0
    cases k with
    | zero=>
      simp at h1 h2
      unfold z68 at hle⊢
      simp[h1,h2]at hle⊢
      omega
    | succ k=>
      have ih:=zad hl' hr (k:=k) (by simpa using hk) (by simpa using h1) (by simpa using h2)
      unfold z68 at ih⊢
      simp only[List.filter_cons]
      by_cases hy:y= -1
      · rw[hy,h0 hy];simp at ih⊢;omega
      · by_cases hx:x= -1
        · simp[hx,hy]at ih⊢;omega
        · simp[hx,hy]at ih⊢;omega
def zdw(l:List Int):z68 l<=l.length:=List.length_filter_le _ _
def z3p{t:Nat} (h:told S l t=true):∃a,S[t]? =some a/\l.getD t 0= -1/\rkF l a≠ -1/\rkS S l t=rkF l a:=by
 unfold told at h
 unfold rkS
 split at h
 ·rename_i a ha
  simp at h
  rw[ha]
  exact⟨a,rfl,by rw[List.getD_eq_getElem?_getD];exact h.1,h.2,rfl⟩
 ·cases h
def zfd{l l':List Int} (hr:rkR S l) (hn:l'.length=S.length) (hu:∀t,t<S.length->(l'.getD t 0=l.getD t 0/\told S l t=false)\/(l'.getD t 0=rkS S l t/\told S l t=true)) {k:Nat} (hk:k<S.length) (hkt:told S l k=true):rkR S l'/\z68 l'<z68 l:=by
 obtain⟨h1,h2,h3⟩:=hr
 have hsame:∀t,t<S.length->l.getD t 0≠ -1->l'.getD t 0=l.getD t 0:=λt ht hne=>by
  rcases hu t ht with h|h
  ·exact h.1
  ·obtain⟨a,_,q,_⟩:=z3p h.2;exact absurd q hne
 have hback:∀t,t<l.length->l'.getD t 0= -1->l.getD t 0= -1:=λt ht h=>by
  by_cases hne:l.getD t 0= -1
  ·exact hne
  ·rw[hsame t (by omega) hne]at h;exact absurd h hne
 have hc:z68 l'<z68 l:=by
  obtain⟨a,_,q1,q2,q3⟩:=z3p hkt
  refine zad (by omega) hback (k:=k) (by omega) q1 ?_
  rcases hu k hk with h|h
  ·rw[hkt]at h;cases h.2
  ·rw[h.1,q3];exact q2
 have hat:∀x,z0f l x≠ -1->z0f l' x=z0f l x:=λx hx=>by
  obtain⟨j,rfl,hj,e⟩:=z22 hx
  rw[e]at hx⊢
  rw[z2c (by omega),hsame j (by omega) hx]
 have hcl:=zdw l
 refine⟨⟨hn,⟨by have:=h2.1;omega,λr hr=> ?_⟩,λt a ha hne=> ?_⟩,hc⟩
 ·obtain⟨t,ht,rfl⟩:=List.getElem_of_mem hr
  have e:l'[t]=l'.getD t 0:=by rw[List.getD_eq_getElem?_getD,List.getElem?_eq_getElem ht];rfl
  rw[e]
  rcases hu t (by omega)with h|h
  ·rw[h.1]
   have:=h2.2 _ (z4t (l:=l) (k:=t) (by omega))
   omega
  ·obtain⟨a,_,_,_,q3⟩:=z3p h.2
   rw[h.1,q3]
   have:=zpq h2 a
   omega
 ·have ht :t<S.length:=(List.getElem?_eq_some_iff.1 ha).1
  rcases hu t ht with h|h
  ·rw[h.1]at hne⊢
   obtain⟨p1,p2,p3,p4⟩:=h3 t a ha hne
   refine⟨p1,p2,λhk f hf=> ?_,λhk=> ?_⟩
   ·obtain⟨q1,q2⟩:=p3 hk f hf
    rw[hat _ q1];exact⟨q1,q2⟩
   ·obtain⟨b,hb,q1,q2⟩:=p4 hk
    exact⟨b,hb,by rw[hat _ q1];exact q1,by rw[hat _ q1];exact q2⟩
  ·obtain⟨a',ha',q1,q2,q3⟩:=z3p h.2
   rw[ha]at ha';cases ha'
   rw[h.1,q3]
   unfold rkF at q2⊢
   by_cases h9:a.k=9
   ·rw[if_pos h9]at q2⊢
    split at q2
    ·exact absurd rfl q2
    ·rename_i m hm
     obtain⟨r1,r2⟩:=z1o hm
     refine⟨by show 0<=m+1;omega,by omega,λ_ f hf=> ?_,λh14=>by omega⟩
     obtain⟨j,hj,rfl⟩:=List.getElem_of_mem hf
     obtain⟨r3,r4⟩:=r2 j _ hj (List.getElem?_eq_getElem hj)
     rw[hat _ r3]
     exact⟨r3,by show _<m+1;omega⟩
   ·rw [if_neg h9]at q2⊢
    by_cases h14:a.k=14
    ·rw[if_pos h14]at q2⊢
     split at q2
     ·rename_i hl
      obtain⟨r1,r2,r3,r4⟩:=z7r hl
      rw[if_pos hl]
      have:=z1p h2 (a.brs.getD (lbF l a).toNat 0)
      refine⟨by omega,by omega,λh=>absurd h h9,λ_=>⟨_,r4,by rw[hat _ r3];exact r3,by rw[hat _ r3];omega⟩⟩
     ·exact absurd rfl q2
    ·rw[if_neg h14]at q2⊢
     split at q2
     ·exact absurd rfl q2
     ·rename_i hk
      rw[if_neg hk]
      exact⟨by omega,by omega,λh=>absurd h h9,λh=>absurd h h14⟩
def ze6(hS:S.length<=60) (hn:l.length=S.length) (h:∀j,j<S.length->l.getD j 0= -1):rkR S l:=by
 refine⟨hn,⟨by omega,λr hr=> ?_⟩,λt a ha hne=> ?_⟩
 ·obtain⟨t,ht,rfl⟩:=List.getElem_of_mem hr
  have:=h t (by omega)
  rw[List.getD_eq_getElem?_getD,List.getElem?_eq_getElem ht]at this
  have this:l[t]= -1:=this
  rw[this];omega
 ·exact absurd (h t (List.getElem?_eq_some_iff.1 ha).1) hne
def zjc(hr:rkR S l) (h:esF S l S.length=[]):rkE S l:=by
 refine⟨hr,λt a ha hl=> ?_⟩
 by_cases hc:rkF l a= -1
 ·exact hc
 ·have ht:t<S.length:=(List.getElem?_eq_some_iff.1 ha).1
  have:told S l t=true:=by unfold told;rw[ha];simp at hl⊢;exact⟨hl,hc⟩
  have:=z2n this ht
  rw[h]at this
  cases this
def z5l{S:List AT} {l m:List Int} (hl:rkE S l) (hm:rkE S m):∀(n t:Nat),t<S.length->l.getD t 0≠ -1->l.getD t 0<n->m.getD t 0≠ -1
  | 0,t,ht,h1,h2=>by
    obtain⟨a,ha⟩:∃a,S[t]? =some a:=⟨_,List.getElem?_eq_getElem ht⟩
    have:=(hl.1.2.2 t a ha h1).1
    omega
  | n + 1,t,ht,h1,h2=>λh=>by
    obtain⟨a,ha⟩:∃a,S[t]? =some a:=⟨_,List.getElem?_eq_getElem ht⟩
    obtain⟨p1,p2,p3,p4⟩:=hl.1.2.2 t a ha h1
    have q:=hm.2 t a ha h
    have step:∀x,z0f l x≠ -1->z0f l x<l.getD t 0->z0f m x≠ -1:=λx hx hlt=>by
      obtain⟨j,rfl,hj,e⟩:=z22 hx
      rw[e]at hx hlt
      have hj2:j<S.length:=by rw[←hl.1.1];exact hj
      rw[z2c (by rw[hm.1.1];exact hj2)]
      exact z5l hl hm n j hj2 hx (by omega)
    unfold rkF at q
    by_cases h9:a.k=9
    · rw [if_pos h9]at q
      have hs:∀i,i<=a.fs.length->∃m',z3x m a.fs i=some m':=λi=>by
        induction i with
        |zero=>exactλ_=>⟨0,rfl⟩
        | succ i ih=>
          intro hi
          obtain⟨m',hm'⟩:=ih (by omega)
          have hf:a.fs[i]? =some a.fs[i]:=List.getElem?_eq_getElem (by omega)
          obtain⟨r1,r2⟩:=p3 h9 _ (List.getElem_mem (by omega:i<a.fs.length))
          rw[z3x,hm']
          simp only[hf]
          rw[if_neg (step _ r1 r2)]
          exact⟨_,rfl⟩
      obtain⟨m',hm'⟩:=hs _ (Nat.le_refl _)
      rw[hm']at q
      have:=(z1o hm').1
      have q:m'+1= -1:=q
      omega
    · rw[if_neg h9]at q
      by_cases h14:a.k=14
      · rw[if_pos h14]at q
        obtain⟨b,hb,r1,r2⟩:=p4 h14
        obtain⟨r3,r4⟩:=zaz hb (step b r1 r2)
        rw[if_pos r3]at q
        have:=(z7r r3).2.2.1
        obtain⟨j,_,hj,e⟩:=z22 this
        have hjS:j<S.length:=by rw[←hm.1.1];exact hj
        have:=z1p hm.1.2.1 (a.brs.getD (lbF m a).toNat 0)
        have hne:z0f m (a.brs.getD (lbF m a).toNat 0)= -2:=by omega
        omega
      · rw[if_neg h14,if_neg (by omega)]at q
        omega
end
def zp3:q3m P 18 zvb:=by
  refine qld mixed z0o (W:=λ_=>{}) Try.func18 (by kernel_rfl) (show 1<=2 by decide) (show 2<=2 by decide) (λs=>by kernel_rfl) λ⟨l,(t:Int)⟩=>(zp2 l t).mpr ?_
  intro hl
  simp only[sbS,Int.toNat_natCast,exists_const]
  refine⟨λh=>by unfold z0f;rw[if_pos (.inl h)],λh1=>⟨λh=>by unfold z0f;rw[if_pos (.inr h)],λh2=>⟨⟨by omega,by omega⟩,z0f l t,λj v hj=> ?_,rfl⟩⟩⟩
  obtain⟨n,rfl⟩:=Int.eq_ofNat_of_zero_le (show 0<=t by omega)
  have hn:n<l.length:=by omega
  cases j with
  |succ j=>simp at hj
  | zero=>
    simp at hj
    subst hj
    rw[z2c hn,Int.toNat_natCast,show 0+n*1+0=n by omega]
    exact z4w hn
def zp5:q3m P 18 zvc:=by
 refine qld mixed z0o (W:=λ_=>{}) Try.func18 (by kernel_rfl) (show 1<=2 by decide) (show 2<=2 by decide) (λs=>by kernel_rfl) λ⟨(y:SV),l,(t:Int)⟩=>(zp4 y l t).mpr ?_
 rintro hl ⟨p,_,hy⟩
 have hyl:y.2.1=l.length:=hy.1
 simp only[sbS,Int.toNat_natCast,exists_const]
 rw[hyl]
 refine⟨λh=>by unfold z0f;rw[if_pos (.inl h)],λh1=>⟨λh=>by unfold z0f;rw[if_pos (.inr h)],λh2=>⟨⟨by omega,by omega⟩,?_⟩⟩⟩
 obtain⟨n,rfl⟩:=Int.eq_ofNat_of_zero_le (show 0<=t by omega)
 have hn:n<l.length:=by omega
 have e:z0f l (n:Int)=l[n]:=by rw[z2c hn,List.getD_eq_getElem?_getD,List.getElem?_eq_getElem hn];rfl
 refine⟨(z0b z1b (by decide) hy hn).1,l[n],λq hq=> ?_,e⟩
 rw[Int.toNat_natCast]
 exact(z0b z1b (by decide) hq hn).2
def zdr:q3m P 18 cAt:=Ct.or_ok zp3 zp5 rfl rfl
def z7t(l brs:List Int) (i:Nat):(z0f l (brs.getD i 0)≠ -1->lbP l brs i= -1->lbP l brs (i+1)=i)/\(z0f l (brs.getD i 0)≠ -1->z0f l (brs.getD i 0)<z0f l (brs.getD (lbP l brs i).toNat 0)->lbP l brs (i+1)=i)/\(z0f l (brs.getD i 0)= -1->lbP l brs (i+1)=lbP l brs i)/\(lbP l brs i≠ -1->¬z0f l (brs.getD i 0)<z0f l (brs.getD (lbP l brs i).toNat 0)->lbP l brs (i+1)=lbP l brs i):=by
 refine⟨λh1 h2=> ?_,λh1 h2=> ?_,λh1=> ?_,λh1 h2=> ?_⟩
 ·show(if _ then _ else _)=_;rw[if_pos ⟨h1, .inl h2⟩]
 ·show(if _ then _ else _)=_;rw[if_pos ⟨h1, .inr h2⟩]
 ·show(if _ then _ else _)=_;rw[if_neg (λh=>h.1 h1)]
 ·show(if _ then _ else _)=_;rw[if_neg (λh=>h.2.elim h1 h2)]
def z18{l:List Int} {i:Nat} (h:i<l.length):l.getD i 0=l[i]:=by rw[List.getD_eq_getElem?_getD,List.getElem?_eq_getElem h];rfl
def zpf:q3m P 33 zuh:=by
 refine qld mixed (qdw (qhr zdr qkx)) (W:=zxm) Try.func33 (by kernel_rfl) (show 1<=2 by decide) (show 2<=2 by decide) (λs=>by kernel_rfl) λ⟨a,l⟩=>(zpe a l).mpr ?_
 rintro⟨hl,hb⟩ ⟨p,_,ha⟩
 have hbl:a.br.2.1=a.brs.length:=ha.2.2.2.1.1
 simp only[sbS,Int.toNat_natCast,exists_const]
 refine⟨⟨0,rfl,rfl,Nat.zero_le _⟩,λi hi=>⟨λhlt=> ?_,λhge=> ?_⟩⟩
 ·have hi1:i<a.brs.length:=by omega
  have hB:=λ(j:Nat) (hj:j<a.brs.length) (q:Pub) (hq:a.ok q)=>z0b z1b (by decide) hq.2.2.2.1 hj
  obtain⟨s1,s2,s3,s4⟩:=z7t l a.brs i
  rw[z18 hi1]at s1 s2 s3 s4
  rw[hbl]
  refine⟨⟨by omega,by omega⟩,(hB i hi1 p ha).1,a.brs[i],λq hq=>(hB i hi1 q hq).2,(l,a.brs[i]),rfl,rfl,rfl,hl,λhr=>⟨λh1=>⟨⟨by omega,by omega⟩,i+1,s1 hr h1,by omega,rfl,by omega,by omega⟩,λh1=> ?_⟩,λhr=>⟨⟨by omega,by omega⟩,i+1,s3 hr,by omega,rfl,by omega,by omega⟩⟩
  rcases z7s l a.brs i with h|⟨h2,h3,h4⟩
  ·exact absurd h h1
  obtain⟨k,hk⟩:=Int.eq_ofNat_of_zero_le h2
  rw[hk]at h1 h3 h4 s2 s4⊢
  rw[Int.toNat_natCast]at h4 s2 s4
  have hk1:k<a.brs.length:=by omega
  rw[z18 hk1]at h4 s2 s4
  refine⟨⟨by omega,by omega⟩,(hB k hk1 p ha).1,a.brs[k],λq hq=>by rw[Int.toNat_natCast];exact(hB k hk1 q hq).2,(l,a.brs[k]),rfl,rfl,rfl,hl,λh5=>⟨⟨by omega,by omega⟩,i+1,s2 hr h5,by omega,rfl,by omega,by omega⟩,λh5=>⟨⟨by omega,by omega⟩,i+1,?_,by omega,rfl,by omega,by omega⟩⟩
  exact s4 h1 h5
 ·have hi1:i=a.brs.length:=by omega
  subst hi1;rfl
def zji:q3m P 33 zui:=by
 refine qld mixed (qdw (qhr zdr qkx)) (W:=zxn) Try.func33 (by kernel_rfl) (show 1<=2 by decide) (show 2<=2 by decide) (λs=>by kernel_rfl) λ⟨a,(y:SV),l⟩=>(zjh a y l).mpr ?_
 rintro⟨hl,hb⟩ ⟨p,_,ha,hy⟩
 have hbl:a.br.2.1=a.brs.length:=ha.2.2.2.1.1
 simp only[sbS,Int.toNat_natCast,exists_const]
 refine⟨⟨0,rfl,rfl,Nat.zero_le _⟩,λi hi=>⟨λhlt=> ?_,λhge=> ?_⟩⟩
 ·have hi1:i<a.brs.length:=by omega
  have hB:=λ(j:Nat) (hj:j<a.brs.length) (q:Pub) (hq:a.ok q)=>z0b z1b (by decide) hq.2.2.2.1 hj
  obtain⟨s1,s2,s3,s4⟩:=z7t l a.brs i
  rw[z18 hi1]at s1 s2 s3 s4
  rw[hbl]
  refine⟨⟨by omega,by omega⟩,(hB i hi1 p ha).1,a.brs[i],λq hq=>(hB i hi1 q hq.1).2,(y,l,a.brs[i]),rfl,rfl,rfl,rfl,hl,λq hq=>hq.2,λhr=>⟨λh1=>⟨⟨by omega,by omega⟩,i+1,s1 hr h1,by omega,by omega,by omega⟩,λh1=> ?_⟩,λhr=>⟨⟨by omega,by omega⟩,i+1,s3 hr,by omega,by omega,by omega⟩⟩
  rcases z7s l a.brs i with h|⟨h2,h3,h4⟩
  ·exact absurd h h1
  obtain⟨k,hk⟩:=Int.eq_ofNat_of_zero_le h2
  rw[hk]at h1 h3 h4 s2 s4⊢
  rw[Int.toNat_natCast]at h4 s2 s4
  have hk1:k<a.brs.length:=by omega
  rw[z18 hk1]at h4 s2 s4
  refine⟨⟨by omega,by omega⟩,(hB k hk1 p ha).1,a.brs[k],λq hq=>by rw[Int.toNat_natCast];exact(hB k hk1 q hq.1).2,(y,l,a.brs[k]),rfl,rfl,rfl,rfl,hl,λq hq=>hq.2,λh5=>⟨⟨by omega,by omega⟩,i+1,s2 hr h5,by omega,by omega,by omega⟩,λh5=>⟨⟨by omega,by omega⟩,i+1,?_,by omega,by omega,by omega⟩⟩
  exact s4 h1 h5
 ·have hi1:i=a.brs.length:=by omega
  subst hi1;rfl
def zjj:q3m P 33 cLb:=Ct.or_ok zpf zji rfl rfl
def zbh:q3m P 31 zdu:=by
 refine qld mixed (qdw (qhr zdr (qhr zjj qkx))) (W:=zqb) Try.func31 (by kernel_rfl) (show 1<=2 by decide) (show 2<=2 by decide) (λs=>by kernel_rfl) λ⟨a,l⟩=>(zbg a l).mpr ?_
 rintro⟨hl,hb,hf⟩ ⟨p,_,ha⟩
 have hbl:a.br.2.1=a.brs.length:=ha.2.2.2.1.1
 have hfl:a.f.2.1=a.fs.length:=ha.2.2.1.1
 simp only[sbS,Int.toNat_natCast,exists_const]
 refine⟨λh9=>⟨⟨(0,0),rfl,rfl,Nat.zero_le _,rfl⟩,?_⟩,λh9=>⟨λh14=> ?_,λh14=>⟨λh1=> ?_,λh1=>⟨λh2=> ?_,λh2=> ?_⟩⟩⟩⟩
 ·rintro⟨i,m⟩ ⟨hi,hm⟩
  have hi:i<=a.fs.length:=hi
  have hm:z3x l a.fs i=some m:=hm
  have hm0:=(z1o hm).1
  have hmb:=z2b (n:=1000000) (by omega) (λt=>(z1p hl t).2) hm
  refine⟨λhlt=> ?_,λhge=> ?_⟩
  ·have hi1:i<a.fs.length:=by omega
   have A:=λ(q:Pub) (hq:a.ok q)=>z0b z3f (by decide) hq.2.2.1 hi1
   have hg:a.fs[i]? =some a.fs[i]:=List.getElem?_eq_getElem hi1
   have hs:z3x l a.fs (i+1)=if z0f l a.fs[i].ty= -1 then none else some (max m (z0f l a.fs[i].ty)):=by rw[z3x,hm];simp only[hg]
   refine⟨⟨by omega,by omega⟩,(A p ha).1,a.fs[i].nm,a.fs[i].al.1,a.fs[i].al.2.1,a.fs[i].al.2.2,a.fs[i].ty,a.fs[i].hd,a.fs[i].df.k,a.fs[i].df.n,a.fs[i].df.s,a.fs[i].df.y.1,a.fs[i].df.y.2.1,a.fs[i].df.y.2.2,a.fs[i].df.x.1,a.fs[i].df.x.2.1,a.fs[i].df.x.2.2,λq hq=>(A q hq).2,(l,a.fs[i].ty),rfl,rfl,rfl,hl,λhr=>⟨?_,rfl⟩,λhr=>⟨⟨by omega,by omega⟩,(i+1,max m (z0f l a.fs[i].ty)),?_,by show((i+1:Nat):Int)=_;omega,rfl,⟨by show i+1<=_;omega,?_⟩,by show a.fs.length- (i+1)<a.fs.length- i;omega⟩⟩
   ·have:z3x l a.fs (i+1)=none:=by rw[hs,if_pos hr]
    unfold rkF
    rw[if_pos h9,zbj (by omega) this]
   ·show max m (z0f l a.fs[i].ty)=if z0f l a.fs[i].ty>m then z0f l a.fs[i].ty else m
    split<;>omega
   ·show z3x l a.fs (i+1)=some (max m (z0f l a.fs[i].ty))
    rw[hs,if_neg hr]
  ·have hi1:i=a.fs.length:=by omega
   subst hi1
   refine⟨⟨by show _<=m+1;omega,by show m+1<=_;omega⟩,?_⟩
   unfold rkF
   rw[if_pos h9,hm]
 ·refine⟨(a,l),rfl,rfl,rfl,rfl,rfl,rfl,rfl,rfl,rfl,rfl,rfl,rfl,rfl,rfl,rfl,rfl,rfl,rfl,rfl,rfl,⟨hl,hb⟩,λq hq=>hq,λhne=> ?_,λhe=>⟨?_,rfl⟩⟩
  ·have hne:lbF l a≠ -1:=hne
   obtain⟨h1,h2,h3,h4⟩:=z7r hne
   obtain⟨k,hk⟩:=Int.eq_ofNat_of_zero_le h1
   have hk1:k<a.brs.length:=by omega
   have B:=λ(q:Pub) (hq:a.ok q)=>z0b z1b (by decide) hq.2.2.2.1 hk1
   rw[hk,Int.toNat_natCast]at h3
   rw[z18 hk1]at h3
   have hle:=z1p hl a.brs[k]
   refine⟨⟨h1,by rw[hbl];exact h2⟩,(B p ha).1,a.brs[k],λq hq=>by show q3i q (adr a.br.1 ((lbF l a).toNat*1)) _;rw[hk,Int.toNat_natCast];exact(B q hq).2,(l,a.brs[k]),rfl,rfl,rfl,hl,⟨by show _<=z0f l a.brs[k]+1;omega,by show z0f l a.brs[k]+1<=_;omega⟩,?_,rfl⟩
   unfold rkF
   rw[if_neg h9,if_pos h14,if_pos hne,hk,Int.toNat_natCast,z18 hk1]
  ·unfold rkF
   have he:lbF l a= -1:=he
   rw[if_neg h9,if_pos h14,if_neg (λh=>h he)]
 ·unfold rkF;rw[if_neg h9,if_neg h14,if_pos (.inl h1)]
 ·unfold rkF;rw[if_neg h9,if_neg h14,if_pos (.inr h2)]
 ·unfold rkF;rw[if_neg h9,if_neg h14,if_neg (by omega)]
section
def z5f(v:Value):∀n,q7s [v] n=List.replicate n v
 |0=>rfl
 |n+1=>by rw[q7s,z5f v n];rfl
def z4v(n:Nat):z00 inV (List.replicate n 0)=q7s [.int .i64 0] n:=by
 rw[z11,z5f,List.map_replicate]
variable {S:List AT}
def z1r(h:z0c S) {i:Nat} (hi:i<S.length):z1f S.length S[i]:=h.2 _ (List.getElem_mem hi)
variable {l:List Int}
def zfn{i:Nat} (hi:i<S.length) (h1:l.getD i 0= -1) (h2:rkF l S[i]≠ -1):told S l i=true/\rkS S l i=rkF l S[i]:=by
 unfold told rkS
 rw[List.getElem?_eq_getElem hi]
 simp at h1⊢
 exact⟨h1,h2⟩
def zbx{i:Nat} (hi:i<S.length) (h:l.getD i 0≠ -1\/rkF l S[i]= -1):told S l i=false:=by
  cases e:told S l i with
  |false=>rfl
  | true=>
    obtain⟨a,ha,q1,q2,_⟩:=z3p e
    rw[List.getElem?_eq_getElem hi]at ha
    cases ha
    rcases h with h|h
    · exact absurd q1 h
    · exact absurd h q2
variable {seen:List Nat}
def zki{l l':List Int} (h:zi2 S l seen l') (ha:qkd (esF S l S.length) seen):∀t,t<S.length->(l'.getD t 0=l.getD t 0/\told S l t=false)\/(l'.getD t 0=rkS S l t/\told S l t=true):=λt ht=>by
 rcases h.2 t ht with h|h
 ·refine .inl ⟨h.1,?_⟩
  cases e:told S l t with
  |false=>rfl
  |true=>exact absurd (ha _ (z2n e ht)) (h.2 _ (z2n e ht) rfl)
 ·exact .inr h
def zfu{l l':List Int} (h:zi2 S l seen l') {t:Nat} (ht:t<S.length) (hk:told S l t=true):zi2 S l (seen++[(esF S l t).length]) (l'.set t (rkS S l t)):=by
 refine⟨by rw[List.length_set];exact h.1,λj hj=> ?_⟩
 rw[q0b (by rw[h.1];exact ht)]
 by_cases e:j=t
 ·subst e;rw[if_pos rfl];exact .inr ⟨rfl,hk⟩
 ·rw [if_neg e]
  rcases h.2 j hj with q|q
  ·refine .inl ⟨q.1,λen he hkey hm=> ?_⟩
   rcases List.mem_append.1 hm with hm|hm
   ·exact q.2 en he hkey hm
   ·rw[List.mem_singleton]at hm
    obtain⟨t',h1,h2,rfl⟩:=z1m he
    have:(t':Int)=(j:Nat):=by injection hkey
    have ej:t'=j:=by omega
    subst ej
    have b1:=z2n h2 (i:=S.length) h1
    have b2:=z2n hk (i:=S.length) ht
    have hnd:((esF S l S.length).map (·.born)).Nodup:=z5q S.length
    have hm:(esF S l t').length=(esF S l t).length:=hm
    rcases Nat.lt_or_gt_of_ne e with hlt|hlt
    ·have m:=z2n h2 (i:=t) hlt
     have:=z6i (S:=S) (l:=l) t _ m
     have:(esF S l t').length<(esF S l t).length:=this
     omega
    ·have m:=z2n hk (i:=t') hlt
     have:=z6i (S:=S) (l:=l) t' _ m
     have:(esF S l t).length<(esF S l t').length:=this
     omega
  ·exact .inr q
def z82:q1v P 17 z5n:=by
  refine qkh mixed (qdw (qhr zbh qkx)) (qen qkw) (W:=zic) Try.func17 (by kernel_rfl) (show 1<=1 by decide) (show 1<=1 by decide) (λs=>by kernel_rfl) λ⟨S,(x:SV)⟩=>(zf7 S x).mpr ?_
  rintro hS ⟨p,_,hx⟩
  have hxl:x.2.1=S.length:=hx.1.1
  have h60:=hS.1
  simp only[hxl,zfr]
  simp only[sbS,Int.toNat_natCast,exists_const]
  refine⟨⟨by omega,by omega,by omega,by omega⟩,⟨(0,List.replicate S.length 0),rfl,z4v _,Nat.zero_le _,by simp,λj hj=>absurd hj (by show¬j<0;omega)⟩,?_⟩
  rintro⟨i,l⟩ ⟨hi,hn,hz⟩
  have hi:i<=S.length:=hi
  have hn:l.length=S.length:=hn
  have hz:∀j,j<i->l.getD j 0= -1:=hz
  refine⟨λhlt=> ?_,λhge=> ?_⟩
  · have hi1:i<S.length:=by omega
    refine⟨⟨by omega,by omega⟩,by rw[z27];show 0+i*1+1<=l.length;omega,⟨by omega,by omega⟩,(i+1,l.set i (-1)),by show((i+1:Nat):Int)=_;omega,?_,⟨by show i+1<=_;omega,by show(l.set i (-1)).length=_;rw[List.length_set];exact hn,λj hj=> ?_⟩,by show S.length- (i+1)<S.length- i;omega⟩
    · rw[show 0+i*1=i by omega];exact(z3o l i (-1)).symm
    · have hj:j<i+1:=hj
      show(l.set i (-1)).getD j 0= -1
      rw[q0b (by omega)]
      by_cases e:j=i
      · rw[if_pos e]
      · rw[if_neg e];exact hz j (by omega)
  · have hi1:i=S.length:=by omega
    subst hi1
    refine⟨⟨l,rfl,ze6 h60 hn hz⟩,?_⟩
    clear hz hn hi hge
    intro l hr
    have hn:=hr.1
    have hl:z2x l 1000000:=⟨hr.2.1.1,λr hm=>by have:=hr.2.1.2 r hm;omega⟩
    refine⟨⟨0,rfl,rfl,rfl,Nat.zero_le _⟩,λi hi=>⟨λhlt=> ?_,λhge=> ?_⟩⟩
    · have hi1:i<S.length:=by omega
      have A:=λ(q:Pub) (hq:z09 S x q)=>z0b z0y (by decide) hq.1 hi1
      obtain⟨_,_,_,_,_,_,_,g1,g2,g3⟩:=z1r hS hi1
      refine⟨⟨by omega,by omega⟩,(A p hx).1,S[i].k,S[i].nm,S[i].al.1,S[i].al.2.1,S[i].al.2.2,S[i].it,S[i].sy.1,S[i].sy.2.1,S[i].sy.2.2,S[i].hd,S[i].df,S[i].sz,S[i].f.1,S[i].f.2.1,S[i].f.2.2,S[i].br.1,S[i].br.2.1,S[i].br.2.2,λq hq=>(A q hq).2,(S[i],l),rfl,rfl,rfl,rfl,rfl,rfl,rfl,rfl,rfl,rfl,rfl,rfl,rfl,rfl,rfl,rfl,rfl,rfl,by show l.length=_;omega,rfl,⟨hl,by show S[i].brs.length<=1000;omega,by show S[i].fs.length<=1000;omega⟩,λq hq=>hq.2 _ (List.getElem_mem hi1),⟨by omega,by omega⟩,l.getD i 0,λj v hj=> ?_,λh1=>⟨λh2=> ?_,λh2=> ?_⟩,λh1=> ?_⟩
      · cases j with
        |succ j=>simp at hj
        | zero=>
          simp only[List.getElem?_cons_zero,Option.some.injEq]at hj
          subst hj
          rw[show 0+i*1+0=i by omega]
          exact z4w (l:=l) (by omega)
      · obtain⟨t1,t2⟩:=zfn hi1 h1 h2
        obtain⟨p1,p2⟩:=zj1 t1
        rw[t2]at p1
        exact⟨rfl,zj0 i,⟨by omega,by omega⟩,i+1,by omega,p1,p2,rfl,by omega,by omega⟩
      · have:=z7k (zbx hi1 (.inr h2))
        exact⟨⟨by omega,by omega⟩,i+1,by omega,this,by rw[this],rfl,by omega,by omega⟩
      · have:=z7k (zbx hi1 (.inl h1))
        exact⟨⟨by omega,by omega⟩,i+1,by omega,this,by rw[this],rfl,by omega,by omega⟩
    · have hi1:i=S.length:=by omega
      subst hi1
      refine⟨λhe=> ?_,λhe=> ?_⟩
      · have he:esF S l S.length=[]:=List.eq_nil_of_length_eq_zero (by omega)
        rintro b s u _
        refine⟨(l,some ⟨b,s,none⟩,S.length,u / 1),rfl,rfl,rfl,zjc hr he,λq hq=>⟨by show S.length=l.length;omega,hq.2.1,?_⟩⟩
        have:=hq.2.2
        rw[show S.length*1=(z00 inV l).length by rw[z27];omega,List.take_length]at this
        exact this
      · refine⟨⟨([],l),rfl,rfl,rfl,rfl,hn,λt ht=> .inl ⟨rfl,λ_ _ _ h=>by cases h⟩⟩,?_⟩
        rintro⟨seen,l'⟩ hu
        have hu:zi2 S l seen l':=hu
        refine⟨z6i _,Nat.le_refl _,λha=> ?_,λe hnew=>⟨z5q _,ziz _,⟨e,hnew.1,by simp⟩,λa b n hlast=> ?_⟩⟩
        · have hpos:0<(esF S l S.length).length:=by omega
          obtain⟨t,ht,htold,_⟩:=z1m (List.getElem_mem hpos)
          obtain⟨r1,r2⟩:=zfd hr hu.1 (zki hu ha) ht htold
          exact⟨l',rfl,r1,r2⟩
        · obtain⟨h1,h2⟩:=hlast
          obtain⟨t,ht,htold,hee⟩:=z1m h1
          injection hee with k1 k2 k3
          injection k1 with _ k1
          injection k2 with _ k2
          subst k1 k2
          have hb:e.born=n:=by
            have:(seen++[e.born]).getLast? =some n:=h2
            simpa using this
          have hl':l'.length=S.length:=hu.1
          refine⟨⟨by omega,by omega⟩,by rw[z27,Int.toNat_natCast];show 0+t*1+1<=l'.length;omega,(seen++[e.born],l'.set t (rkS S l t)),?_,rfl,rfl,?_,?_⟩
          · rw[Int.toNat_natCast,show 0+t*1=t by omega];exact(z3o l' t _).symm
          · show zi2 S l (seen++[e.born]) (l'.set t (rkS S l t))
            rw[hb,k3]
            exact zfu hu ht htold
          · exact z7w hnew
end
def boV(b:Bool):List Value:=[.bool b]
def boM(y:SV) (l:List Bool):PF:=⟨true,λp=>slP boV y l p,λ_ _ h e=>z0a h e⟩
def hasB(l:List Int) (bs:List Bool) (n:Nat):Prop:=∀t,t<n->bs.getD t false=decide (l.getD t 0≠ -1)
def zp8:CtR where
 σ:=List AT×SV
 args:=λ⟨S,x⟩=>[scA x]
 h:=λ_=>[]
 m:=1
 pre:=λ⟨S,x⟩=>z0c S
 mem:=λ⟨S,x⟩=>scM S x
 β:=λ_=>List Bool×SV
 post:=λ⟨S,x⟩ ⟨bs,y⟩=>bs.length=S.length/\∃l,rkE S l/\hasB l bs S.length
 pm:=λ_ ⟨bs,y⟩=>boM y bs
 r:=λ_ ⟨bs,y⟩=>svA y
 h':=λ_ _=>[]
 m':=1
def zxl:zp8.σ->WayF:=λ⟨S,x⟩=>{
 pubE:=[2]
 ann :=λid tt hh=>match zpj tt 3 with
   |some rb=>some {σ:=Nat×List Int×SV×List Bool,pre:=λ⟨i,l,y,bs⟩=>i<=S.length/\rkE S l/\bs.length=S.length/\hasB l bs i,mem:=λ⟨i,l,y,bs⟩=>inM y l,t:=λ⟨i,l,y,bs⟩=>[(13, .sv (.int .i64 (i:Nat))),(11,svA y)],h:=λ⟨i,l,y,bs⟩=>[(rb, .row 4 0 (z00 boV bs))],more:=0,μ:=λ⟨i,l,y,bs⟩=>S.length- i,keep:=[1,3,12]}
   |none=>none}
def lfK(S:List AT) (t:Int):Prop:=∃a,S[t.toNat]? =some a/\a.k=3
def cOK(S:List AT) (c:List Int):Prop:=c.length=S.length/\(∀r∈c,0<=r/\r<=2001)/\∀j:Nat,lfK S j->c.getD j 0<=1
def bkO(x y:SV) (c:List Int):List (Nat×AO):=[(1, .cells 66 (some 0) false [svA x,svA y, .msl 2 c.length 1]),(2, .row 3 0 (z00 inV c))]
abbrev BkS:=List AT×SV×SV×List Int×List Int×Int
def bkM:BkS->PF:=λ⟨S,x,y,l,c,t⟩=>⟨true,λp=>z09 S x p/\slP inV y l p,λ_ _ h e=>⟨z0t h e.1,z0a h e.2⟩⟩
def z3h:BkS->Prop:=λ⟨S,x,y,l,c,t⟩=>z0c S/\rkE S l/\cOK S c/\z0f l t≠ -1
def zxe(m:Int):CtR where
 σ:=BkS
 args:=λ⟨S,x,y,l,c,t⟩=>[.ptr 1 0, .sv (.int .i64 t)]
 h:=λ⟨S,x,y,l,c,t⟩=>bkO x y c
 m:=3
 pre:=z3h
 mem:=bkM
 β:=λ_=>Int×List Int
 post:=λ⟨S,x,y,l,c,t⟩ ⟨r,c'⟩=>((0<=r/\r<=m)/\(lfK S t->r<=1))/\cOK S c'
 pm:=λ_ _=>{}
 r:=λ_ ⟨r,c'⟩=> .sv (.int .i64 r)
 h':=λ⟨S,x,y,l,c,t⟩ ⟨r,c'⟩=>bkO x y c'
 m':=3
def z3i:CtR:=zxe 2001
def z3a:CtR:=zxe 2002
def z41:BkS->Nat:=λ⟨S,x,y,l,c,t⟩=>(z0f l t).toNat
def zi5:BkS->WayF:=λ⟨S,x,y,l,c,t⟩=>{
 spl:=λk=>match k with
  |2=>some 7
  |_=>none
 flo:=λk=>match k with
  |2=>some (7,[4])
  |_=>none
 flu:=λk=>match k with
  |2=>[(7,[0,1,2,3])]
  |_=>[]
 cut:=λk _ _=>match k with
  |3=>some {σ:=List Int,pre:=λc'=>cOK S c',t:=λ_=>[],h:=λc'=>bkO x y c',more:=0,μ:=λ_=>0,keep:=[0,1,4]}
  |_=>none}
def z8d:BkS->WayF:=λ⟨S,x,y,l,c,t⟩=>{
 spl:=λk=>match k with
  |12=>some 11
  |_=>none
 ann:=λ_ tt hh=>some {σ:=Nat×Int×List Int,pre:=λ⟨i,n,c'⟩=>i<=30/\(0<=n/\n<=2001)/\cOK S c',t:=λ⟨i,n,c'⟩=>[(24, .sv (.int .i64 (i:Nat))),(6, .sv (.int .i64 n))],h:=λ⟨i,n,c'⟩=>bkO x y c',more:=0,μ:=λ⟨i,n,c'⟩=>31- i,keep:=[0,5,22,23]}}
def lvQ(S:List AT) (t:Int) (v:GV):Prop:=PV.fits S t v.pv=true/\v.pv.sm/\v.n=0
def lvI(S:List AT) (t:Int) (i:Nat) (vs:List GV):Prop:=i<=30/\vs.length=i/\∃a,S[t.toNat]? =some a/\a.k=9/\i<=a.fs.length/\∀(j:Nat) (f:AF) (v:GV),j<i->a.fs[j]? =some f->vs[j]? =some v->PV.fits S f.ty v.pv=true/\v.pv.sm
def leQ(S:List AT) (t:Int) (v:GV) (b:Bool):Prop:=(b=true->lvQ S t v/\∃l,rkE S l/\l.getD t.toNat 0≠ -1)/\(b=false->v.x.2.1=0/\((∃l,rkE S l/\l.getD t.toNat 0= -1)\/¬lfK S t))/\v.pv.sm
def vM'(v:GV):PF:=⟨true,λp=>v.ok p,λ_ _ h e=>GV.ok_mono h e⟩
def z6e:CtR where
 σ:=BkS
 args:=λ⟨S,x,y,l,c,t⟩=>[.ptr 1 0, .sv (.int .i64 t)]
 h:=λ⟨S,x,y,l,c,t⟩=>bkO x y c
 m:=3
 pre:=z3h
 mem:=bkM
 β:=λ_=>GV
 post:=λ⟨S,x,y,l,c,t⟩ v=>lvQ S t v
 pm:=λ_ v=>vM' v
 r:=λ_ v=>v.av
 h':=λ⟨S,x,y,l,c,t⟩ v=>bkO x y c
 m':=3
def zk4(s:ByteArray) (n:Int):ByteArray:=⟨(Lib.repeatL s.data.toList n.toNat).toArray⟩
def zxf:Ct:=ctS (ByteArray×Int) (λ⟨s,n⟩=>[.string s, .int .i64 n]) fsi (λ⟨s,n⟩=>s.size=1/\0<=n/\n<=5000) (λ_=>{}) λ⟨s,n⟩=> .sv (.string (zk4 s n))
def zq8:BkS->WayF:=λ⟨S,x,y,l,c,t⟩=>{
 spl:=λk=>match k with
  |8=>some 5
  |_=>none
 flo:=λk=>match k with
  |8=>some (5,[0,1])
  |_=>none
 pubE:=[1000004]
 ann:=λ_ tt hh=>match zvf tt 6 with
  |some vb=>some {σ:=Nat×List GV,pre:=λ⟨i,vs⟩=>lvI S t i vs,mem:=λ⟨i,vs⟩=>⟨true,GV.oks vs,λ_ _ h e=>GV.oks_mono h e⟩,t:=λ⟨i,vs⟩=>[(26, .sv (.int .i64 (i:Nat)))],h:=λ⟨i,vs⟩=>[(vb, .cells 37 (some 0) false [.int .u64 0, .str [], .ssl 40 0 vs.length 5 41, .nsl, .int .i64 0]),(40, .row 37 0 (z00 GV.cells vs))],more:=60,μ:=λ⟨i,vs⟩=>31- i,keep:=[0,4,5,6,24,25]}
  |none=>none}
def z5m:CtR where
 σ:=List AT×SV×Int
 args:=λ⟨S,x,t⟩=>[scA x, .sv (.int .i64 t)]
 h:=λ_=>[]
 m:=1
 pre:=λ⟨S,x,t⟩=>z0c S/\0<=t/\t<S.length
 mem:=λ⟨S,x,t⟩=>scM S x
 β:=λ_=>GV×Bool
 post:=λ⟨S,x,t⟩ ⟨v,b⟩=>leQ S t v b
 pm:=λ_ ⟨v,b⟩=>vM' v
 r:=λ_ ⟨v,b⟩=> .tup [v.av, .sv (.bool b)]
 h':=λ_ _=>[]
 m':=1
def zi9:z5m.σ->WayF:=λ⟨S,x,t⟩=>{
 spl:=λk=>match k with
  |1=>some 2
  |_=>none
 flo:=λk=>match k with
  |1=>some (2,[0])
  |_=>none
 flu:=λk=>match k with
  |1=>[(2,[3,4,5,6])]
  |_=>[]
 cut:=λk _ _=>match k with
  |2=>some {σ:=List Int×SV×List Int,pre:=λ⟨l,y,c⟩=>rkE S l/\cOK S c,mem:=λ⟨l,y,c⟩=>inM y l,t:=λ_=>[(6, .ptr 40 0)],h:=λ⟨l,y,c⟩=>[(40, .cells 66 (some 0) false [svA x,svA y, .msl 41 c.length 1]),(41, .row 3 0 (z00 inV c))],more:=60,μ:=λ_=>0,keep:=[1,2,4,5]}
  |_=>none}
section
variable (x0:SV) (x1:List AT) (x2:List Int×Option Addr×Nat×Nat) (x3:Nat×List Int×(Option Addr×Nat×Nat)×List Bool) (x4:Nat->Option Obj) (x5:Prop) (x6 x7 x8:Nat)
 abbrev z6z:=(↑x0.2.1:Int)
 def zd7:=(True/\z09 x1 x0 x4)/\slP inV x2.2 x2.1 x4
 abbrev zv3:=(↑x2.2.2.1:Int)
 def zwg:=(zv3 x2)=(zv3 x2)/\x0.1=x0.1/\x0.2.1=x0.2.1/\x0.2.2=x0.2.2/\x5
 def zv2:=x3.1<=length x1/\rkE x1 x3.2.1/\length x3.2.2.2=length x1/\hasB x3.2.1 x3.2.2.2 x3.1
 def j28:=(0<=(↑x3.1:Int)/\(↑x3.1:Int)<(↑x3.2.2.1.2.1:Int))/\x3.2.2.1.1≠noA/\∃(i0:Int),(∀i1,(zd7 x0 x1 x2 i1)/\slP inV x3.2.2.1 x3.2.1 i1->q3i i1 (adr x3.2.2.1.1 (toNat (↑x3.1:Int)*1)) [int i64 i0])/\(0<=(↑x3.1:Int)/\(↑x3.1:Int)<(↑(toNat (z6z x0)):Int))/\(0:Nat)+toNat (↑x3.1:Int)*nat_lit 1+length [bool !decide (i0= -1)]<=length (z00 boV x3.2.2.2)/\Jb ((↑x3.1:Int)+1)/\∃(i2:Nat×List Int×(Option Addr×Nat×Nat)×List Bool),toNat (z6z x0)=toNat (z6z x0)/\i2.2.2.1.1=x3.2.2.1.1/\i2.2.2.1.2.1=x3.2.2.1.2.1/\i2.2.2.1.2.2=x3.2.2.1.2.2/\(↑i2.1:Int)=(↑x3.1:Int)+1/\zwg x0 x2 (z00 boV i2.2.2.2=spl (z00 boV x3.2.2.2) ((0:Nat)+toNat (↑x3.1:Int)*nat_lit 1) [bool !decide (i0= -1)]/\(∀i3,(zd7 x0 x1 x2 i3)/\slP inV x3.2.2.1 x3.2.1 i3->zd7 x0 x1 x2 i3)/\(∀i4,(zd7 x0 x1 x2 i4)/\slP inV x3.2.2.1 x3.2.1 i4->slP inV i2.2.2.1 i2.2.1 i4)/\(zv2 x1 i2)/\length x1- i2.1<length x1- x3.1/\True)
 def zwh:=((zd7 x0 x1 x2 x4)/\slP inV x3.2.2.1 x3.2.1 x4)/\True/\toNat (z6z x0)<=x6 / nat_lit 1/\qhu x4 (some (Addr.mk x7 x8 none)) (take (toNat (z6z x0)*nat_lit 1) (z00 boV x3.2.2.2))
 def j27:=Ji ((↑x3.1:Int)<(zv3 x2)) (j28 x0 x1 x2 x3) (∀(i5 i6 i7:Nat),(∃i8,zwh x0 x1 x2 x3 i8 i7 i5 i6)->∃(i9:List Bool×Option Addr×Nat×Nat),i9.2.1=some (Addr.mk i5 i6 none)/\i9.2.2.1=toNat (z6z x0)/\i9.2.2.2=i7 / nat_lit 1/\(length i9.1=length x1/\∃(i10:List Int),rkE x1 i10/\hasB i10 i9.1 (length x1))/\(∀i11,zwh x0 x1 x2 x3 i11 i7 i5 i6->slP boV i9.2 i9.1 i11)/\True)
 def j26:=(∃(i0:Nat×List Int×(Option Addr×Nat×Nat)×List Bool),toNat (z6z x0)=toNat (z6z x0)/\i0.2.2.1.1=x2.2.1/\i0.2.2.1.2.1=x2.2.2.1/\i0.2.2.1.2.2=x2.2.2.2/\(↑i0.1:Int)=0/\zwg x0 x2 (z00 boV i0.2.2.2=q7s [bool false] (toNat (z6z x0))/\(∀i1,zd7 x0 x1 x2 i1->zd7 x0 x1 x2 i1)/\(∀i2,zd7 x0 x1 x2 i2->slP inV i0.2.2.1 i0.2.1 i2)/\(zv2 x1 i0)/\True))/\∀(i3:Nat×List Int×(Option Addr×Nat×Nat)×List Bool),zv2 x1 i3->(∃i4,(zd7 x0 x1 x2 i4)/\slP inV i3.2.2.1 i3.2.1 i4)->j27 x0 x1 x2 i3
 def j25:=(0<=(z6z x0)/\(z6z x0)<=(z6z x0)/\(↑(1:Nat):Int)*(z6z x0)<=140737488355328/\(z6z x0)<140737488355328)/\∃(i0:List AT×Option Addr×Nat×Nat),i0.2.1=x0.1/\i0.2.2.1=x0.2.1/\i0.2.2.2=x0.2.2/\z0c i0.1/\(∀i1,True/\z09 x1 x0 i1->z09 i0.1 i0.2 i1)/\∀(i2:List Int×Option Addr×Nat×Nat),rkE i0.1 i2.1->(∃i3,zd7 x0 x1 i2 i3)->j26 x0 x1 i2
end
def zj7(S:List AT) (x:SV):qlb P (λ_=>none) (qhg [(17,z5n)]) Try.f8 zp8 (zxl) ⟨S,x⟩=(z0c S->(∃(p:Pub),True/\z09 S x p)->j25 x S):=by kernel_rfl
def has_eq:=λS x=>Eq.trans (zj7 S x) (by delta Ji Jb Jt Jf z6z zd7 zv3 zwg zv2 j28 zwh j27 j26 j25;exact rfl)
section
variable (x0:Int) (x1:List Int) (x2 x3:SV) (x4:Nat) (x5:List AT) (x6:List Int) (x7:Int×List Int) (x8:BkS) (x9:Prop)
 abbrev zwi:=x8.2.2.2.2.2=x0/\x8.2.1.1=x2.1/\x8.2.1.2.1=x2.2.1/\x8.2.1.2.2=x2.2.2/\x8.2.2.1.1=x3.1/\x8.2.2.1.2.1=x3.2.1/\x8.2.2.1.2.2=x3.2.2/\length x8.2.2.2.2.1=length x1/\z00 inV x8.2.2.2.2.1=z00 inV x1/\(z41 x8<x4+1/\z3h x8)/\(∀i0,True/\z09 x5 x2 i0/\slP inV x3 x6 i0->z09 x8.1 x8.2.1 i0/\slP inV x8.2.2.1 x8.2.2.2.1 i0)/\x9
 def zmf:=((0<=x7.1/\x7.1<=2002)/\(lfK x8.1 x8.2.2.2.2.2->x7.1<=1))/\cOK x8.1 x7.2
 abbrev zd8:=if(2001:Int)<x7.1 then 2001 else x7.1
 def zwk:=x2.1=x8.2.1.1/\x2.2.1=x8.2.1.2.1/\x2.2.2=x8.2.1.2.2/\x3.1=x8.2.2.1.1/\x3.2.1=x8.2.2.1.2.1/\x3.2.2=x8.2.2.1.2.2/\length x1=length x7.2/\x9
 def zgs:=(∀i0,True/\z09 x5 x2 i0/\slP inV x3 x1 i0->True/\z09 x5 x2 i0/\slP inV x3 x1 i0)/\cOK x5 x6/\True
 def j2b:=(0<=x0/\x0<(↑(length x7.2):Int))/\(0:Nat)+toNat x0*1+length [int i64 (zd8 x7)]<=length (z00 inV x7.2)/\∃(i0:List Int),x0=x0/\zwk i0 x2 x3 x7 x8 (z00 inV i0=spl (z00 inV x7.2) ((0:Nat)+toNat x0*1) [int i64 (zd8 x7)]/\zgs x1 x2 x3 x5 i0)
 def zsj:=(∃(i0:BkS),zwi x0 x1 x2 x3 x4 x5 x6 i0 (∀(i2:Int×List Int),zmf i2 i0->j2b x0 x6 x2 x3 x5 i2 i0))
 def j2c:=(0<=x0/\x0<(↑(length x1):Int))/\(0:Nat)+toNat x0*nat_lit 1+length [int i64 (zd8 x7)]<=length (z00 inV x7.2)/\∃(i0:List Int),x0=x0/\zwk i0 x2 x3 x7 x8 (z00 inV i0=spl (z00 inV x7.2) ((0:Nat)+toNat x0*nat_lit 1) [int i64 (zd8 x7)]/\zgs x6 x2 x3 x5 i0)
 def zwj:=zsj x0 x1 x2 x3 x4 x5 x6/\zsj x0 x1 x2 x3 x4 x5 x6/\zsj x0 x1 x2 x3 x4 x5 x6/\zsj x0 x1 x2 x3 x4 x5 x6/\∃(i0:BkS),zwi x0 x1 x2 x3 x4 x5 x6 i0 (∀(i1:Int×List Int),zmf i1 i0->j2c x0 x1 x2 x3 x5 x6 i1 i0)
 def j2a:=(zwj x0 x1 x2 x3 x4 x5 x6)/\zwj x0 x1 x2 x3 x4 x5 x6
 def zsk:=x2.1=x2.1/\x2.2.1=x2.2.1/\x2.2.2=x2.2.2/\x9
 def j2d:=(0<=x0/\x0<(↑(length x1):Int))/\∃(i0:Int),(∀(i1:Nat) (i2:Value),[int i64 i0][i1]? =some i2->(z00 inV x1)[(0:Nat)+toNat x0*1+i1]? =some i2)/\∃(i3:Int×List Int),i3.1=i0/\zsk x2 (zsk x3 (length i3.2=length x1/\z00 inV i3.2=z00 inV x1/\(((0<=i3.1/\i3.1<=2001)/\(lfK x5 x0->i3.1<=1))/\cOK x5 i3.2)/\True))
 def j29:=((0<=x0/\x0<(↑(length x1):Int))/\∃(i0:Int),(∀(i1:Nat) (i2:Value),[int i64 i0][i1]? =some i2->(z00 inV x1)[(0:Nat)+toNat x0*nat_lit 1+i1]? =some i2)/\Ji (i0=0) (j2a x0 x1 x2 x3 x4 x5 x6) (∃(i53:List Int),x0=x0/\zsk x2 (zsk x3 (length i53=length x1/\z00 inV i53=z00 inV x1/\zgs x6 x2 x3 x5 i53))))/\∀(i55:List Int),cOK x5 i55->j2d x0 i55 x2 x3 x5
end
def zae(n:Nat) (S:List AT) (x y:SV) (l c:List Int) (t:Int):qlb P (λ_=>none) (qhg [(32,z3a.below z41 (n+1))]) Try.f19 (z3i.below z41 (n+1)) (zi5) ⟨S,x,y,l,c,t⟩=(z41 (S,x,y,l,c,t)<n+1/\z3h (S,x,y,l,c,t)->(∃(p:Pub),True/\z09 S x p/\slP inV y l p)->j29 t c x y n S l):=by kernel_rfl
def count_eq:=λn S x y l c t=>Eq.trans (zae n S x y l c t) (by delta Ji Jt Jf zwi zmf zd8 zwk zgs j2b zsj j2c zwj j2a zsk j2d j29;exact rfl)
section
variable (x0:Int) (x1:SV) (x2:List AT) (x3:SV) (x4 x5:List Int) (x6:Nat) (x7:ByteArray) (x8:Option Addr) (x9:Nat) (x10:Int) (x11:Option Addr) (x12 x13:Nat) (x14:Bool) (x15:ByteArray) (x16:Int) (x17:Option Addr) (x18 x19:Nat) (x20:Option Addr) (x21 x22 x23:Nat) (x24:Int) (x25:Nat×Int×List Int) (x26:Int×List Int) (x27:BkS) (x28:Prop) (x29:Nat->Option Obj)
 abbrev z36:=True/\z09 x2 x1 x29/\slP inV x3 x4 x29
 def z70:=x1.1=x1.1/\x1.2.1=x1.2.1/\x1.2.2=x1.2.2/\x28
 def zgu:=x25.1<=30/\(0<=x25.2.1/\x25.2.1<=2001)/\cOK x2 x25.2.2
 def zmg:=x27.2.2.2.2.2=x0/\x27.2.1.1=x1.1/\x27.2.1.2.1=x1.2.1/\x27.2.1.2.2=x1.2.2/\x27.2.2.1.1=x3.1/\x27.2.2.1.2.1=x3.2.1/\x27.2.2.1.2.2=x3.2.2/\x28
 def zmj:=z09 x27.1 x27.2.1 x29/\slP inV x27.2.2.1 x27.2.2.2.1 x29
 def zmi:=((0<=x26.1/\x26.1<=2001)/\(lfK x27.1 x27.2.2.2.2.2->x26.1<=1))/\cOK x27.1 x26.2
 def zmh:=x1.1=x27.2.1.1/\x1.2.1=x27.2.1.2.1/\x1.2.2=x27.2.1.2.2/\x3.1=x27.2.2.1.1/\x3.2.1=x27.2.2.1.2.1/\x3.2.2=x27.2.2.1.2.2/\x28
 abbrev j2l:=Jb (x25.2.1+x26.1)/\Jb ((↑x25.1:Int)+1)/\∃(i0:Nat×Int×List Int),(↑x6:Int)=(↑x6:Int)/\(↑i0.1:Int)=(↑x25.1:Int)+1/\(i0.2.1=if(2001:Int)<x25.2.1+x26.1 then 2001 else x25.2.1+x26.1)/\x8=x8/\x6=x6/\x9=x9/\zmh x1 x3 x27 (length i0.2.2=length x26.2/\x0=x0/\x7=x7/\x11=x11/\x12=x12/\x13=x13/\x10=x10/\x17=x17/\x18=x18/\x19=x19/\x14=x14/\x15=x15/\x16=x16/\x8=x8/\x6=x6/\x9=x9/\x20=x20/\x21=x21/\x22=x22/\z00 inV i0.2.2=z00 inV x26.2/\(∀i1,z36 x1 x2 x3 x4 i1->z36 x1 x2 x3 x4 i1)/\(zgu x2 i0)/\(31:Nat)- i0.1<31- x25.1/\True)
 def j2i:=(0<=(↑x25.1:Int)/\(↑x25.1:Int)<(↑x6:Int))/\x8≠noA/\∃i0,∃i1,∃(i2:Nat),∃(i3:Nat),∃(i4:Int),∃(i5:Bool),∃(i6:Int),∃(i7:Int),∃i8,∃i9,∃(i10:Nat),∃(i11:Nat),∃i12,∃(i13:Nat),∃(i14:Nat),(∀i15,z36 x1 x2 x3 x4 i15->q3i i15 (adr x8 (toNat (↑x25.1:Int)*9)) [string i0,slice i1 i2 i3,int i64 i4,bool i5,int i64 i6,int i64 i7,string i8,slice i9 i10 i11,slice i12 i13 i14])/\∃(i16:BkS),zmg i4 x1 x3 i16 (length i16.2.2.2.2.1=length x25.2.2/\z00 inV i16.2.2.2.2.1=z00 inV x25.2.2/\(z41 i16<x9/\z3h i16)/\(∀i17,z36 x1 x2 x3 x4 i17->zmj i16 i17)/\∀(i18:Int×List Int),zmi i18 i16->j2l x0 x1 x2 x3 x4 x6 x7 x8 x12 x10 x11 x13 x18 x14 x15 x16 x17 x19 x21 x20 x22 x23 x25 i18 i16)
 def zgt:=(((0<=x26.1/\x26.1<=2002)/\(lfK x2 x0->x26.1<=1))/\cOK x2 x26.2)/\True
 def j2h:=Ji ((↑x25.1:Int)<(↑x6:Int)) (j2i x0 x1 x2 x3 x4 x6 x7 x8 x9 x10 x11 x12 x13 x14 x15 x16 x17 x18 x19 x20 x21 x22 x23 x25) (∃(i21:Int×List Int),i21.1=x25.2.1/\z70 x1 (z70 x3 (length i21.2=length x25.2.2/\z00 inV i21.2=z00 inV x25.2.2/\zgt x24 x2 i21)))
 def j2g:=(∃(i0:Nat×Int×List Int),(↑x6:Int)=(↑x6:Int)/\(↑i0.1:Int)=0/\i0.2.1=1/\x8=x8/\x6=x6/\x9=x9/\z70 x1 (z70 x3 (length i0.2.2=length x4/\x0=x0/\x7=x7/\x11=x11/\x12=x12/\x13=x13/\x10=x10/\x17=x17/\x18=x18/\x19=x19/\x14=x14/\x15=x15/\x16=x16/\x8=x8/\x6=x6/\x9=x9/\x20=x20/\x21=x21/\x22=x22/\z00 inV i0.2.2=z00 inV x4/\(∀i1,z36 x1 x2 x3 x5 i1->z36 x1 x2 x3 x5 i1)/\(zgu x2 i0)/\True)))/\∀(i2:Nat×Int×List Int),zgu x2 i2->j2h x0 x1 x2 x3 x5 x6 x7 x8 x23 x10 x11 x9 x12 x14 x15 x16 x17 x13 x18 x20 x19 x21 x22 x24 i2
 def j2m:=((-9223372036854775808:Int)<=1+x26.1/\(1:Int)+x26.1<=9223372036854775807)/\∃(i0:Int×List Int),i0.1=1+x26.1/\zmh x1 x3 x27 (length i0.2=length x26.2/\z00 inV i0.2=z00 inV x26.2/\zgt x0 x2 i0)
 def zsl:=∃(i0:Int×List Int),i0.1=x10/\z70 x1 (z70 x3 (length i0.2=length x4/\z00 inV i0.2=z00 inV x4/\zgt x0 x2 i0))
 def j2k:=Ji (x0<0) (zsl x10 x1 x2 x3 x4 2001) (Ji (5000<x0) (zsl x10 x1 x2 x3 x4 2001) (zsl x10 x1 x2 x3 x4 1))
 def j2j:=Ji (x0=11) (j2k x10 x1 x2 x3 x4 x16) (zsl x16 x1 x2 x3 x4 1)
 def j2f:=Ji (x0=14) (∃(i0:AT×(Option Addr×Nat×Nat)×List Int),AT.k i0.1=x0/\AT.nm i0.1=x7/\(AT.al i0.1).1=x8/\(AT.al i0.1).2.1=x6/\(AT.al i0.1).2.2=x9/\AT.it i0.1=x10/\(AT.sy i0.1).1=x11/\(AT.sy i0.1).2.1=x12/\(AT.sy i0.1).2.2=x13/\AT.hd i0.1=x14/\AT.df i0.1=x15/\AT.sz i0.1=x16/\(AT.f i0.1).1=x17/\(AT.f i0.1).2.1=x18/\(AT.f i0.1).2.2=x19/\(AT.br i0.1).1=x20/\(AT.br i0.1).2.1=x21/\(AT.br i0.1).2.2=x22/\i0.2.1.1=x1.1/\i0.2.1.2.1=x1.2.1/\i0.2.1.2.2=x1.2.2/\(z2x i0.2.2 1000000/\length (AT.brs i0.1)<=1000)/\(∀i1,z36 x3 x2 x1 x4 i1->AT.ok i0.1 i1/\slP inV i0.2.1 i0.2.2 i1)/\(0<=lbF i0.2.2 i0.1/\lbF i0.2.2 i0.1<(↑x21:Int))/\x20≠noA/\∃(i2:Int),(∀i3,z36 x3 x2 x1 x4 i3->q3i i3 (adr x20 (toNat (lbF i0.2.2 i0.1)*1)) [int i64 i2])/\AV.sv (slice x20 x21 x22)=AV.sv (slice x20 x21 x22)/\∃(i4:BkS),zmg i2 x3 x1 i4 (length i4.2.2.2.2.1=length x5/\z00 inV i4.2.2.2.2.1=z00 inV x5/\(z41 i4<x23/\z3h i4)/\(∀i5,z36 x3 x2 x1 x4 i5->zmj i4 i5)/\∀(i6:Int×List Int),zmi i6 i4->j2m x24 x3 x2 x1 i6 i4)) (j2j x0 x3 x2 x1 x5 x16 x24)
 def j2e:=(0<=x0/\x0<(↑x1.2.1:Int))/\x1.1≠noA/\∃(i0:Int),∃i1,∃i2,∃(i3:Nat),∃(i4:Nat),∃(i5:Int),∃i6,∃(i7:Nat),∃(i8:Nat),∃(i9:Bool),∃i10,∃(i11:Int),∃i12,∃(i13:Nat),∃(i14:Nat),∃i15,∃(i16:Nat),∃(i17:Nat),(∀i18,z36 x1 x2 x3 x4 i18->q3i i18 (adr x1.1 (toNat x0*10)) [int i64 i0,string i1,slice i2 i3 i4,int i64 i5,slice i6 i7 i8,bool i9,string i10,int i64 i11,slice i12 i13 i14,slice i15 i16 i17])/\Ji (i0=9) (j2g i0 x1 x2 x3 x5 x4 i13 i1 i12 i14 i5 i2 i3 i4 i9 i10 i11 i6 i7 i8 i15 i16 i17 x6 x0) (j2f i0 x3 x2 x1 x4 x5 i3 i1 i2 i4 i5 i6 i7 i8 i9 i10 i11 i12 i13 i14 i15 i16 i17 x6 x0)
end
def z6h(n:Nat) (S:List AT) (x y:SV) (l c:List Int) (t:Int):qlb P (qgc [(33,cLb)]) (qhg [(19,z3i.below z41 n)]) Try.f32 (z3a.below z41 (n+1)) (z8d) ⟨S,x,y,l,c,t⟩=(z41 (S,x,y,l,c,t)<n+1/\z3h (S,x,y,l,c,t)->(∃(p:Pub),z36 x S y l p)->j2e t x S y l c n):=by kernel_rfl
def z8q:=λn S x y l c t=>Eq.trans (z6h n S x y l c t) (by delta Ji Jb Jt Jf z36 z70 zgu zmg zmj zmi zmh j2l j2i zgt j2h j2g j2m zsl j2k j2j j2f j2e;exact rfl)
section
variable (x0:Int) (x1:SV) (x2:List AT) (x3:SV) (x4 x5:List Int) (x6:Nat) (x7:Option Addr) (x8:Nat) (x9:ByteArray) (x10:Option Addr) (x11 x12:Nat) (x13:Int) (x14:Option Addr) (x15 x16:Nat) (x17:Bool) (x18:ByteArray) (x19:Int) (x20:Option Addr) (x21 x22:Nat) (x23:Int) (x24:Nat) (x25:Nat×List GV) (x26:BkS) (x27:GV) (x28:Int) (x29:Prop) (x30:Nat->Option Obj)
 abbrev z17:=True/\z09 x2 x1 x30/\slP inV x3 x4 x30
 def zd9:=x1.1=x1.1/\x1.2.1=x1.2.1/\x1.2.2=x1.2.2/\x29
 def zmk:=x26.2.2.2.2.2=x0/\x26.2.1.1=x1.1/\x26.2.1.2.1=x1.2.1/\x26.2.1.2.2=x1.2.2/\x26.2.2.1.1=x3.1/\x26.2.2.1.2.1=x3.2.1/\x26.2.2.1.2.2=x3.2.2/\length x26.2.2.2.2.1=length x4/\z00 inV x26.2.2.2.2.1=z00 inV x4/\(z41 x26<x6/\z3h x26)/\x29
 def zmn:=z09 x26.1 x26.2.1 x30/\slP inV x26.2.2.1 x26.2.2.2.1 x30
 def zml:=x1.1=x26.2.1.1/\x1.2.1=x26.2.1.2.1/\x1.2.2=x26.2.1.2.2/\x3.1=x26.2.2.1.1/\x3.2.1=x26.2.2.1.2.1/\x3.2.2=x26.2.2.1.2.2/\length x4=length x26.2.2.2.2.1/\x29
 def j2r:=length (z00 GV.cells x25.2)=length x25.2*5/\(length x25.2+nat_lit 1)*80<=140737488355328/\Jb ((↑x25.1:Int)+1)/\∃(i0:Nat×List GV),(↑x6:Int)=(↑x6:Int)/\x7=x7/\x6=x6/\x8=x8/\(↑i0.1:Int)=(↑x25.1:Int)+1/\zml x1 x3 x4 x26 (length i0.2=length x25.2+nat_lit 1/\z00 inV x4=z00 inV x26.2.2.2.2.1/\x0=x0/\x9=x9/\x10=x10/\x11=x11/\x12=x12/\x13=x13/\x14=x14/\x15=x15/\x16=x16/\x17=x17/\x18=x18/\x19=x19/\x7=x7/\x6=x6/\x8=x8/\x20=x20/\x21=x21/\x22=x22/\z00 GV.cells i0.2=z00 GV.cells x25.2++[int u64 (GV.n x27),string (GV.s x27),slice (GV.x x27).1 (GV.x x27).2.1 (GV.x x27).2.2,slice (GV.y x27).1 (GV.y x27).2.1 (GV.y x27).2.2,int i64 (GV.b x27)]/\(∀i1,((z17 x1 x2 x3 x5 i1)/\GV.oks x25.2 i1)/\GV.ok x27 i1->z17 x1 x2 x3 x5 i1)/\(∀i2,((z17 x1 x2 x3 x5 i2)/\GV.oks x25.2 i2)/\GV.ok x27 i2->GV.oks i0.2 i2)/\lvI x2 x23 i0.1 i0.2/\(31:Nat)- i0.1<31- x25.1/\True)
 def zv4:=∃(i0:BkS),zmk x0 x1 x3 x4 x6 i0 ((∀i1,(z17 x1 x2 x3 x5 i1)/\GV.oks x25.2 i1->zmn i0 i1)/\∀(i2:GV),lvQ i0.1 i0.2.2.2.2.2 i2->(∃i3,((z17 x1 x2 x3 x5 i3)/\GV.oks x25.2 i3)/\GV.ok i2 i3)->j2r x13 x1 x2 x3 x4 x5 x8 x7 x11 x9 x10 x12 x15 x19 x14 x16 x21 x17 x18 x23 x20 x22 x24 x28 x25 i0 i2)
 def j2q:=(0<=(↑x25.1:Int)/\(↑x25.1:Int)<(↑x6:Int))/\x7≠noA/\∃i0,∃i1,∃(i2:Nat),∃(i3:Nat),∃(i4:Int),∃(i5:Bool),∃(i6:Int),∃(i7:Int),∃i8,∃i9,∃(i10:Nat),∃(i11:Nat),∃i12,∃(i13:Nat),∃(i14:Nat),(∀i15,(z17 x1 x2 x3 x4 i15)/\GV.oks x25.2 i15->q3i i15 (adr x7 (toNat (↑x25.1:Int)*9)) [string i0,slice i1 i2 i3,int i64 i4,bool i5,int i64 i6,int i64 i7,string i8,slice i9 i10 i11,slice i12 i13 i14])/\(zv4 i4 x1 x2 x3 x5 x4 x8 x7 x6 x9 x10 x11 x12 x0 x14 x15 x16 x17 x18 x13 x20 x21 x22 x19 x24 x25 x23)/\(zv4 i4 x1 x2 x3 x5 x4 x8 x7 x6 x9 x10 x11 x12 x0 x14 x15 x16 x17 x18 x13 x20 x21 x22 x19 x24 x25 x23)/\zv4 i4 x1 x2 x3 x5 x4 x8 x7 x6 x9 x10 x11 x12 x0 x14 x15 x16 x17 x18 x13 x20 x21 x22 x19 x24 x25 x23
 def zmo:=(GV.y x27).1=noA/\(GV.y x27).2.1=0/\(GV.y x27).2.2=0/\x29
 def zwl:=zmo x27 (GV.b x27=0/\zd9 x1 (zd9 x3 (length x4=length x4/\z00 inV x4=z00 inV x4/\x29)))
 def j2p:=Ji ((↑x25.1:Int)<(↑x6:Int)) (j2q x0 x1 x2 x3 x4 x5 x6 x7 x8 x9 x10 x11 x12 x13 x14 x15 x16 x17 x18 x19 x20 x21 x22 x23 x24 x25) (∀(i37 i38 i39:Nat) (i40:Option Addr) (i41 i42:Nat),(∃i43,((z17 x1 x2 x3 x4 i43)/\GV.oks x25.2 i43)/\length x25.2<=i42/\qhu i43 i40 (take (length x25.2*nat_lit 5) (z00 GV.cells x25.2)))->∃(i44:GV),GV.n i44=0/\GV.s i44=mkS []/\(GV.x i44).1=i40/\(GV.x i44).2.1=length x25.2/\(GV.x i44).2.2=i42/\zwl x1 x3 x5 i44 (lvQ x2 x23 i44/\(∀i45,((z17 x1 x2 x3 x4 i45)/\GV.oks x25.2 i45)/\length x25.2<=i42/\qhu i45 i40 (take (length x25.2*nat_lit 5) (z00 GV.cells x25.2))->GV.ok i44 i45)/\True))
 def j2o:=(∃(i0:Nat×List GV),(↑x6:Int)=(↑x6:Int)/\x7=x7/\x6=x6/\x8=x8/\(↑i0.1:Int)=0/\zd9 x1 (zd9 x3 (length x4=length x4/\length i0.2=0/\z00 inV x4=z00 inV x4/\x0=x0/\x9=x9/\x10=x10/\x11=x11/\x12=x12/\x13=x13/\x14=x14/\x15=x15/\x16=x16/\x17=x17/\x18=x18/\x19=x19/\x7=x7/\x6=x6/\x8=x8/\x20=x20/\x21=x21/\x22=x22/\(∀i1,z17 x1 x2 x3 x5 i1->z17 x1 x2 x3 x5 i1)/\(∀i2,z17 x1 x2 x3 x5 i2->GV.oks i0.2 i2)/\lvI x2 x23 i0.1 i0.2/\True)))/\∀(i3:Nat×List GV),lvI x2 x23 i3.1 i3.2->(∃i4,(z17 x1 x2 x3 x5 i4)/\GV.oks i3.2 i4)->j2p x0 x1 x2 x3 x5 x4 x6 x7 x24 x9 x10 x8 x11 x13 x14 x12 x15 x17 x18 x19 x20 x16 x21 x23 x22 i3
 def zmm:=(GV.x x27).1=noA/\(GV.x x27).2.1=0/\(GV.x x27).2.2=0/\zwl x1 x3 x4 x27 (lvQ x2 x0 x27/\(∀i0,z17 x1 x2 x3 x5 i0->GV.ok x27 i0)/\True)
 def j2u:=mkS [0]=mkS [0]/\x0=x0/\(size (mkS [0])=1/\0<=x0/\x0<=5000)/\∃(i0:GV),GV.n i0=0/\GV.s i0=zk4 (mkS [0]) x0/\zmm x13 x1 x2 x3 x4 x5 i0
 def j2t:=Ji (x0=11) (j2u x13 x1 x2 x3 x4 x5 x19) (∃(i2:GV),GV.n i2=0/\GV.s i2=mkS []/\zmm x19 x1 x2 x3 x4 x5 i2)
 def j2s:=Ji (x0=14) (∃(i0:AT×(Option Addr×Nat×Nat)×List Int),AT.k i0.1=x0/\AT.nm i0.1=x9/\(AT.al i0.1).1=x7/\(AT.al i0.1).2.1=x6/\(AT.al i0.1).2.2=x8/\AT.it i0.1=x13/\(AT.sy i0.1).1=x10/\(AT.sy i0.1).2.1=x11/\(AT.sy i0.1).2.2=x12/\AT.hd i0.1=x17/\AT.df i0.1=x18/\AT.sz i0.1=x19/\(AT.f i0.1).1=x14/\(AT.f i0.1).2.1=x15/\(AT.f i0.1).2.2=x16/\(AT.br i0.1).1=x20/\(AT.br i0.1).2.1=x21/\(AT.br i0.1).2.2=x22/\i0.2.1.1=x1.1/\i0.2.1.2.1=x1.2.1/\i0.2.1.2.2=x1.2.2/\(z2x i0.2.2 1000000/\length (AT.brs i0.1)<=1000)/\(∀i1,z17 x3 x2 x1 x4 i1->AT.ok i0.1 i1/\slP inV i0.2.1 i0.2.2 i1)/\(0<=lbF i0.2.2 i0.1/\lbF i0.2.2 i0.1<(↑x21:Int))/\x20≠noA/\∃(i2:Int),(∀i3,z17 x3 x2 x1 x4 i3->q3i i3 (adr x20 (toNat (lbF i0.2.2 i0.1)*1)) [int i64 i2])/\∃(i4:BkS),zmk i2 x3 x1 x5 x24 i4 ((∀i5,z17 x3 x2 x1 x4 i5->zmn i4 i5)/\∀(i6:GV),lvQ i4.1 i4.2.2.2.2.2 i6->(∃i7,(z17 x3 x2 x1 x4 i7)/\GV.ok i6 i7)->∀(i8 i9 i10:Nat),(∃i11,((z17 x3 x2 x1 x4 i11)/\GV.ok i6 i11)/\q3i i11 (Addr.mk i8 i9 none) [int u64 (GV.n i6),string (GV.s i6),slice (GV.x i6).1 (GV.x i6).2.1 (GV.x i6).2.2,slice (GV.y i6).1 (GV.y i6).2.1 (GV.y i6).2.2,int i64 (GV.b i6)])->∃(i12:GV),GV.n i12=0/\GV.s i12=mkS []/\(GV.x i12).1=some (Addr.mk i8 (i9+nat_lit 0) none)/\(GV.x i12).2.1=nat_lit 1/\(GV.x i12).2.2=nat_lit 1/\zmo i12 (GV.b i12=lbF i0.2.2 i0.1/\zml x3 x1 x5 i4 (z00 inV x5=z00 inV i4.2.2.2.2.1/\lvQ x2 x23 i12/\(∀i13,(((z17 x3 x2 x1 x4 i13)/\GV.ok i6 i13)/\∀(i14:Nat) (i15:Value),[int u64 (GV.n i6),string (GV.s i6),slice (GV.x i6).1 (GV.x i6).2.1 (GV.x i6).2.2,slice (GV.y i6).1 (GV.y i6).2.1 (GV.y i6).2.2,int i64 (GV.b i6)][i14]? =some i15->q6f i13 (Addr.add (Addr.mk i8 i9 none) i14)=some i15)->GV.ok i12 i13)/\True)))) (j2t x0 x3 x2 x1 x5 x4 x19 x23)
 def j2n:=(0<=x0/\x0<(↑x1.2.1:Int))/\x1.1≠noA/\∃(i0:Int),∃i1,∃i2,∃(i3:Nat),∃(i4:Nat),∃(i5:Int),∃i6,∃(i7:Nat),∃(i8:Nat),∃(i9:Bool),∃i10,∃(i11:Int),∃i12,∃(i13:Nat),∃(i14:Nat),∃i15,∃(i16:Nat),∃(i17:Nat),(∀i18,z17 x1 x2 x3 x4 i18->q3i i18 (adr x1.1 (toNat x0*10)) [int i64 i0,string i1,slice i2 i3 i4,int i64 i5,slice i6 i7 i8,bool i9,string i10,int i64 i11,slice i12 i13 i14,slice i15 i16 i17])/\Ji (i0=9) (j2o i0 x1 x2 x3 x5 x4 i13 i12 i14 i1 i2 i3 i4 i5 i6 i7 i8 i9 i10 i11 i15 i16 i17 x0 x6) (j2s i0 x3 x2 x1 x4 x5 i3 i2 i4 i1 i6 i7 i8 i5 i12 i13 i14 i9 i10 i11 i15 i16 i17 x0 x6)
end
def zer(n:Nat) (S:List AT) (x y:SV) (l c:List Int) (t:Int):qlb P (qgc [(33,cLb),(34,zxf)]) (qhg [(20,z6e.below z41 n)]) Try.f20 (z6e.below z41 (n+1)) (zq8) ⟨S,x,y,l,c,t⟩=(z41 (S,x,y,l,c,t)<n+1/\z3h (S,x,y,l,c,t)->(∃(p:Pub),z17 x S y l p)->j2n t x S y l c n):=by kernel_rfl
def zjk:=λn S x y l c t=>Eq.trans (zer n S x y l c t) (by delta Ji Jb Jt Jf z17 zd9 zmk zmn zml j2r zv4 j2q zmo zwl j2p j2o zmm j2u j2t j2s j2n;exact rfl)
section
variable (x0:SV) (x1:List AT) (x2:Int) (x3:List Int×Option Addr×Nat×Nat) (x4:Int×List Int) (x5:List Int×(Option Addr×Nat×Nat)×List Int) (x6:BkS) (x7:List AT×Option Addr×Nat×Nat) (x8:Prop) (x9:Nat->Option Obj)
 abbrev zwq:=x7.2.1=x0.1/\x7.2.2.1=x0.2.1/\x7.2.2.2=x0.2.2/\z0c x7.1/\(∀i0,True/\z09 x1 x0 i0->z09 x7.1 x7.2 i0)/\x8
 abbrev zij:=(↑x0.2.1:Int)
 def zwp:=(0<=(zij x0)/\(zij x0)<=(zij x0)/\(↑(8:Nat):Int)*(zij x0)<=140737488355328/\(zij x0)<140737488355328)
 def zmp:=x0.1=x0.1/\x0.2.1=x0.2.1/\x0.2.2=x0.2.2/\x8
 def zwn:=∃(i0:List Int×(Option Addr×Nat×Nat)×List Int),x2=x2/\zmp x0 (z00 inV i0.2.2=q7s [int i64 0] (toNat (zij x0))/\zmp x0 (i0.2.1.1=x3.2.1/\i0.2.1.2.1=x3.2.2.1/\i0.2.1.2.2=x3.2.2.2/\length i0.2.2=toNat (zij x0)/\(∀i1,(True/\z09 x1 x0 i1)/\slP inV x3.2 x3.1 i1->True/\z09 x1 x0 i1)/\(∀i2,(True/\z09 x1 x0 i2)/\slP inV x3.2 x3.1 i2->slP inV i0.2.1 i0.1 i2)/\(rkE x1 i0.1/\cOK x1 i0.2.2)/\True))
 def j2w:=zwp x0/\zwn x0 x1 x2 x3
 def zsm:=(∃(i0:List AT×Option Addr×Nat×Nat),zwq x0 x1 i0 (∀(i2:List Int×Option Addr×Nat×Nat),rkE i0.1 i2.1->(∃i3,(True/\z09 x1 x0 i3)/\slP inV i2.2 i2.1 i3)->j2w x0 x1 x2 i2))
 def zwm:=zsm x0 x1 x2/\zsm x0 x1 x2/\zsm x0 x1 x2/\zsm x0 x1 x2/\zwp x0/\∃(i16:List AT×Option Addr×Nat×Nat),zwq x0 x1 i16 (∀(i18:List Int×Option Addr×Nat×Nat),rkE i16.1 i18.1->(∃i19,(True/\z09 x1 x0 i19)/\slP inV i18.2 i18.1 i19)->zwn x0 x1 x2 i18)
 def z65:=(True/\z09 x1 x0 x9)/\slP inV x5.2.1 x5.1 x9
 def zwo:=∃(i0:GV×Bool),GV.n i0.1=0/\GV.s i0.1=mkS []/\(GV.x i0.1).1=noA/\(GV.x i0.1).2.1=0/\(GV.x i0.1).2.2=0/\(GV.y i0.1).1=noA/\(GV.y i0.1).2.1=0/\(GV.y i0.1).2.2=0/\GV.b i0.1=0/\i0.2=false/\leQ x1 x2 i0.1 i0.2/\(∀i1,z65 x0 x1 x5 i1->GV.ok i0.1 i1)/\True
 def zmq:=z09 x6.1 x6.2.1 x9/\slP inV x6.2.2.1 x6.2.2.2.1 x9
 def j2x:=Ji (2001<=x4.1) (zwo x0 x1 x2 x5) (∃(i2:BkS),i2.2.2.2.2.2=x2/\i2.2.1.1=x6.2.1.1/\i2.2.1.2.1=x6.2.1.2.1/\i2.2.1.2.2=x6.2.1.2.2/\i2.2.2.1.1=x6.2.2.1.1/\i2.2.2.1.2.1=x6.2.2.1.2.1/\i2.2.2.1.2.2=x6.2.2.1.2.2/\length i2.2.2.2.2.1=length x4.2/\z00 inV i2.2.2.2.2.1=z00 inV x4.2/\z3h i2/\(∀i3,z65 x0 x1 x5 i3->zmq i2 i3)/\∀(i4:GV),lvQ i2.1 i2.2.2.2.2.2 i4->(∃i5,(z65 x0 x1 x5 i5)/\GV.ok i4 i5)->∃(i6:GV×Bool),GV.n i6.1=GV.n i4/\GV.s i6.1=GV.s i4/\(GV.x i6.1).1=(GV.x i4).1/\(GV.x i6.1).2.1=(GV.x i4).2.1/\(GV.x i6.1).2.2=(GV.x i4).2.2/\(GV.y i6.1).1=(GV.y i4).1/\(GV.y i6.1).2.1=(GV.y i4).2.1/\(GV.y i6.1).2.2=(GV.y i4).2.2/\GV.b i6.1=GV.b i4/\i6.2=true/\leQ x1 x2 i6.1 i6.2/\(∀i7,(z65 x0 x1 x5 i7)/\GV.ok i4 i7->GV.ok i6.1 i7)/\True)
 def j2v:=((zwm x0 x1 x2)/\zwm x0 x1 x2)/\∀(i70:List Int×(Option Addr×Nat×Nat)×List Int),rkE x1 i70.1/\cOK x1 i70.2.2->(∃i71,z65 x0 x1 i70 i71)->∃(i72:(Option Addr×Nat×Nat)×List Int×Int),i72.1.1=i70.2.1.1/\i72.1.2.1=i70.2.1.2.1/\i72.1.2.2=i70.2.1.2.2/\i72.2.2=x2/\z2x i72.2.1 1000000/\(∀i73,z65 x0 x1 i70 i73->slP inV i72.1 i72.2.1 i73)/\Ji (z0f i72.2.1 i72.2.2= -1) (zwo x0 x1 x2 i70) (∃(i76:BkS),i76.2.2.2.2.2=x2/\i76.2.1.1=x0.1/\i76.2.1.2.1=x0.2.1/\i76.2.1.2.2=x0.2.2/\i76.2.2.1.1=i70.2.1.1/\i76.2.2.1.2.1=i70.2.1.2.1/\i76.2.2.1.2.2=i70.2.1.2.2/\length i76.2.2.2.2.1=length i70.2.2/\z00 inV i76.2.2.2.2.1=z00 inV i70.2.2/\z3h i76/\(∀i77,z65 x0 x1 i70 i77->zmq i76 i77)/\∀(i78:Int×List Int),((0<=i78.1/\i78.1<=2001)/\(lfK i76.1 i76.2.2.2.2.2->i78.1<=1))/\cOK i76.1 i78.2->j2x x0 x1 x2 i78 i70 i76)
end
def zb1(S:List AT) (x:SV) (t:Int):qlb P (qgc [(18,cAt)]) (qhg [(17,z5n),(19,z3i),(20,z6e)]) Try.f9 z5m (zi9) ⟨S,x,t⟩=(z0c S/\0<=t/\t<(↑(length S):Int)->(∃(p:Pub),True/\z09 S x p)->j2v x S t):=by kernel_rfl
def zeo:=λS x t=>Eq.trans (zb1 S x t) (by delta Ji Jt Jf zwq zij zwp zmp zwn j2w zsm zwm z65 zwo zmq j2x j2v;exact rfl)
section
def z1q:∀l:List Bool,z00 boV l=l.map Value.bool
 | []=>rfl
 |x::l=>by rw[z00,z1q l];rfl
def z4j(l:List Bool):(z00 boV l).length=l.length:=by rw[z1q,List.length_map]
def zbm(l:List Bool) (i:Nat) (b:Bool):spl (z00 boV l) i [.bool b]=z00 boV (l.set i b):=by
 rw[z1q,z1q,List.map_set];rfl
def zbl(n:Nat):z00 boV (List.replicate n false)=q7s [.bool false] n:=by
 rw[z1q,z5f,List.map_replicate]
def zeg{l:List Bool} {i j:Nat} {b:Bool} (h:i<l.length):(l.set i b).getD j false=if j=i then b else l.getD j false:=by
 rw[List.getD_eq_getElem?_getD,List.getElem?_set,List.getD_eq_getElem?_getD]
 by_cases e:i=j
 ·subst e;rw[if_pos rfl,if_pos h,if_pos rfl];rfl
 ·rw[if_neg e,if_neg (λh=>e h.symm)]
def zhs:q1v P 8 zp8:=by
 refine qkh mixed z0o (qen (qhq z82 qkw)) (W:=zxl) Try.func8 (by kernel_rfl) (show 1<=1 by decide) (show 1<=1 by decide) (λs=>by kernel_rfl) λ⟨S,(x:SV)⟩=>(has_eq S x).mpr ?_
 rintro hS ⟨p,_,hx⟩
 have hxl:x.2.1=S.length:=hx.1.1
 have h60:=hS.1
 simp only[hxl]
 simp only[sbS,Int.toNat_natCast,exists_const]
 refine⟨⟨by omega,by omega,by omega,by omega⟩,(S,x),rfl,hxl,rfl,hS,λq hq=>hq,?_⟩
 rintro⟨l,y⟩ hE ⟨p1,_,hy⟩
 have hE:rkE S l:=hE
 have hyl:y.2.1=l.length:=hy.1
 have hln:l.length=S.length:=hE.1.1
 refine⟨⟨(0,l,y,List.replicate S.length false),rfl,rfl,rfl,rfl,zbl _,λq hq=>hq.2,Nat.zero_le _,hE,by show(List.replicate S.length false).length=_;simp,λt ht=>absurd ht (by show¬t<0;omega)⟩,?_⟩
 rintro⟨i,l1,y1,bs⟩ ⟨hi,hE1,hbl,hb⟩ ⟨p2,_,hy1⟩
 have hi:i<=S.length:=hi
 have hE1:rkE S l1:=hE1
 have hbl:bs.length=S.length:=hbl
 have hb:hasB l1 bs i:=hb
 have hyl1:y1.2.1=l1.length:=hy1.1
 have hln1:l1.length=S.length:=hE1.1.1
 simp only[hyl]
 refine⟨λhlt=> ?_,λhge=> ?_⟩
 ·have hi1:i<S.length:=by omega
  have hi2:i<l1.length:=by omega
  have e1:l1[i]=l1.getD i 0:=by rw[List.getD_eq_getElem?_getD,List.getElem?_eq_getElem hi2];rfl
  refine⟨⟨by omega,by show(i:Int)<y1.2.1;omega⟩,(z0b z1b (by decide) hy1 hi2).1,l1[i],λq hq=>(z0b z1b (by decide) hq.2 hi2).2,⟨by omega,by omega⟩,by rw[z4j];show 0+i*1+1<=bs.length;omega,⟨by omega,by omega⟩,(i+1,l1,y1,bs.set i (!decide (l1[i]= -1))),rfl,rfl,rfl,by show((i+1:Nat):Int)=_;omega,?_,λq hq=>hq.1,λq hq=>hq.2,⟨by show i+1<=_;omega,hE1,by show(bs.set i _).length=_;rw[List.length_set];exact hbl,λt ht=> ?_⟩,by show S.length- (i+1)<S.length- i;omega⟩
  ·rw[show 0+i*1=i by omega];exact(zbm bs i _).symm
  ·have ht:t<i+1:=ht
   show(bs.set i (!decide (l1[i]= -1))).getD t false=decide (l1.getD t 0≠ -1)
   rw[zeg (by omega)]
   by_cases e:t=i
   ·subst e;rw[if_pos rfl,e1,decide_not]
   ·rw[if_neg e];exact hb t (by omega)
 ·have hi1:i=S.length:=by omega
  subst hi1
  rintro b s u _
  refine⟨(bs,some ⟨b,s,none⟩,S.length,u / 1),rfl,rfl,rfl,⟨hbl,l1,hE1,hb⟩,λq hq=>⟨by show S.length=bs.length;omega,hq.2.1,?_⟩⟩
  have:=hq.2.2
  rw[show S.length*1=(z00 boV bs).length by rw[z4j];omega,List.take_length]at this
  exact this
variable {S:List AT} {c:List Int}
def zis{k:Nat} {v:Int} (hk:k<c.length) (h:cOK S c) (h0:0<=v) (h1:v<=2001) (h2:lfK S k->v<=1):cOK S (c.set k v):=by
 refine⟨by rw[List.length_set];exact h.1,λr hr=> ?_,λj hj=> ?_⟩
 ·rcases List.mem_or_eq_of_mem_set hr with h'|rfl
  ·exact h.2.1 r h'
  ·exact⟨h0,h1⟩
 ·rw[q0b hk]
  split
  ·rename_i e;subst e;exact h2 hj
  ·exact h.2.2 j hj
def zj5(h:cOK S c) {k:Nat} (hk:k<c.length):0<=c.getD k 0/\c.getD k 0<=2001:=h.2.1 _ (z4t hk)
def z5v{k:Nat} (hk:k<c.length):∀(j:Nat) (v:Value),[Value.int .i64 (c.getD k 0)][j]? =some v->(z00 inV c)[0+k*1+j]? =some v:=λj v hj=>by
  cases j with
  |succ j=>simp at hj
  | zero=>
    simp only[List.getElem?_cons_zero,Option.some.injEq]at hj
    subst hj
    rw[show 0+k*1+0=k by omega]
    exact z4w hk
def zdx(n:Nat) (h0:q1v P 32 (z3a.below z41 (n+1))):q1v P 19 (z3i.below z41 (n+1)):=by
 refine qkh mixed z0o (qen (qhq h0 qkw)) (W:=zi5) Try.func19 (by kernel_rfl) (show 1<=3 by decide) (show 3<=3 by decide) (λs=>by kernel_rfl) λ⟨S,(x:SV),(y:SV),l,c,(t:Int)⟩=>(count_eq n S x y l c t).mpr ?_
 rintro⟨hmu,hS,hE,hc,hr⟩ ⟨p,_,hx,hy⟩
 obtain⟨k,rfl,hk,hk2⟩:=z22 hr
 have hln:l.length=S.length:=hE.1.1
 have hcl:c.length=S.length:=hc.1
 simp only[sbS,Int.toNat_natCast,exists_const]
 have hkc:k<c.length:=by omega
 refine⟨⟨⟨by omega,by omega⟩,c.getD k 0,z5v hkc,λh0=> ?_,λh0=>⟨c,rfl,rfl,hc⟩⟩,λs hs=> ?_⟩
 ·refine⟨⟨?_,?_,?_,?_,?_⟩,?_,?_,?_,?_,?_⟩
  all_goals
   refine⟨(S,x,y,l,c,k),rfl,rfl,rfl,rfl,rfl,rfl,rfl,rfl,rfl,⟨hmu,hS,hE,hc,hr⟩,λq hq=>hq,λb hb=> ?_⟩
   obtain⟨⟨⟨b0,b1⟩,b3⟩,hb2⟩:=hb
   have hbl:b.2.length=S.length:=hb2.1
   refine⟨⟨by omega,by omega⟩,by rw[z27];show 0+k*1+1<=b.2.length;omega,b.2.set k (if 2001<b.1 then 2001 else b.1),rfl,rfl,rfl,rfl,rfl,rfl,List.length_set,?_,zis (by omega) hb2 (by split<;>omega) (by split<;>omega) (λhl=>by have:=b3 hl;split<;>omega)⟩
   rw[show 0+k*1=k by omega]
   exact(z3o b.2 k _).symm
 ·have hsl:s.length=S.length:=hs.1
  have hks:k<s.length:=by omega
  exact⟨⟨by omega,by omega⟩,s.getD k 0,z5v hks,(s.getD k 0,s),rfl,rfl,rfl,⟨zj5 hs hks,hs.2.2 k⟩,hs⟩
end
section
variable (x0:TmB) (x1:GJ) (x2:TmS) (x3:Nat->Option Obj) (x4:Nat) (x5:Option Addr)
 def j2z:=AV.sv (int i64 x0.2.1)=AV.sv (int i64 x0.2.1)/\∃(i0:List AT×(Option Addr×Nat×Nat)×Int),i0.2.1.1=noA/\i0.2.1.2.1=0/\i0.2.1.2.2=0/\i0.2.2=x0.2.1/\(z0c i0.1/\(i0.2.2=0->i0.1≠[]))/\(∀i1,((True/\GJ.ok x1 i1)/\∀(i2:AT),i2∈x0.1->AT.ok i2 i1)->z09 i0.1 i0.2.1 i1)/\True
 def zwr:=((True/\GJ.ok x1 x3)/\∀(i0:AT),i0∈x0.1->AT.ok i0 x3)/\length (x2.1++x0.1)<=x4/\qhu x3 x5 (take (length (x2.1++x0.1)*nat_lit 10) (z00 AT.cells (x2.1++x0.1)))
 def j2y:=((!decide (x0.2.1=0))=true->j2z x0 x1)/\((!decide (x0.2.1=0))=false->∀(i3 i4 i5:Nat) (i6:Option Addr) (i7 i8:Nat),(∃i9,zwr x0 x1 x2 i9 i8 i6)->∃(i11:List AT×(Option Addr×Nat×Nat)×Int),i11.2.1.1=i6/\i11.2.1.2.1=length (x2.1++x0.1)/\i11.2.1.2.2=i8/\i11.2.2=0/\(z0c i11.1/\(i11.2.2=0->i11.1≠[]))/\(∀i12,zwr x0 x1 x2 i12 i8 i6->z09 i11.1 i11.2.1 i12)/\True)
end
def zar(g:GJ):qlb P (qgc []) (qhg [(28,z1i)]) Try.f14 za6 (zi7) g=(GJ.wf g->(∃(p:Pub),True/\GJ.ok g p)->∃(s:TmS),GJ.k s.2.2.1=GJ.k g/\GJ.n s.2.2.1=GJ.n g/\GJ.s s.2.2.1=GJ.s g/\(GJ.y s.2.2.1).1=(GJ.y g).1/\(GJ.y s.2.2.1).2.1=(GJ.y g).2.1/\(GJ.y s.2.2.1).2.2=(GJ.y g).2.2/\(GJ.x s.2.2.1).1=(GJ.x g).1/\(GJ.x s.2.2.1).2.1=(GJ.x g).2.1/\(GJ.x s.2.2.1).2.2=(GJ.x g).2.2/\s.2.2.2.1=mkS []/\s.2.2.2.2=1/\length s.1=0/\s.2.1=0/\z2f s/\(∀(p:Pub),True/\GJ.ok g p->GJ.ok s.2.2.1 p)/\∀(b:TmB),z0g s b->(∃(p:Pub),(True/\GJ.ok g p)/\∀(a:AT),a∈b.1->AT.ok a p)->j2y b g s):=by kernel_rfl
def zed:=λg=>Eq.trans (zar g) (by delta j2z zwr j2y;exact rfl)
def zee:q1v P 14 za6:=by
 refine qkh mixed (qdw qkx) (qen (qhq zbz qkw)) (W:=zi7) Try.func14 (by kernel_rfl) (show 1<=1 by decide) (show 1<=1 by decide) (λs=>by kernel_rfl) λg=>(zed g).mpr ?_
 rintro hg ⟨p,_,hp⟩
 simp only[sbS,exists_const,forall_const,Int.toNat_natCast]
 refine⟨⟨[],0,g,mkS [],1⟩,rfl,rfl,rfl,rfl,rfl,rfl,rfl,rfl,rfl,rfl,rfl,rfl,rfl,⟨Nat.zero_le _,hg,by decide,by decide,by show((0:Nat):Int)<=_;decide⟩,λq hq=>hq,?_⟩
 rintro⟨T,e,r⟩ ⟨⟨hT,hT2⟩,hr⟩ _
 simp only at hT hT2 hr⊢
 rw[List.nil_append]at hT hT2 hr
 refine⟨λhne=>⟨⟨[],(none,0,0),e⟩,rfl,rfl,rfl,rfl,⟨⟨Nat.zero_le _,λa ha=>(by cases ha)⟩,λh=>absurd h hne⟩,λq hq=>⟨z04,λa ha=>(by cases ha)⟩⟩,λhe=> ?_⟩
 intro a c _
 obtain⟨_,hg2⟩:=hT2 he
 refine⟨⟨T,(a,T.length,c),0⟩,rfl,rfl,rfl,rfl,⟨⟨hT,hg2⟩,λ_ h=> ?_⟩,λq hq=>⟨⟨rfl,hq.2.1,?_⟩,hq.1.2⟩⟩
 ·have h:T=[]:=h
  subst h;have:=hr he;simp at this;omega
 ·have:=hq.2.2
  rw[List.nil_append,List.take_of_length_le (by rw[z01 z0y];exact Nat.le_refl _)]at this
  exact this
def ctN(σ:Type) (args:σ->List AV) (pre:σ->Prop) (mem:σ->PF) (β:Type) (post:σ->β->Prop) (pm:σ->β->PF) (r:σ->β->AV):CtR where
 σ:=σ
 args:=args
 h:=λ_=>[]
 m:=1
 pre:=pre
 mem:=mem
 β:=λ_=>β
 post:=post
 pm:=pm
 r:=r
 h':=λ_ _=>[]
 m':=1
def z5h(n:Int):Prop:=0<=n/\n<18446744073709551616
def za8:CtR:=ctN (Int×Int×Int) (λ⟨v,f,b⟩=>[.sv (.int .u64 v), .sv (.int .i64 f), .sv (.int .i64 b)]) (λ⟨v,f,b⟩=>z5h v/\1<=f/\f<=62/\0<=b/\b<=2000) (λ_=>{}) Int (λ_ r=>z5h r) (λ_ _=>{}) λ_ r=> .sv (.int .u64 r)
def zq9:za8.σ->WayF:=λ⟨v,f,b⟩=>{
 ann:=λ_ _ _=>some {σ:=Nat,pre:=λe=>e<=63,t:=λe=>[(7, .sv (.int .i64 (e:Int)))],h:=λ_=>[],more:=0,μ:=λe=>e,keep:=[0,1,2,6]}
 cut:=λi _ _=>match i with
  |7=>some {σ:=Nat,pre:=λe=>e<=63,t:=λe=>[(7, .sv (.int .i64 (e:Int)))],h:=λ_=>[],more:=0,μ:=λ_=>0,keep:=[0,1,2,6,8]}
  |15=>some {σ:=Int×Int,t:=λ⟨e,m⟩=>[(7, .sv (.int .i64 e)),(8, .sv (.int .u64 m))],pre:=λ⟨e,m⟩=>0<=e/\e<=63,h:=λ_=>[],more:=0,μ:=λ_=>0,keep:=[1,2,6]}
  |_=>none}
def zos(n:Int):Prop:= -9223372036854775808<=n/\n<9223372036854775808
def za5:CtR:=ctN Int (λv=>[.sv (.int .i64 v)]) zos (λ_=>{}) Int (λ_ r=>0<=r/\r<4294967296) (λ_ _=>{}) λ_ r=> .sv (.int .u32 r)
def z6c:CtR:=ctN Int (λv=>[.sv (.int .i64 v)]) zos (λ_=>{}) Int (λ_ r=>z5h r) (λ_ _=>{}) λ_ r=> .sv (.int .u64 r)
def zuj:CtR:=ctN ByteArray (λs=>[.sv (.string s)]) (λs=>s.size<1000000) (λ_=>{}) (ByteArray×Bool) (λs ⟨r,b⟩=>r.size<=s.size) (λ_ _=>{}) λ_ ⟨r,b⟩=> .tup [.sv (.string r), .sv (.bool b)]
def zxp:zuj.σ->WayF:=λs=>{
 ann:=λ_ _ _=>some {σ:=ByteArray×ByteArray,pre:=λ⟨q,u⟩=>q.size+u.size<=s.size,t:=λ⟨q,u⟩=>[(4, .sv (.string q)),(0, .sv (.string u))],h:=λ_=>[],more:=0,μ:=λ⟨q,u⟩=>u.size,keep:=[]}}
def kIx(k:ByteArray):List ByteArray->Nat
 | []=>0
 |a::l=>if qeq a k=true then kIx k l+1 else 0
def z1z(k:ByteArray) (ks:List ByteArray):Bool:=decide (ks[kIx k ks]? =some k)
def zf6(k:ByteArray) (ks:List ByteArray) (l:List PV) (w:PV):List PV:=if z1z k ks=true then l.set (kIx k ks) w else l.take (kIx k ks)++w::l.drop (kIx k ks)
def qap(k:ByteArray) (ks:List ByteArray):List ByteArray:=if z1z k ks=true then ks else ks.take (kIx k ks)++k::ks.drop (kIx k ks)
def zp9:CtR:=ctN (GV×ByteArray×GV) (λ⟨v,k,w⟩=>[v.av, .sv (.string k),w.av]) (λ⟨v,k,w⟩=>v.ks.length=v.l.length/\v.l.length<1000000) (λ⟨v,k,w⟩=>⟨true,λp=>v.ok p/\w.ok p,λ_ _ h e=>⟨GV.ok_mono h e.1,GV.ok_mono h e.2⟩⟩) GV (λ⟨v,k,w⟩ u=>u.pv= .mk v.n v.s (zf6 k v.ks (GV.pvs v.l) w.pv) (qap k v.ks) v.b) (λ_ u=>vM u) λ_ u=>u.av
def zxo:zp9.σ->WayF:=λ⟨v,k,w⟩=>{
 ann:=λ_ _ _=>some {σ:=Nat,pre:=λj=>j<=v.ks.length/\j+kIx k (v.ks.drop j)=kIx k v.ks,t:=λj=>[(7, .sv (.int .i64 (j:Int)))],h:=λ_=>[],more:=0,μ:=λj=>v.ks.length- j,keep:=[1,3,5,6]}
 cut:=λi _ _=>match i with
  |4=>some {σ:=Nat,pre:=λj=>j=kIx k v.ks/\j<=v.ks.length,t:=λj=>[(7, .sv (.int .i64 (j:Int)))],h:=λ_=>[],more:=0,μ:=λ_=>0,keep:=[1,3,5,6]}
  |8=>some {σ:=Unit,pre:=λj=>z1z k v.ks=false,t:=λj=>[],h:=λ_=>[],more:=0,μ:=λ_=>0,keep:=[1,3,5,6,7]}
  |_=>none
 pub:=λi k=>match i,k with
  |7,1=>[48]
  |10,1=>[79]
  |_,_=>[]}
section
variable (x0 x1 x2:Int) (x3:Nat) (x4:Int×Int)
 abbrev zsn:=Jb ((↑x3:Int)- 1)/\∃(i0:Nat),x0=x0/\x1=x1/\(↑i0:Int)=(↑x3:Int)- 1/\x2=x2/\i0<=63/\i0<x3/\True
 def zda:=0<=x4.1/\x4.1<=63
 def j39:=Jb (x0- (↑x3:Int))/\0<=x0- (↑x3:Int)/\∃(i0:Int×Int),x0=x0/\i0.1=(↑x3:Int)/\x1=x1/\i0.2=shP BinOp.shl u64 x2 (x0- (↑x3:Int))/\(zda i0)/\True
 abbrev zms:=shP BinOp.shl u64 1 ((↑x3:Int)- x0)
 def zmr:=∃(i0:Int×Int),x0=x0/\i0.1=(↑x3:Int)/\x1=x1/\i0.2=IntKind.wrap u64 (shP BinOp.shr u64 x2 ((↑x3:Int)- x0)+1)/\(zda i0)/\True
 def zmt:=∃(i0:Int×Int),x0=x0/\i0.1=(↑x3:Int)/\x1=x1/\i0.2=shP BinOp.shr u64 x2 ((↑x3:Int)- x0)/\(zda i0)/\True
 def j37:=(2:Int)≠0/\Ji (Int.tmod (shP BinOp.shr u64 x0 ((↑x3:Int)- x1)) (2:Int)=1) (zmr x1 x2 x0 x3) (zmt x1 x2 x0 x3)
 def j36:=Ji (Int.tmod x0 (zms x1 x3)=shP BinOp.shl u64 1 ((↑x3:Int)- x1- 1)) (j37 x0 x1 x2 x3) (zmt x1 x2 x0 x3)
 def j35:=Jb ((↑x3:Int)- x0)/\Jb ((↑x3:Int)- x0- 1)/\0<=(↑x3:Int)- x0- 1/\0<=(↑x3:Int)- x0/\shP BinOp.shl u64 1 ((↑x3:Int)- x0)≠0/\0<=(↑x3:Int)- x0/\Ji (shP BinOp.shl u64 1 ((↑x3:Int)- x0- 1)<Int.tmod x1 (zms x0 x3)) (zmr x0 x2 x1 x3) (j36 x1 x0 x2 x3)
 def j38:=Jb (x4.1+x0)/\0<=x1/\0<=x1/\∃(i0:Int),i0=IntKind.wrap u64 (shP BinOp.shl u64 (IntKind.wrap u64 (x4.1+x0)) x1+IntKind.wrap u64 (x4.2- shP BinOp.shl u64 1 x1))/\z5h i0/\True
 def j34:=(Ji ((↑x3:Int)<=x0) (j39 x0 x1 x2 x3) (j35 x0 x2 x1 x3))/\∀(i5:Int×Int),zda i5->j38 x1 x0 i5
 def j33:=(∃(i0:Nat),x0=x0/\x1=x1/\(↑i0:Int)=(↑x3:Int)/\x2=x2/\i0<=63/\True)/\∀(i1:Nat),i1<=63->j34 x1 x2 x0 i1
 def j32:=0<=(↑x3:Int)/\Ji (shP BinOp.shr u64 x0 (↑x3:Int)=0) (zsn x0 x1 x2 x3) (j33 x0 x1 x2 x3)
 def j31:=(∃(i0:Nat),x0=x0/\x1=x1/\(↑i0:Int)=63/\x2=x2/\i0<=63/\True)/\∀(i1:Nat),i1<=63->j32 x0 x1 x2 i1
 def j30:=Ji (x0=0) (∃(i0:Int),i0=0/\z5h i0/\True) (j31 x0 x1 x2)
end
def zet(v f b:Int):qlb P (qgc []) (qhg []) Try.f95 za8 (zq9) ⟨v,f,b⟩=(z5h v/\1<=f/\f<=62/\0<=b/\b<=2000->j30 v f b):=by kernel_rfl
def zjq:=λv f b=>Eq.trans (zet v f b) (by delta Ji Jb Jt Jf zsn zda j39 zms zmr zmt j37 j36 j35 j38 j34 j33 j32 j31 j30;exact rfl)
section
variable (x0:Int) (x1:Int×Int×Int) (x2:Prop)
 abbrev zws:=x1.2.1=23/\x1.2.2=127/\(z5h x1.1/\1<=x1.2.1/\x1.2.1<=62/\0<=x1.2.2/\x1.2.2<=2000)/\x2
 def j3b:=Jb (x0+1)/\((-9223372036854775808:Int)<=0- (x0+1)/\(0:Int)- (x0+1)<=9223372036854775807)/\∃(i0:Int×Int×Int),i0.1=IntKind.wrap u64 (IntKind.wrap u64 ((0:Int)- (x0+1))+1)/\zws i0 (∀(i1:Int),z5h i1->∃(i2:Int),i2=qbi BinOp.or u32 2147483648 (IntKind.wrap u32 i1)/\(0<=i2/\i2<4294967296)/\True)
 def j3a:=Ji (x0<0) (j3b x0) (∃(i3:Int×Int×Int),i3.1=IntKind.wrap u64 x0/\zws i3 (∀(i4:Int),z5h i4->∃(i5:Int),i5=IntKind.wrap u32 i4/\(0<=i5/\i5<4294967296)/\True))
end
def zaq(v:Int):qlb P (qgc []) (qhg [(95,za8)]) Try.f80 za5 (λ_=>{}) v=(zos v->j3a v):=by kernel_rfl
def zeb:=λv=>Eq.trans (zaq v) (by delta Ji Jb Jt Jf zws j3b j3a;exact rfl)
section
variable (x0:Int) (x1:Int×Int×Int) (x2:Prop)
 abbrev zwt:=x1.2.1=52/\x1.2.2=1023/\(z5h x1.1/\1<=x1.2.1/\x1.2.1<=62/\0<=x1.2.2/\x1.2.2<=2000)/\x2
 def j3d:=Jb (x0+1)/\((-9223372036854775808:Int)<=0- (x0+1)/\(0:Int)- (x0+1)<=9223372036854775807)/\∃(i0:Int×Int×Int),i0.1=IntKind.wrap u64 (IntKind.wrap u64 ((0:Int)- (x0+1))+1)/\zwt i0 (∀(i1:Int),z5h i1->∃(i2:Int),i2=qbi BinOp.or u64 9223372036854775808 i1/\z5h i2/\True)
 def j3c:=Ji (x0<0) (j3d x0) (∃(i3:Int×Int×Int),i3.1=IntKind.wrap u64 x0/\zwt i3 (∀(i4:Int),z5h i4->∃(i5:Int),i5=i4/\z5h i5/\True))
end
def z8s(v:Int):qlb P (qgc []) (qhg [(95,za8)]) Try.f81 z6c (λ_=>{}) v=(zos v->j3c v):=by kernel_rfl
def zah:=λv=>Eq.trans (z8s v) (by delta Ji Jb Jt Jf zwt j3d j3c;exact rfl)
def zbd(s:ByteArray):qla P (qgc [(35,z2m)]) Try.f96 z2m (λ_=>{}) s=(ByteArray.size s<(9223372036854775808:Nat)->s=s/\ByteArray.size s<(9223372036854775808:Nat)/\(↑(ptV s):Int)=(↑(ptV s):Int)/\(↑(frt s):Int)=(↑(frt s):Int)/\True):=by kernel_rfl
section
variable (x0:ByteArray) (x1:ByteArray×ByteArray)
 abbrev zwu:=∃(i0:ByteArray×Bool),i0.1=mkS []/\i0.2=false/\size i0.1<=size x0/\True
 def j3h:=Ji (255<(↑(ptV x1.2):Int)) (zwu x0) (∃i1,size i1=1/\qhj [int u8 (IntKind.wrap u8 (↑(ptV x1.2):Int))] 0 (q1c i1)/\size x1.1+size i1<=9223372036854775807/\(0<=(↑(frt x1.2):Int)/\(↑(frt x1.2):Int)<=(↑(size x1.2):Int))/\∃(i2:ByteArray×ByteArray),i2.2=ByteArray.extract x1.2 (toNat (↑(frt x1.2):Int)) (size x1.2)/\i2.1=x1.1++i1/\size i2.1+size i2.2<=size x0/\size i2.2<size x1.2/\True)
 def j3g:=x1.2=x1.2/\size x1.2<9223372036854775808/\Ji ((↑(frt x1.2):Int)=0) (zwu x0) (j3h x0 x1)
 def j3f:=Ji (0<(↑(size x1.2):Int)) (j3g x0 x1) (∃(i4:ByteArray×Bool),i4.1=x1.1/\i4.2=true/\size i4.1<=size x0/\True)
 def j3e:=(∃(i0:ByteArray×ByteArray),i0.2=x0/\i0.1=mkS []/\size i0.1+size i0.2<=size x0/\True)/\∀(i1:ByteArray×ByteArray),size i1.1+size i1.2<=size x0->j3f x0 i1
end
def zk0(s:ByteArray):qlb P (qgc [(96,z2m)]) (qhg []) Try.f82 zuj (zxp) s=(size s<1000000->j3e s):=by kernel_rfl
def zpn:=λs=>Eq.trans (zk0 s) (by delta Ji Jt Jf zwu j3h j3g j3f j3e;exact rfl)
section
variable (x0:ByteArray) (x1 x2:GV) (x3:Nat) (x4:Prop) (x5:Nat->Option Obj) (x6:Nat) (x7:Option Addr) (x8 x9:List Value) (x10:GV)
 abbrev z37:=True/\GV.ok x1 x5/\GV.ok x2 x5
 def zmu:=GV.n x1=GV.n x1/\GV.s x1=GV.s x1/\(GV.x x1).1=(GV.x x1).1/\(GV.x x1).2.1=(GV.x x1).2.1/\(GV.x x1).2.2=(GV.x x1).2.2/\(GV.y x1).1=(GV.y x1).1/\(GV.y x1).2.1=(GV.y x1).2.1/\(GV.y x1).2.2=(GV.y x1).2.2/\GV.b x1=GV.b x1/\x4
 def zoy:=zmu x1 (zmu x2 ((∀i0,z37 x1 x2 i0->z37 x1 x2 i0)/\x4))
 def zgv:=x3<=length (GV.ks x1)/\x3+kIx x0 (drop x3 (GV.ks x1))=kIx x0 (GV.ks x1)
 abbrev z66:=(GV.y x1).2.1
 abbrev zdc:=(↑x3:Int)<(↑(z66 x1):Int)
 def zmx:=(∀i0,z37 x1 x2 i0->q3i i0 (adr (GV.y x1).1 (toNat (↑x3:Int)*1)) [string x0])
 def zso:=Jb ((↑x3:Int)+1)/\∃(i0:Nat),x0=x0/\(↑i0:Int)=(↑x3:Int)+1/\zoy x1 x2 ((zgv x0 x1 i0)/\length (GV.ks x1)- i0<length (GV.ks x1)- x3/\True)
 def zmy:=∃(i0:Nat),x0=x0/\(↑i0:Int)=(↑x3:Int)/\zoy x1 x2 ((i0=kIx x0 (GV.ks x1)/\i0<=length (GV.ks x1))/\True)
 def j3n:=(0<=(↑x3:Int)/\zdc x1 x3)/\(GV.y x1).1≠noA/\∃i0,zmx i0 x1 x2 x3/\(qeq i0 x0=true->zso x0 x1 x2 x3)/\(qeq i0 x0=false->zmy x0 x1 x2 x3)
 abbrev j3m:=Ji (zdc x1 x3) (j3n x0 x1 x2 x3) (zmy x0 x1 x2 x3)
 abbrev z72:=(GV.x x1).2.1
 abbrev z5c:=(GV.x x1).2.2
 abbrev z5b:=(GV.y x1).2.2
 def zwv:=(z37 x1 x2 x5)/\(0:Nat)+(GV.x x1).2.1<=x3/\qhu x5 x7 (take (((0:Nat)+(GV.x x1).2.1)*nat_lit 5) (spl ([]++x8) ((0:Nat)+toNat (↑x6:Int)*5) [int u64 (GV.n x2),string (GV.s x2),slice (GV.x x2).1 (z72 x2) (z5c x2),slice (GV.y x2).1 (z66 x2) (z5b x2),int i64 (GV.b x2)]))
 def zmw:=GV.b x1=GV.b x2/\GV.pv x1=PV.mk (GV.n x2) (GV.s x2) (zf6 x0 (GV.ks x2) (GV.pvs (GV.l x2)) (GV.pv x10)) (qap x0 (GV.ks x2)) (GV.b x2)/\x4
 def j3l:=(0<=(↑x3:Int)/\zdc x1 x3)/\(GV.y x1).1≠noA/\∃i0,zmx i0 x1 x2 x3/\Ji (i0=x0) (∃i2,length i2=(GV.x x1).2.1*5/\(∀i3,z37 x1 x2 i3->qhu i3 (GV.x x1).1 i2)/\qll i2/\((0:Nat)+(GV.x x1).2.1)*80<=140737488355328/\(0<=(↑x3:Int)/\(↑x3:Int)<(↑((0:Nat)+(GV.x x1).2.1):Int))/\(0:Nat)+toNat (↑x3:Int)*5+length [int u64 (GV.n x2),string (GV.s x2),slice (GV.x x2).1 (z72 x2) (z5c x2),slice (GV.y x2).1 (z66 x2) (z5b x2),int i64 (GV.b x2)]<=length ([]++i2)/\∀(i4 i5 i6:Nat) (i7:Option Addr) (i8 i9:Nat),(∃i10,zwv x1 x2 i9 i10 x3 i7 i2)->∃(i11:GV),GV.n i11=GV.n x1/\GV.s i11=GV.s x1/\(GV.x i11).1=i7/\(GV.x i11).2.1=0+(GV.x x1).2.1/\(GV.x i11).2.2=i9/\(GV.y i11).1=(GV.y x1).1/\(GV.y i11).2.1=(GV.y x1).2.1/\(GV.y i11).2.2=(GV.y x1).2.2/\zmw x0 i11 x1 ((∀i12,zwv x1 x2 i9 i12 x3 i7 i2->GV.ok i11 i12)/\True) x2) (∃(i13:Unit),x0=x0/\(↑x3:Int)=(↑x3:Int)/\zoy x1 x2 (z1z x0 (GV.ks x1)=false/\True))
 abbrev zdb:=nat_lit 0+(x3- nat_lit 0)+nat_lit 1
 abbrev zmz:=slice (GV.y x1).1 (z66 x1) (z5b x1)
 abbrev z71:=slice (GV.x x1).1 (z72 x1) (z5c x1)
 def zv5:=(z37 x1 x2 x5)/\nat_lit 0+(x3- nat_lit 0)+nat_lit 1+((GV.x x1).2.1- x3)<=x6/\qhu x5 x7 (take ((nat_lit 0+(x3- nat_lit 0)+nat_lit 1+((GV.x x1).2.1- x3))*nat_lit 5) ([]++x8++[int u64 (GV.n x2),string (GV.s x2),slice (GV.x x2).1 (z72 x2) (z5c x2),slice (GV.y x2).1 (z66 x2) (z5b x2),int i64 (GV.b x2)]++x9))
 def zmv:=nat_lit 0+(x3- nat_lit 0)+nat_lit 1+((GV.y x1).2.1- x3)<=x6/\qhu x5 x7 (take ((nat_lit 0+(x3- nat_lit 0)+nat_lit 1+((GV.y x1).2.1- x3))*nat_lit 1) ([]++x8++[string x0]++x9))
 def j3k:=(GV.y x1).2.1<=(GV.y x1).2.2/\(0<=(↑x3:Int)/\(↑x3:Int)<=(↑(z5b x1):Int))/\∃i0,length i0=(x3- nat_lit 0)*1/\(∀i1,z37 x1 x2 i1->qhu i1 (slA (GV.y x1).1 (z5b x1) (nat_lit 0) 1) i0)/\qll i0/\(nat_lit 0+(x3- nat_lit 0))*16<=140737488355328/\length ([]++i0)=(nat_lit 0+(x3- nat_lit 0))*1/\(zdb x3)*16<=140737488355328/\(GV.y x1).2.1<=(GV.y x1).2.2/\(0<=(↑x3:Int)/\(↑x3:Int)<=(↑(z66 x1):Int))/\length ([]++i0++[string x0])=(zdb x3)*1/\∃i2,length i2=((GV.y x1).2.1- x3)*1/\(∀i3,z37 x1 x2 i3->qhu i3 (slA (GV.y x1).1 (z5b x1) x3 1) i2)/\qll i2/\(nat_lit 0+(x3- nat_lit 0)+nat_lit 1+((GV.y x1).2.1- x3))*16<=140737488355328/\AV.sv (zmz x1)=AV.sv (zmz x1)/\AV.sv (zmz x1)=AV.sv (zmz x1)/\(GV.x x1).2.1<=(GV.x x1).2.2/\(0<=(↑x3:Int)/\(↑x3:Int)<=(↑(z5c x1):Int))/\∃i4,length i4=(x3- nat_lit 0)*5/\(∀i5,z37 x1 x2 i5->qhu i5 (slA (GV.x x1).1 (z5c x1) (nat_lit 0) 5) i4)/\qll i4/\(nat_lit 0+(x3- nat_lit 0))*80<=140737488355328/\length ([]++i4)=(nat_lit 0+(x3- nat_lit 0))*5/\(zdb x3)*80<=140737488355328/\(GV.x x1).2.1<=(GV.x x1).2.2/\(0<=(↑x3:Int)/\(↑x3:Int)<=(↑(z72 x1):Int))/\length ([]++i4++[int u64 (GV.n x2),string (GV.s x2),slice (GV.x x2).1 (z72 x2) (z5c x2),slice (GV.y x2).1 (z66 x2) (z5b x2),int i64 (GV.b x2)])=(zdb x3)*5/\∃i6,length i6=((GV.x x1).2.1- x3)*5/\(∀i7,z37 x1 x2 i7->qhu i7 (slA (GV.x x1).1 (z5c x1) x3 5) i6)/\qll i6/\(nat_lit 0+(x3- nat_lit 0)+nat_lit 1+((GV.x x1).2.1- x3))*80<=140737488355328/\AV.agg [AV.sv (int u64 (GV.n x2)),AV.sv (string (GV.s x2)),AV.sv (z71 x2),AV.sv (zmz x2),AV.sv (int i64 (GV.b x2))]=AV.agg [AV.sv (int u64 (GV.n x2)),AV.sv (string (GV.s x2)),AV.sv (z71 x2),AV.sv (zmz x2),AV.sv (int i64 (GV.b x2))]/\AV.sv (z71 x1)=AV.sv (z71 x1)/\AV.sv (z71 x1)=AV.sv (z71 x1)/\∀(i8 i9 i10:Nat) (i11:Option Addr) (i12 i13:Nat),(∃i14,zv5 x1 x2 x3 i14 i13 i11 i4 i6)->∀(i15 i16 i17:Nat) (i18:Option Addr) (i19 i20:Nat),(∃i21,(zv5 x1 x2 x3 i21 i13 i11 i4 i6)/\zmv x0 x1 x3 i21 i20 i18 i0 i2)->∃(i22:GV),GV.n i22=GV.n x1/\GV.s i22=GV.s x1/\(GV.x i22).1=i11/\(GV.x i22).2.1=nat_lit 0+(x3- nat_lit 0)+nat_lit 1+((GV.x x1).2.1- x3)/\(GV.x i22).2.2=i13/\(GV.y i22).1=i18/\(GV.y i22).2.1=nat_lit 0+(x3- nat_lit 0)+nat_lit 1+((GV.y x1).2.1- x3)/\(GV.y i22).2.2=i20/\zmw x0 i22 x1 ((∀i23,(zv5 x1 x2 x3 i23 i13 i11 i4 i6)/\zmv x0 x1 x3 i23 i20 i18 i0 i2->GV.ok i22 i23)/\True) x2
 def j3j:=(Ji (zdc x1 x3) (j3l x0 x1 x2 x3) (∃(i15:Unit),x0=x0/\(↑x3:Int)=(↑x3:Int)/\zoy x1 x2 (z1z x0 (GV.ks x1)=false/\True)))/\∀(i17:Unit),z1z x0 (GV.ks x1)=false->j3k x0 x1 x2 x3
 def j3i:=((∃(i0:Nat),x0=x0/\(↑i0:Int)=0/\zoy x1 x2 ((zgv x0 x1 i0)/\True))/\∀(i2:Nat),zgv x0 x1 i2->j3m x0 x1 x2 i2)/\∀(i11:Nat),i11=kIx x0 (GV.ks x1)/\i11<=length (GV.ks x1)->j3j x0 x1 x2 i11
end
def zjy(v:GV) (k:ByteArray) (w:GV):qlb P (qgc []) (qhg []) Try.f97 zp9 (zxo) ⟨v,k,w⟩=(length (GV.ks v)=length (GV.l v)/\length (GV.l v)<1000000->(∃(p:Pub),z37 v w p)->j3i k v w):=by kernel_rfl
def put_eq:=λv k w=>Eq.trans (zjy v k w) (by delta Ji Jb Jt Jf z37 zmu zoy zgv z66 zdc zmx zso zmy j3n j3m z72 z5c z5b zwv zmw j3l zdb zmz z71 zv5 zmv j3k j3j j3i;exact rfl)
def zvk(x:Int):IntKind.u64.wrap x=x % 18446744073709551616:=by
 unfold IntKind.wrap;simp[IntKind.bits,IntKind.signed]
def zcj(x:Int):IntKind.u32.wrap x=x % 4294967296:=by
 unfold IntKind.wrap;simp[IntKind.bits,IntKind.signed]
def z1t(x:Int):z5h (IntKind.u64.wrap x):=by
 rw[zvk];unfold z5h;omega
def zk9:∀k:Nat,k<64->shP .shl .u64 1 (k:Int)≠0:=by decide+kernel
def j6g(v:Int):shP .shr .u64 v 0=v:=by
 show v.fdiv (2 ^ min (0:Int).toNat IntKind.u64.bits)=v
 rw[show min (0:Int).toNat IntKind.u64.bits=0 from rfl]
 show v.fdiv 1=v
 exact Int.fdiv_one v
def j6b(c:Nat) (h:c<256):q1c (mkS [c])=[.int .u8 (c:Nat)]:=by
 simp[q1c,mkS]
 omega
def qci:q1v P 95 za8:=by
 refine qkh mixed (qdw qkx) (qen qkw) (W:=zq9) Try.func95 (by kernel_rfl) (show 1<=1 by decide) (show 1<=1 by decide) (λs=>by kernel_rfl) λ⟨(v:Int),(f:Int),(b:Int)⟩=>(zjq v f b).mpr ?_
 rintro⟨hv,hf1,hf2,hb1,hb2⟩
 simp only[sbS,exists_const,forall_const,Int.toNat_natCast]
 have nz:∀e:Nat,¬v=0->shP .shr .u64 v (e:Int)=0->e≠0:=λe h0 hs h=>by
  subst h;rw[show((0:Nat):Int)=0 from rfl,j6g]at hs;exact h0 hs
 refine⟨λh0=>⟨0,rfl,by unfold z5h;omega⟩,λh0=>⟨⟨63,rfl,by omega⟩,λe he=>⟨by omega,λhs=> ?_,λhs=>⟨⟨e,rfl,he⟩,λk hk=> ?_⟩⟩⟩⟩
 ·have:=nz e h0 hs
  exact⟨⟨by omega,by omega⟩,e- 1,by omega,by omega,by omega⟩
 ·clear nz
  have hk0:(0:Int)<=k:=by omega
  refine⟨⟨λhle=>⟨⟨by omega,by omega⟩,by omega,⟨k,_⟩,rfl,rfl,hk0,by omega⟩,λhgt=>⟨⟨by omega,by omega⟩,⟨by omega,by omega⟩,by omega,by omega,?_,by omega,λ_=>⟨⟨k,_⟩,rfl,rfl,hk0,by omega⟩,λ_=>⟨λ_=>⟨by decide,λ_=>⟨⟨k,_⟩,rfl,rfl,hk0,by omega⟩,λ_=>⟨⟨k,_⟩,rfl,rfl,hk0,by omega⟩⟩,λ_=>⟨⟨k,_⟩,rfl,rfl,hk0,by omega⟩⟩⟩⟩,?_⟩
  ·obtain⟨m,hm⟩:=Int.eq_ofNat_of_zero_le (show 0<=(k:Int)- f by omega)
   rw[hm];exact zk9 m (by omega)
  ·rintro⟨a,m⟩ ⟨ha1,ha2⟩
   simp only at ha1 ha2⊢
   exact⟨⟨by omega,by omega⟩,by omega,by omega,_,rfl,z1t _⟩
def zec:q1v P 80 za5:=by
 refine qkh mixed (qdw qkx) (qen (qhq qci qkw)) (W:=λ_=>{}) Try.func80 (by kernel_rfl) (show 1<=1 by decide) (show 1<=1 by decide) (λs=>by kernel_rfl) λ(v:Int)=>(zeb v).mpr ?_
 rintro⟨hv1,hv2⟩
 simp only[sbS,exists_const,forall_const,Int.toNat_natCast]
 refine⟨λh=>⟨⟨by omega,by omega⟩,⟨by omega,by omega⟩,⟨_,23,127⟩,rfl,rfl,rfl,⟨z1t _,(by show(1:Int)<=23;decide),(by show(23:Int)<=62;decide),(by show(0:Int)<=127;decide),(by show(127:Int)<=2000;decide)⟩,λb hb=>⟨_,rfl,?_⟩⟩,λh=>⟨⟨_,23,127⟩,rfl,rfl,rfl,⟨z1t _,(by show(1:Int)<=23;decide),(by show(23:Int)<=62;decide),(by show(0:Int)<=127;decide),(by show(127:Int)<=2000;decide)⟩,λb hb=>⟨_,rfl,?_⟩⟩⟩
 ·show 0<=IntKind.u32.wrap _/\IntKind.u32.wrap _<4294967296
  rw[zcj];omega
 ·rw[zcj];omega
def zai:q1v P 81 z6c:=by
 refine qkh mixed (qdw qkx) (qen (qhq qci qkw)) (W:=λ_=>{}) Try.func81 (by kernel_rfl) (show 1<=1 by decide) (show 1<=1 by decide) (λs=>by kernel_rfl) λ(v:Int)=>(zah v).mpr ?_
 rintro⟨hv1,hv2⟩
 simp only[sbS,exists_const,forall_const,Int.toNat_natCast]
 refine⟨λh=>⟨⟨by omega,by omega⟩,⟨by omega,by omega⟩,⟨_,52,1023⟩,rfl,rfl,rfl,⟨z1t _,(by show(1:Int)<=52;decide),(by show(52:Int)<=62;decide),(by show(0:Int)<=1023;decide),(by show(1023:Int)<=2000;decide)⟩,λb hb=>⟨_,rfl,?_⟩⟩,λh=>⟨⟨_,52,1023⟩,rfl,rfl,rfl,⟨z1t _,(by show(1:Int)<=52;decide),(by show(52:Int)<=62;decide),(by show(0:Int)<=1023;decide),(by show(1023:Int)<=2000;decide)⟩,λb hb=>⟨b,rfl,hb⟩⟩⟩
 exact z1t _
def zbe:q3m P 96 z2m:=by
 refine qld mixed (qdw (qhr z81 qkx)) (W:=λ_=>{}) Try.func96 (by kernel_rfl) (by decide) (by decide) (λs=>by kernel_rfl) λ(s:ByteArray)=>(zbd s).mpr ?_
 intro h
 exact⟨rfl,h,rfl,rfl,trivial⟩
def zpo:q1v P 82 zuj:=by
 refine qkh mixed (qdw (qhr zbe qkx)) (qen qkw) (W:=zxp) Try.func82 (by kernel_rfl) (show 1<=1 by decide) (show 1<=1 by decide) (λs=>by kernel_rfl) λ(s:ByteArray)=>(zpn s).mpr ?_
 intro hs
 simp only[sbS,exists_const,forall_const,Int.toNat_natCast]
 refine⟨⟨⟨mkS [],s⟩,rfl,rfl,by show 0+s.size<=_;omega⟩,?_⟩
 rintro⟨q,u⟩ hq
 simp only at hq⊢
 refine⟨λh=>⟨by omega,λh0=>⟨⟨mkS [],false⟩,rfl,rfl,Nat.zero_le _⟩,λh0=>⟨λhp=>⟨⟨mkS [],false⟩,rfl,rfl,Nat.zero_le _⟩,λhp=> ?_⟩⟩,λh=>⟨⟨q,true⟩,rfl,rfl,by show q.size<=_;omega⟩⟩
 have hf:=zhq u
 have hc:IntKind.u8.wrap (ptV u:Int)=((ptV u:Nat):Int):=by rw[zg0];omega
 rw[hc]
 have hz:(mkS [ptV u]).size=1:=rfl
 refine⟨mkS [ptV u],rfl,?_,by omega,⟨by omega,by omega⟩,⟨q++mkS [ptV u],u.extract (frt u) u.size⟩,rfl,rfl,?_,?_⟩
 ·intro j w hj
  rw[j6b _ (by omega)]at hj;rw[Nat.zero_add];exact hj
 ·show(q++mkS [ptV u]).size+(u.extract (frt u) u.size).size<=s.size
  rw[ByteArray.size_append,ByteArray.size_extract,hz];omega
 ·show(u.extract (frt u) u.size).size<u.size
  rw[ByteArray.size_extract];omega
section
def zdq{x:Addr} (h:x.spot=none) (k:Nat):(x.add k).spot=none:=by
 unfold Addr.add;split
 ·exact h
 ·rfl
variable {a:Option Addr}
def zoz(h:Pl a) (c l sz:Nat):Pl (slA a c l sz):=trivial
def z3e{p:Pub} {c l sz:Nat} {vs us:List Value} (h:qhu p a vs) (hl:l<=c) (hlen:vs.length<=c*sz) (hu:∀(j:Nat) v,us[j]? =some v->vs[l*sz+j]? =some v):qhu p (slA a c l sz) us:=by
  have hp:Pl a:=Sen.rowP_Pl h
  cases us with
  |nil=>exact .inl ⟨rfl,zoz hp c l sz⟩
  | cons u us=>
    have h0:=hu 0 u rfl
    rcases h with⟨rfl,_⟩|⟨x,rfl,hs,hc⟩
    · simp at h0
    · have hne:c≠l:=λe=>by
        subst e
        have:=(List.getElem?_eq_some_iff.mp h0).1
        omega
      refine .inr ⟨x.add (l*sz),?_,zdq hs _,λj v hj=> ?_⟩
      · unfold slA;rw[if_neg hne];rfl
      · have:=hc (l*sz+j) v (hu j v hj)
        rw[Addr.add_add];exact this
def GV.oks_iff:∀{l:List GV} {p:Pub},GV.oks l p↔∀v∈l,v.ok p
  | [],p=>by unfold GV.oks;simp
  | v::l,p=>by
    unfold GV.oks
    rw[GV.oks_iff (l:=l)]
    simp
variable {α:Type}
def z2d{f:α->List Value} (l:List α) (k:Nat):z00 f l=z00 f (l.take k)++z00 f (l.drop k):=by
 rw[←z05,List.take_append_drop]
def z83{f:α->List Value} (l:List α) (k:Nat):∀(j:Nat) v,(z00 f (l.take k))[j]? =some v->(z00 f l)[j]? =some v:=λj v h=>by
 rw[z2d l k,List.getElem?_append_left (List.getElem?_eq_some_iff.mp h).1];exact h
def z84{f:α->List Value} {e:Nat} (hf:∀x,(f x).length=e) (l:List α) (k:Nat) (hk:k<=l.length):∀(j:Nat) v,(z00 f (l.drop k))[j]? =some v->(z00 f l)[k*e+j]? =some v:=λj v h=>by
 rw[z2d l k]
 have:(z00 f (l.take k)).length=k*e:=by rw[z01 hf,List.length_take,Nat.min_eq_left hk]
 rw[←this,List.getElem?_append_right (Nat.le_add_right _ _),Nat.add_sub_cancel_left];exact h
def z1s{α:Type} {f:α->List Value} (h:∀x,∀v∈f x,v.oneCell'=true):∀l,qll (z00 f l)
  | []=>λv hv=>by cases hv
  | x::l=>λv hv=>by
    rcases List.mem_append.1 hv with hv|hv
    · exact h x v hv
    · exact z1s h l v hv
def zhx:∀(x:ByteArray),∀v∈txV x,v.oneCell'=true:=λx v hv=>by
 simp[txV]at hv;subst hv;rfl
def zb9:∀(x:GV),∀v∈x.cells,v.oneCell'=true:=λx v hv=>by
 simp[GV.cells]at hv
 rcases hv with rfl|rfl|rfl|rfl|rfl<;>rfl
def zhv(k:ByteArray):∀l,kIx k l<=l.length
  | []=>Nat.zero_le _
  | a::l=>by
    rw[kIx];split
    · have:=zhv k l;rw[List.length_cons];omega
    · exact Nat.zero_le _
def zbp:∀(xs A B C:List Value),B.length=xs.length->spl (A++(B++C)) A.length xs=A++(xs++C)
  | [],A,B,C,h=>by
    have:B=[]:=List.length_eq_zero_iff.mp h
    subst this;rfl
  |x::xs,A,[],C,h=>by simp at h
  | x ::xs,A,b::B,C,h=>by
    rw[spl]
    have e:(A++(b::B++C)).set A.length x=(A++[x])++(B++C):=by
      clear h
      induction A with
      |nil=>rfl
      |cons a A ih=>rw[List.cons_append,List.length_cons,List.set_cons_succ,ih];rfl
    rw[e,show A.length+1=(A++[x]).length by simp,zbp xs (A++[x]) B C (by simpa using h)]
    simp
def zfe{f:α->List Value} {e:Nat} (hf:∀x,(f x).length=e) (l:List α) (k:Nat) (hk:k<l.length) (x:α):z00 f (l.set k x)=spl (z00 f l) (0+k*e) (f x):=by
 rw[List.set_eq_take_append_cons_drop,if_pos hk,z05]
 show _++(f x++_)=_
 have h1:z00 f l=z00 f (l.take k)++(f l[k]++z00 f (l.drop (k+1))):=by
  conv=>lhs;rw[z2d l k,List.drop_eq_getElem_cons hk]
  rfl
 have h2:(z00 f (l.take k)).length=k*e:=by rw[z01 hf,List.length_take,Nat.min_eq_left (Nat.le_of_lt hk)]
 rw[h1,Nat.zero_add,←h2]
 exact(zbp _ _ _ _ ((hf _).trans (hf _).symm)).symm
def zhy:q1v P 97 zp9:=by
 refine qkh mixed (qdw qkx) (qen qkw) (W:=zxo) Try.func97 (by kernel_rfl) (show 1<=1 by decide) (show 1<=1 by decide) (λs=>by kernel_rfl) λ⟨v,k,w⟩=>(put_eq v k w).mpr ?_
 rintro⟨hkl,hl⟩ ⟨p,_,hp,hw⟩
 have hv:=hp
 have vo:=λq (h:v.ok q)=>(by rw[GV.ok_eq]at h;exact h:slP GV.cells v.x v.l q/\slP txV v.y v.ks q/\GV.oks v.l q)
 have xl:v.x.2.1=v.l.length:=(vo p hp).1.1
 have yl:v.y.2.1=v.ks.length:=(vo p hp).2.1.1
 have xc:v.l.length<=v.x.2.2:=by have:=(vo p hp).1.2.1;omega
 have yc:v.ks.length<=v.y.2.2:=by have:=(vo p hp).2.1.2.1;omega
 simp only[sbS,exists_const,forall_const,Int.toNat_natCast,xl,yl]
 have kd:∀s,s<v.ks.length->kIx k (v.ks.drop s)=if qeq (v.ks[s]!) k=true then kIx k (v.ks.drop (s+1))+1 else 0:=λs hs=>by
  rw[List.drop_eq_getElem_cons hs,kIx,getElem!_pos v.ks s hs]
 have kat:∀s (hs:s<v.ks.length),v.ks[s]! =v.ks[s]:=λs hs=>getElem!_pos v.ks s hs
 have txc:=λs (hs:s<v.ks.length) q (h:v.ok q)=>(show v.y.1≠noA/\q3i q (adr v.y.1 (s*1)) [.string v.ks[s]]from z0b z0s (by decide) (vo q h).2.1 hs)
 refine⟨⟨⟨0,rfl,Nat.zero_le _,Nat.zero_add _⟩,λs ⟨hs,hk⟩=>⟨λhlt=> ?_,λhge=>⟨s,rfl,?_,hs⟩⟩⟩,λs ⟨hs,hsl⟩=>⟨⟨λhlt=> ?_,λhge=> ?_⟩,λhno=> ?_⟩⟩
 ·have hlt:s<v.ks.length:=by omega
  have hd:=kd s hlt
  rw[kat s hlt]at hd
  refine⟨⟨by omega,by omega⟩,(txc s hlt p hp).1,v.ks[s],λq hq=>(txc s hlt q hq.1).2,λhl1=>⟨⟨by omega,by omega⟩,s+1,by omega,⟨by omega,by rw[if_pos hl1]at hd;omega⟩,by omega⟩,λhl1=>⟨s,rfl,by rw[if_neg (by rw[hl1];decide)]at hd;omega,hs⟩⟩
 ·rw[List.drop_of_length_le (by omega),kIx]at hk;omega
 ·have hlt:s<v.ks.length:=by omega
  have hll:s<v.l.length:=by omega
  refine⟨⟨by omega,by omega⟩,(txc s hlt p hp).1,v.ks[s],λq hq=>(txc s hlt q hq.1).2,λhe=> ?_,λhe=> ?_⟩
  ·have hh:z1z k v.ks=true:=by
    unfold z1z;rw[←hs,List.getElem?_eq_getElem hlt,he];exact decide_eq_true rfl
   refine⟨z00 GV.cells v.l,z01 z0z _,λq hq=>(vo q hq.1).1.2.2,z1s zb9 _,by omega,⟨by omega,by omega⟩,by rw[List.nil_append,z01 z0z];show 0+s*5+5<=_;omega,λa c _=>⟨.mk v.n v.s (a,0+v.l.length,c) (v.l.set s w) v.y v.ks v.b,rfl,rfl,rfl,rfl,rfl,rfl,yl,rfl,rfl,?_,λq hq=> ?_⟩⟩
   ·rw[GV.pv]
    show PV.mk v.n v.s (GV.pvs (v.l.set s w)) v.ks v.b=_
    unfold zf6 qap
    rw[hh,if_pos rfl,if_pos rfl,←hs,GV.pvs_map,GV.pvs_map,List.map_set]
   ·have h2:=hq.2.2
    rw[List.nil_append]at h2
    change qhu q a (List.take ((0+v.l.length)*5) (spl (z00 GV.cells v.l) (0+s*5) w.cells))at h2
    rw[←zfe z0z v.l s hll w,List.take_of_length_le (by rw[z01 z0z,List.length_set];omega)]at h2
    unfold GV.ok
    refine⟨⟨by show 0+v.l.length=_;rw[List.length_set];omega,hq.2.1,h2⟩,(vo q hq.1.1).2.1,GV.oks_iff.2 λx hx=> ?_⟩
    rcases List.mem_or_eq_of_mem_set hx with hx|rfl
    ·exact GV.oks_iff.1 (vo q hq.1.1).2.2 x hx
    ·exact hq.1.2
  ·unfold z1z;rw[←hs,List.getElem?_eq_getElem hlt];exact decide_eq_false λh=>he (Option.some.inj h)
 ·unfold z1z;rw[←hs,List.getElem?_eq_none (by omega)];rfl
 ·have hsl2:s<=v.l.length:=by omega
  have tl:(v.ks.take s).length=s:=by rw[List.length_take];omega
  have tl2:(v.l.take s).length=s:=by rw[List.length_take];omega
  have r1:(z00 txV (v.ks.take s)).length=s*1:=by rw[z01 z0s,tl]
  have r2:(z00 txV (v.ks.drop s)).length=(v.ks.length- s)*1:=by rw[z01 z0s,List.length_drop]
  have r3:(z00 GV.cells (v.l.take s)).length=s*5:=by rw[z01 z0z,tl2]
  have r4:(z00 GV.cells (v.l.drop s)).length=(v.l.length- s)*5:=by rw[z01 z0z,List.length_drop]
  refine⟨yc,⟨by omega,by omega⟩,z00 txV (v.ks.take s),by rw[r1];omega,λq hq=>z3e (vo q hq.1).2.1.2.2 (Nat.zero_le _) (by rw[z01 z0s];omega) (λj x hj=>by rw[Nat.zero_mul,Nat.zero_add];exact z83 _ _ j x hj),z1s zhx _,by omega,by rw[List.nil_append,r1];omega,by omega,yc,⟨by omega,by omega⟩,by rw[List.length_append,List.nil_append,r1];show s*1+1=_;omega,z00 txV (v.ks.drop s),r2,λq hq=>z3e (vo q hq.1).2.1.2.2 (by omega) (by rw[z01 z0s];omega) (z84 z0s _ _ hsl),z1s zhx _,by omega,xc,⟨by omega,by omega⟩,z00 GV.cells (v.l.take s),by rw[r3];omega,λq hq=>z3e (vo q hq.1).1.2.2 (Nat.zero_le _) (by rw[z01 z0z];omega) (λj x hj=>by rw[Nat.zero_mul,Nat.zero_add];exact z83 _ _ j x hj),z1s zb9 _,by omega,by rw[List.nil_append,r3];omega,by omega,xc,⟨by omega,by omega⟩,by rw[List.length_append,List.nil_append,r3];show s*5+5=_;omega,z00 GV.cells (v.l.drop s),r4,λq hq=>z3e (vo q hq.1).1.2.2 (by omega) (by rw[z01 z0z];omega) (z84 z0z _ _ hsl2),z1s zb9 _,by omega,λa c _ a2 c2 _=> ?_⟩
  have hx:(v.l.take s++w::v.l.drop s).length=0+(s- 0)+1+(v.l.length- s):=by simp;omega
  have hy:(v.ks.take s++k::v.ks.drop s).length=0+(s- 0)+1+(v.ks.length- s):=by simp;omega
  refine⟨.mk v.n v.s (a,0+(s- 0)+1+(v.l.length- s),c) (v.l.take s++w::v.l.drop s) (a2,0+(s- 0)+1+(v.ks.length- s),c2) (v.ks.take s++k::v.ks.drop s) v.b,rfl,rfl,rfl,rfl,rfl,rfl,rfl,rfl,rfl,?_,λq hq=> ?_⟩
  ·rw[GV.pv]
   unfold zf6 qap
   rw[hno,if_neg (by decide),if_neg (by decide),←hs,GV.pvs_map,GV.pvs_map,List.map_append,List.map_cons,List.map_take,List.map_drop]
  ·unfold GV.ok
   refine⟨⟨hx.symm,hq.1.2.1,?_⟩,⟨hy.symm,hq.2.1,?_⟩,GV.oks_iff.2 λx hx=> ?_⟩
   ·have h2:=hq.1.2.2
    rw[List.take_of_length_le (by simp only[List.length_append,List.nil_append,r3,r4];show s*5+5+_<=_;omega)]at h2
    rw[z05]
    simp only[List.nil_append,List.append_assoc]at h2
    exact h2
   ·have h2:=hq.2.2
    rw[List.take_of_length_le (by simp only[List.length_append,List.nil_append,r1,r2];show s*1+1+_<=_;omega)]at h2
    rw[z05]
    simp only[List.nil_append,List.append_assoc]at h2
    exact h2
   ·have ho:=GV.oks_iff.1 (vo q hq.1.1.1).2.2
    rcases List.mem_append.1 hx with hx|hx
    ·exact ho x (List.mem_of_mem_take hx)
    ·rcases List.mem_cons.1 hx with rfl|hx
     ·exact hq.1.1.2
     ·exact ho x (List.mem_of_mem_drop hx)
end
abbrev VlS:=List AT×SV×Int×Int×GJ×Int
abbrev VlB:=Int×Int×GV
def vlO(x:SV) (all:Int):List (Nat×AO):=[(1, .cells 115 (some 0) false [svA x, .sv (.int .i64 all)])]
def z0l(all:Int):VlB->Prop:=λ⟨all',e,v⟩=>all<=all'/\all'<=2001/\(e=0->all'<=2000)
def sgM(S:List AT) (x:SV) (g:GJ):PF:=⟨true,λp=>z09 S x p/\g.ok p,λ_ _ h e=>⟨z0t h e.1,GJ.ok_mono h e.2⟩⟩
def j6e(S:List AT) (x:SV) (a:AT) (g:GJ):PF:=⟨true,λp=>z09 S x p/\a.ok p/\g.ok p,λ_ _ h e=>⟨z0t h e.1,AT.ok_mono h e.2.1,GJ.ok_mono h e.2.2⟩⟩
def cVl:CtR where
 σ:=VlS
 args:=λ⟨S,x,all,t,g,d⟩=>[.ptr 1 0, .sv (.int .i64 t),g.av, .sv (.int .i64 d)]
 h:=λ⟨S,x,all,t,g,d⟩=>vlO x all
 m:=2
 pre:=λ⟨S,x,all,t,g,d⟩=>z0c S/\(0<=t/\t<S.length)/\g.wf/\(0<=all/\all<=2000)/\1<=d/\d<=21
 mem:=λ⟨S,x,all,t,g,d⟩=>sgM S x g
 β:=λ_=>VlB
 post:=λ⟨S,x,all,t,g,d⟩ b=>z0l all b
 pm:=λ_ ⟨all',e,v⟩=>vM v
 r:=λ_ ⟨all',e,v⟩=> .tup [v.av, .sv (.int .i64 e)]
 h':=λ⟨S,x,all,t,g,d⟩ ⟨all',e,v⟩=>vlO x all'
 m':=2
def z5t:VlS->Nat:=λ⟨S,x,all,t,g,d⟩=>2*(25- d).toNat
abbrev VqS:=List AT×SV×Int×AT×GJ×Int
def cVq(k:AT->GJ->Prop):CtR where
 σ:=VqS
 args:=λ⟨S,x,all,a,g,d⟩=>[.ptr 1 0,a.av,g.av, .sv (.int .i64 d)]
 h:=λ⟨S,x,all,a,g,d⟩=>vlO x all
 m:=2
 pre:=λ⟨S,x,all,a,g,d⟩=>z0c S/\a∈S/\k a g/\g.wf/\(0<=all/\all<=2000)/\1<=d/\d<=20
 mem:=λ⟨S,x,all,a,g,d⟩=>j6e S x a g
 β:=λ_=>VlB
 post:=λ⟨S,x,all,a,g,d⟩ b=>z0l all b
 pm:=λ_ ⟨all',e,v⟩=>vM v
 r:=λ_ ⟨all',e,v⟩=> .tup [v.av, .sv (.int .i64 e)]
 h':=λ⟨S,x,all,a,g,d⟩ ⟨all',e,v⟩=>vlO x all'
 m':=2
def z7y:VqS->Nat:=λ⟨S,x,all,a,g,d⟩=>2*(25- d).toNat
def zj9(a:AT) (g:GJ):Prop:=a.k=12
def isMap(a:AT) (g:GJ):Prop:=a.k=13/\g.k=6
def zek(a:AT) (g:GJ):Prop:=a.k=12\/a.k=13/\g.k=6
def isRec(a:AT) (g:GJ):Prop:=a.k=9
def j6d(t:T AV) (h:T AO):Option Int:=match t.get 10 with
  | some (.ptr b _)=>match h.get b with
    | some (.cells _ _ _ (v::_))=>match gi v with
      |some (_,k)=>some k
      |none=>none
    |_=>none
  |_=>none
def bq(a b gk k:Int):Bool:=decide (k=a)&&decide (gk=b)
def bI(gk gn k:Int):Bool:=decide (k=3)&&(decide (gk=3)&&(decide (-2147483648<=gn)&&decide (gn<2147483648)))
def bN(gk gn k:Int):Bool:=bI gk gn k||bq 4 3 gk k
def bT(gk k:Int):Bool:=(decide (k=7)||decide (k=11))&&decide (gk=4)
def bP(gk k:Int):Bool:=bq 12 5 gk k||bq 13 6 gk k
def cbK(f:Int->Bool) (i:Nat) (keep:List Nat) (t:T AV) (h:T AO):Option LT:=match j6d t h with
 |some k=>some {σ:=Unit,t:=λ_=>[(i, .sv (.bool (f k)))],h:=λ_=>[],more:=0,μ:=λ_=>0,keep:=keep}
 |none=>none
def wVl:VlS->WayF:=λ⟨S,x,all,t,g,d⟩=>{
 ann:=λ_ _ _=>some {σ:=Nat,t:=λj=>[(14, .sv (.int .i64 (j:Int)))],h:=λ_=>[],more:=0,μ:=λj=>1000- j,keep:=[0,3,6,8,10,11]}
 pubE:=[250]
 spl:=λi=>match i with
  |35=>some 8
  |_=>none
 flo:=λi=>match i with
  |35=>some (12,[8])
  |_=>none
 cut:=λi t h=>match i with
  |7=>cbK (bq 1 1 g.k) 45 [0,3,6,8,10,11] t h
  |9=>cbK (bq 2 2 g.k) 55 [0,3,6,8,10,11] t h
  |11=>cbK (bI g.k g.n) 68 [0,3,6,8,10,11] t h
  |12=>cbK (bN g.k g.n) 68 [0,3,6,8,10,11] t h
  |14=>cbK (bq 5 3 g.k) 95 [0,3,6,8,10,11] t h
  |16=>cbK (bq 6 3 g.k) 107 [0,3,6,8,10,11] t h
  |18=>cbK (bq 8 4 g.k) 118 [0,3,6,8,10,11] t h
  |20=>cbK (bT g.k) 130 [0,3,6,8,10,11] t h
  |22=>some {σ:=Bool,t:=λb=>[(162, .sv (.bool b))],h:=λ_=>[],more:=0,μ:=λ_=>0,keep:=[8,12]}
  |24=>cbK (bq 10 4 g.k) 165 [0,3,6,8,10,11] t h
  |30=>cbK (bq 12 5 g.k) 192 [0,3,6,8,10,11] t h
  |31=>cbK (bP g.k) 192 [0,3,6,8,10,11] t h
  |33=>cbK (bq 9 6 g.k) 216 [0,3,6,8,10,11] t h
  |37=>some {σ:=Unit,t:=λ_=>[],h:=λ_=>[],more:=0,μ:=λ_=>0,keep:=[8]}
  |36=>some {σ:=VlB,t:=λ⟨all',e,v⟩=>[(16, .sv (.int .i64 e)),(15, .ptr 50 0)],h:=λ⟨all',e,v⟩=>[(50, .cells 37 (some 0) false [.sv (.int .u64 v.n), .sv (.string v.s),svA v.x,svA v.y, .sv (.int .i64 v.b)])]++vlO x all',pre:=z0l all,mem:=λ⟨all',e,v⟩=>vM v,more:=60,μ:=λ_=>0,keep:=[8]}
  |_=>none}
def avO(v:GV):AO:= .cells 37 (some 0) false [.sv (.int .u64 v.n), .sv (.string v.s),svA v.x,svA v.y, .sv (.int .i64 v.b)]
def rwO(r n k:Nat):AO:= .cells 37 (some 0) false [.int .u64 0, .str [], .ssl r 0 n 5 k, .nsl, .int .i64 0]
def gsM(fs:List GV):PF:=⟨true,GV.oks fs,λ_ _ h e=>GV.oks_mono h e⟩
def zxg(x:SV) (all:Int) (pt es:Nat) (keep:List Nat):LT:={σ:=VlB,t:=λ⟨all',e,v⟩=>[(es, .sv (.int .i64 e)),(pt, .ptr 50 0)],h:=λ⟨all',e,v⟩=>[(50,avO v)]++vlO x all',pre:=z0l all,mem:=λ⟨all',e,v⟩=>vM v,more:=60,μ:=λ_=>0,keep:=keep}
def zfv(h:T AO):Int:=match h.get 1 with
 |some (.cells _ _ _ [_, .sv (.int _ a)])=>a
 |_=>0
def wPa:VqS->WayF:=λ⟨S,x,all,a,g,d⟩=>{
 ann:=λ_ _ _=>some {σ:=Nat×Int×List GV,pre:=λ⟨j,all',fs⟩=>j<=g.l.length/\(all<=all'/\all'<=2000)/\fs.length=j,mem:=λ⟨j,all',fs⟩=>gsM fs,t:=λ⟨j,all',fs⟩=>[(11, .sv (.int .i64 (j:Int)))],h:=λ⟨j,all',fs⟩=>vlO x all'++[(5,rwO 6 fs.length 7),(6, .row 37 0 (z00 GV.cells fs))],more:=2,μ:=λ⟨j,all',fs⟩=>g.l.length- j,keep:=[0,3,5,6,8,10]}
 pubE:=[57]
 spl:=λi=>match i with
  |5=>some 10
  |10=>some 7
  |_=>none
 flo:=λi=>match i with
  |5=>some (14,[10])
  |_=>none
 cut:=λi _ h=>match i with
  |6=>some (zxg x (zfv h) 12 13 [0,3,5,6,8,10,11])
  |_=>none}
def wPm:VqS->WayF:=λ⟨S,x,all,a,g,d⟩=>{
 ann:=λ_ _ _=>some {σ:=Nat×Int×GV,pre:=λ⟨j,all',v⟩=>j<=g.l.length/\(all<=all'/\all'<=2000)/\v.ks.length=v.l.length/\v.l.length<=j,mem:=λ⟨j,all',v⟩=>vM v,t:=λ⟨j,all',v⟩=>[(11, .sv (.int .i64 (j:Int)))],h:=λ⟨j,all',v⟩=>vlO x all'++[(5,avO v)],more:=0,μ:=λ⟨j,all',v⟩=>g.l.length- j,keep:=[0,3,5,6,8,10]}
 spl:=λi=>match i with
  |5=>some 10
  |10=>some 7
  |_=>none
 flo:=λi=>match i with
  |5=>some (14,[10])
  |_=>none
 cut:=λi _ h=>match i with
  |6=>some (zxg x (zfv h) 12 13 [0,3,5,6,8,10,11])
  |_=>none}
def jnO(g:GJ):AO:= .cells 48 (some 0) false [.sv (.int .i64 g.k), .sv (.int .i64 g.n), .sv (.string g.s),svA g.y,svA g.x]
def wRe:VqS->WayF:=λ⟨S,x,all,a,g,d⟩=>{
 ann:=λ_ _ _=>some {σ:=Nat×Int×List GV,pre:=λ⟨j,all',fs⟩=>j<=a.fs.length/\(all<=all'/\all'<=2000)/\fs.length=j,mem:=λ⟨j,all',fs⟩=>gsM fs,t:=λ⟨j,all',fs⟩=>[(11, .sv (.int .i64 (j:Int)))],h:=λ⟨j,all',fs⟩=>vlO x all'++[(5,rwO 6 fs.length 7),(6, .row 37 0 (z00 GV.cells fs))],more:=2,μ:=λ⟨j,all',fs⟩=>a.fs.length- j,keep:=[0,3,5,6,8,10]}
 pubE:=[65]
 cut:=λi _ h=>match i with
  |11=>some {σ:=GJ,pre:=λc=>c.wf,mem:=gM,t:=λc=>[(13, .ptr 50 0)],h:=λc=>[(50,jnO c)],more:=60,μ:=λ_=>0,keep:=[0,3,5,6,8,10,11,12]}
  |_=>none}
section
variable (x0 x1:Int) (x2:SV) (x3:List AT) (x4:GJ) (x5:Int) (x6:Nat) (x7:ByteArray) (x8:Option Addr) (x9:Nat) (x10:Int) (x11:Option Addr) (x12 x13:Nat) (x14:Bool) (x15:ByteArray) (x16:Int) (x17:Option Addr) (x18 x19:Nat) (x20:Option Addr) (x21 x22 x23:Nat) (x24:Prop) (x25:VlB) (x26 x27:Int) (x28:ByteArray×Bool) (x29:VqS) (x30:VlB) (x31:Nat->Option Obj)
 abbrev z1a:=True/\z09 x3 x2 x31/\GJ.ok x4 x31
 abbrev zn7:=Jb (x0+1)
 def z9j:=GV.n x25.2.2=0/\GV.s x25.2.2=mkS []/\x24
 def zn6:=(GV.y x25.2.2).1=noA/\(GV.y x25.2.2).2.1=0/\(GV.y x25.2.2).2.2=0/\GV.b x25.2.2=0/\x24
 def zdd:=x2.1=x2.1/\x2.2.1=x2.2.1/\x2.2.2=x2.2.2/\x24
 def z3s:=(GV.x x25.2.2).1=noA/\(GV.x x25.2.2).2.1=0/\(GV.x x25.2.2).2.2=0/\zn6 (x25.2.1=x1/\zdd x2 (x25.1=x0+1/\z0l x0 x25/\(∀i0,z1a x2 x3 x4 i0->GV.ok x25.2.2 i0)/\True)) x25
 def z1d:=decide (GJ.k x4=3)=decide (GJ.k x4=3)
 def z1c:=zdd x2 (x0+1=x0+1/\GJ.k x4=GJ.k x4/\GJ.n x4=GJ.n x4/\GJ.s x4=GJ.s x4/\(GJ.y x4).1=(GJ.y x4).1/\(GJ.y x4).2.1=(GJ.y x4).2.1/\(GJ.y x4).2.2=(GJ.y x4).2.2/\(GJ.x x4).1=(GJ.x x4).1/\(GJ.x x4).2.1=(GJ.x x4).2.1/\(GJ.x x4).2.2=(GJ.x x4).2.2/\x1=x1/\x7=x7/\x8=x8/\x6=x6/\x9=x9/\x5=x5/\x11=x11/\x12=x12/\x13=x13/\x14=x14/\x15=x15/\x10=x10/\x17=x17/\x18=x18/\x19=x19/\x20=x20/\x21=x21/\x22=x22/\(∀i0,z1a x2 x3 x4 i0->z1a x2 x3 x4 i0)/\True/\x24)
 def z73:=(Ji (x0=x26) (∃(i0:Unit),x1=x1/\z1d x4/\bq x26 x27 (GJ.k x4) x0=decide (GJ.k x4=x27)/\z1c x5 x0 x2 x3 x4 x10 x6 x7 x8 x9 x16 x11 x12 x13 x14 x15 x17 x18 x19 x20 x21 x22 True) (∃(i1:Unit),x1=x1/\z1d x4/\bq x26 x27 (GJ.k x4) x0=false/\z1c x5 x0 x2 x3 x4 x10 x6 x7 x8 x9 x16 x11 x12 x13 x14 x15 x17 x18 x19 x20 x21 x22 True))
 def zn4:=(Ji (x0=x26) (∃(i0:Unit),x1=x1/\bq x26 x27 (GJ.k x4) x0=decide (GJ.k x4=x27)/\z1d x4/\z1c x5 x0 x2 x3 x4 x10 x6 x7 x8 x9 x16 x11 x12 x13 x14 x15 x17 x18 x19 x20 x21 x22 True) (∃(i1:Unit),x1=x1/\bq x26 x27 (GJ.k x4) x0=false/\z1d x4/\z1c x5 x0 x2 x3 x4 x10 x6 x7 x8 x9 x16 x11 x12 x13 x14 x15 x17 x18 x19 x20 x21 x22 True))
 def zn8:=∃(i0:VlB),GV.n i0.2.2=IntKind.wrap u64 (GJ.n x4)/\GV.s i0.2.2=mkS []/\z3s x0 0 x2 x3 x4 i0
 def zta:=Ji ((-2147483648:Int)<=GJ.n x4) (∃(i0:Unit),x0=x0/\z1d x4/\bI (GJ.k x4) (GJ.n x4) x1=decide (GJ.n x4<2147483648)/\z1c x5 x1 x2 x3 x4 x10 x6 x7 x8 x9 x16 x11 x12 x13 x14 x15 x17 x18 x19 x20 x21 x22 True) (∃(i1:Unit),x0=x0/\z1d x4/\bI (GJ.k x4) (GJ.n x4) x1=false/\z1c x5 x1 x2 x3 x4 x10 x6 x7 x8 x9 x16 x11 x12 x13 x14 x15 x17 x18 x19 x20 x21 x22 True)
 def zt6:=Ji (GJ.k x4=3) (zta x0 x1 x2 x3 x4 x5 x6 x7 x8 x9 x10 x11 x12 x13 x14 x15 x16 x17 x18 x19 x20 x21 x22) (∃(i2:Unit),x0=x0/\z1d x4/\bI (GJ.k x4) (GJ.n x4) x1=false/\z1c x5 x1 x2 x3 x4 x10 x6 x7 x8 x9 x16 x11 x12 x13 x14 x15 x17 x18 x19 x20 x21 x22 True)
 def ztb:=Ji (x0=4) (∃(i0:Unit),x1=x1/\z1d x4/\bN (GJ.k x4) (GJ.n x4) x0=decide (GJ.k x4=3)/\z1c x5 x0 x2 x3 x4 x10 x6 x7 x8 x9 x16 x11 x12 x13 x14 x15 x17 x18 x19 x20 x21 x22 True) (∃(i1:Unit),x1=x1/\z1d x4/\bN (GJ.k x4) (GJ.n x4) x0=false/\z1c x5 x0 x2 x3 x4 x10 x6 x7 x8 x9 x16 x11 x12 x13 x14 x15 x17 x18 x19 x20 x21 x22 True)
 def zt9:=(bI (GJ.k x4) (GJ.n x4) x0=true->∃(i0:Unit),x1=x1/\z1d x4/\bN (GJ.k x4) (GJ.n x4) x0=bI (GJ.k x4) (GJ.n x4) x0/\z1c x5 x0 x2 x3 x4 x10 x6 x7 x8 x9 x16 x11 x12 x13 x14 x15 x17 x18 x19 x20 x21 x22 True)/\(bI (GJ.k x4) (GJ.n x4) x0=false->ztb x0 x1 x2 x3 x4 x5 x6 x7 x8 x9 x10 x11 x12 x13 x14 x15 x16 x17 x18 x19 x20 x21 x22)
 def ztd:=Ji (x0=11) (∃(i0:Unit),x1=x1/\z1d x4/\bT (GJ.k x4) x0=decide (GJ.k x4=4)/\z1c x5 x0 x2 x3 x4 x10 x6 x7 x8 x9 x16 x11 x12 x13 x14 x15 x17 x18 x19 x20 x21 x22 True) (∃(i1:Unit),x1=x1/\z1d x4/\bT (GJ.k x4) x0=false/\z1c x5 x0 x2 x3 x4 x10 x6 x7 x8 x9 x16 x11 x12 x13 x14 x15 x17 x18 x19 x20 x21 x22 True)
 def z74:=zdd x2 (x0+1=x0+1/\(∀i0,z1a x2 x3 x4 i0->z1a x2 x3 x4 i0)/\True/\True)
 def ztc:=Ji (x0=7) (∃(i0:Bool),x28.1=x28.1/\i0=true/\z74 x1 x2 x3 x4) (∃(i1:Bool),x28.1=x28.1/\i1=decide ((↑(size x28.1):Int)=x5)/\z74 x1 x2 x3 x4)
 def ztf:=(x14=true->∃(i0:VlB),GV.n i0.2.2=0/\GV.s i0.2.2=x28.1/\z3s x0 0 x2 x3 x4 i0)/\(x14=false->∃(i1:Unit),z74 x0 x2 x3 x4)
 def zt3:=((x28.2=true->ztc x0 x1 x2 x3 x4 x5 x28)/\(x28.2=false->∃(i4:Bool),x28.1=x28.1/\i4=false/\z74 x1 x2 x3 x4))/\∀(i6:Bool),True->ztf x1 x2 x3 x4 i6 x28
 def zt7:=(0<=(↑x6:Int)/\(↑x6:Int)<(↑x9:Int))/\x8≠noA/\∃i0,(∀i1,z1a x2 x3 x4 i1->q3i i1 (adr x8 (toNat (↑x6:Int)*1)) [string i0])/\Ji (i0=GJ.s x4) (∃(i2:VlB),GV.n i2.2.2=IntKind.wrap u64 (↑x6:Int)/\GV.s i2.2.2=mkS []/\z3s x0 0 x2 x3 x4 i2) (Jb ((↑x6:Int)+1)/\∃(i3:Nat),x1=x1/\z1d x4/\(↑i3:Int)=(↑x6:Int)+1/\z1c x0 x5 x2 x3 x4 x10 x12 x7 x11 x13 x16 x8 x9 x18 x14 x15 x17 x19 x21 x20 x22 x23 ((1000:Nat)- i3<1000- x6/\True))
 def zt5:=Ji ((↑x6:Int)<(↑x9:Int)) (zt7 x0 x1 x2 x3 x4 x5 x6 x7 x8 x9 x10 x11 x12 x13 x14 x15 x16 x17 x18 x19 x20 x21 x22 x23) (∃(i4:Unit),z74 x0 x2 x3 x4)
 def zt4:=(∃(i0:Nat),x0=x0/\z1d x4/\(↑i0:Int)=0/\z1c x1 x5 x2 x3 x4 x10 x6 x7 x8 x9 x16 x11 x12 x13 x14 x15 x17 x18 x19 x20 x21 x22 True)/\∀(i1:Nat),True->zt5 x1 x0 x2 x3 x4 x5 i1 x7 x11 x12 x10 x8 x6 x9 x14 x15 x16 x17 x13 x18 x20 x19 x21 x22
 def zte:=Ji (x0=13) (∃(i0:Unit),x1=x1/\z1d x4/\bP (GJ.k x4) x0=decide (GJ.k x4=6)/\z1c x5 x0 x2 x3 x4 x10 x6 x7 x8 x9 x16 x11 x12 x13 x14 x15 x17 x18 x19 x20 x21 x22 True) (∃(i1:Unit),x1=x1/\z1d x4/\bP (GJ.k x4) x0=false/\z1c x5 x0 x2 x3 x4 x10 x6 x7 x8 x9 x16 x11 x12 x13 x14 x15 x17 x18 x19 x20 x21 x22 True)
 def zt8:=(bq 12 5 (GJ.k x4) x0=true->∃(i0:Unit),x1=x1/\z1d x4/\bP (GJ.k x4) x0=bq 12 5 (GJ.k x4) x0/\z1c x5 x0 x2 x3 x4 x10 x6 x7 x8 x9 x16 x11 x12 x13 x14 x15 x17 x18 x19 x20 x21 x22 True)/\(bq 12 5 (GJ.k x4) x0=false->zte x0 x1 x2 x3 x4 x5 x6 x7 x8 x9 x10 x11 x12 x13 x14 x15 x16 x17 x18 x19 x20 x21 x22)
 def zn1:=AT.k x29.2.2.2.1=x0/\AT.nm x29.2.2.2.1=x7/\(AT.al x29.2.2.2.1).1=x8/\(AT.al x29.2.2.2.1).2.1=x6/\(AT.al x29.2.2.2.1).2.2=x9/\AT.it x29.2.2.2.1=x1/\(AT.sy x29.2.2.2.1).1=x11/\(AT.sy x29.2.2.2.1).2.1=x12/\(AT.sy x29.2.2.2.1).2.2=x13/\AT.hd x29.2.2.2.1=x14/\AT.df x29.2.2.2.1=x15/\AT.sz x29.2.2.2.1=x5/\(AT.f x29.2.2.2.1).1=x17/\(AT.f x29.2.2.2.1).2.1=x18/\(AT.f x29.2.2.2.1).2.2=x19/\(AT.br x29.2.2.2.1).1=x20/\(AT.br x29.2.2.2.1).2.1=x21/\(AT.br x29.2.2.2.1).2.2=x22/\GJ.k x29.2.2.2.2.1=GJ.k x4/\GJ.n x29.2.2.2.2.1=GJ.n x4/\GJ.s x29.2.2.2.2.1=GJ.s x4/\(GJ.y x29.2.2.2.2.1).1=(GJ.y x4).1/\(GJ.y x29.2.2.2.2.1).2.1=(GJ.y x4).2.1/\(GJ.y x29.2.2.2.2.1).2.2=(GJ.y x4).2.2/\(GJ.x x29.2.2.2.2.1).1=(GJ.x x4).1/\(GJ.x x29.2.2.2.2.1).2.1=(GJ.x x4).2.1/\(GJ.x x29.2.2.2.2.1).2.2=(GJ.x x4).2.2/\x29.2.2.2.2.2=x10/\x29.2.1.1=x2.1/\x29.2.1.2.1=x2.2.1/\x29.2.1.2.2=x2.2.2/\x29.2.2.1=x16+1/\x24
 def zn5:=GJ.wf x29.2.2.2.2.1/\(0<=x29.2.2.1/\x29.2.2.1<=2000)/\1<=x29.2.2.2.2.2/\x29.2.2.2.2.2<=20
 def zn3:=GV.n x25.2.2=GV.n x30.2.2/\GV.s x25.2.2=GV.s x30.2.2/\(GV.x x25.2.2).1=(GV.x x30.2.2).1/\(GV.x x25.2.2).2.1=(GV.x x30.2.2).2.1/\(GV.x x25.2.2).2.2=(GV.x x30.2.2).2.2/\(GV.y x25.2.2).1=(GV.y x30.2.2).1/\(GV.y x25.2.2).2.1=(GV.y x30.2.2).2.1/\(GV.y x25.2.2).2.2=(GV.y x30.2.2).2.2/\GV.b x25.2.2=GV.b x30.2.2/\x24
 def zn2:=(∀i0,z1a x2 x3 x4 i0->z09 x29.1 x29.2.1 i0/\AT.ok x29.2.2.2.1 i0/\GJ.ok x29.2.2.2.2.1 i0)/\∀(i1:VlB),z0l x29.2.2.1 i1->(∃i2,(z1a x2 x3 x4 i2)/\GV.ok i1.2.2 i2)->∃(i3:VlB),zn3 (i3.2.1=i1.2.1/\x2.1=x29.2.1.1/\x2.2.1=x29.2.1.2.1/\x2.2.2=x29.2.1.2.2/\i3.1=i1.1/\z0l x0 i3/\(∀i4,(z1a x2 x3 x4 i4)/\GV.ok i1.2.2 i4->GV.ok i3.2.2 i4)/\True) i3 i1
 def zn0:=((0:Int)<=0/\0<(↑x6:Int))/\x8≠noA/\∃(i0:Int),(∀i1,z1a x2 x3 x4 i1->q3i i1 (adr x8 ((0:Nat)*1)) [int i64 i0])/\zn7 x0/\∃(i2:VlS),i2.2.2.2.1=i0/\GJ.k i2.2.2.2.2.1=GJ.k x4/\GJ.n i2.2.2.2.2.1=GJ.n x4/\GJ.s i2.2.2.2.2.1=GJ.s x4/\(GJ.y i2.2.2.2.2.1).1=(GJ.y x4).1/\(GJ.y i2.2.2.2.2.1).2.1=(GJ.y x4).2.1/\(GJ.y i2.2.2.2.2.1).2.2=(GJ.y x4).2.2/\(GJ.x i2.2.2.2.2.1).1=(GJ.x x4).1/\(GJ.x i2.2.2.2.2.1).2.1=(GJ.x x4).2.1/\(GJ.x i2.2.2.2.2.1).2.2=(GJ.x x4).2.2/\i2.2.2.2.2.2=x0+1/\i2.2.1.1=x2.1/\i2.2.1.2.1=x2.2.1/\i2.2.1.2.2=x2.2.2/\i2.2.2.1=x1+1/\(z5t i2<x9/\z0c i2.1/\(0<=i2.2.2.2.1/\i2.2.2.2.1<(↑(length i2.1):Int))/\GJ.wf i2.2.2.2.2.1/\(0<=i2.2.2.1/\i2.2.2.1<=2000)/\1<=i2.2.2.2.2.2/\i2.2.2.2.2.2<=21)/\(∀i3,z1a x2 x3 x4 i3->z09 i2.1 i2.2.1 i3/\GJ.ok i2.2.2.2.2.1 i3)/\∀(i4:VlB),z0l i2.2.2.1 i4->(∃i5,(z1a x2 x3 x4 i5)/\GV.ok i4.2.2 i5)->∃(i6:VlB),i6.2.1=i4.2.1/\x2.1=i2.2.1.1/\x2.2.1=i2.2.1.2.1/\x2.2.2=i2.2.1.2.2/\i6.1=i4.1/\zn3 ((∀i7,(z1a x2 x3 x4 i7)/\GV.ok i4.2.2 i7->z1a x2 x3 x4 i7)/\(∀i8,(z1a x2 x3 x4 i8)/\GV.ok i4.2.2 i8->GV.ok i6.2.2 i8)/\z0l x1 i6/\True) i6 i4
 def zt2:=((zn0 x0 x1 x2 x3 x4 x6 x8 x9)/\zn0 x0 x1 x2 x3 x4 x6 x8 x9)/\∀(i18:VlB),z0l x1 i18->(∃i19,(z1a x2 x3 x4 i19)/\GV.ok i18.2.2 i19)->∀(i20 i21 i22:Nat),(∃i23,((z1a x2 x3 x4 i23)/\GV.ok i18.2.2 i23)/\q3i i23 (Addr.mk i20 i21 none) [int u64 (GV.n i18.2.2),string (GV.s i18.2.2),slice (GV.x i18.2.2).1 (GV.x i18.2.2).2.1 (GV.x i18.2.2).2.2,slice (GV.y i18.2.2).1 (GV.y i18.2.2).2.1 (GV.y i18.2.2).2.2,int i64 (GV.b i18.2.2)])->∃(i24:VlB),z9j ((GV.x i24.2.2).1=some (Addr.mk i20 (i21+nat_lit 0) none)/\(GV.x i24.2.2).2.1=nat_lit 1/\(GV.x i24.2.2).2.2=nat_lit 1/\zn6 (i24.2.1=i18.2.1/\zdd x2 (i24.1=i18.1/\z0l x1 i24/\(∀i25,(((z1a x2 x3 x4 i25)/\GV.ok i18.2.2 i25)/\∀(i26:Nat) (i27:Value),[int u64 (GV.n i18.2.2),string (GV.s i18.2.2),slice (GV.x i18.2.2).1 (GV.x i18.2.2).2.1 (GV.x i18.2.2).2.2,slice (GV.y i18.2.2).1 (GV.y i18.2.2).2.1 (GV.y i18.2.2).2.2,int i64 (GV.b i18.2.2)][i26]? =some i27->q6f i25 (Addr.add (Addr.mk i20 i21 none) i26)=some i27)->GV.ok i24.2.2 i25)/\True)) i24) i24
 def zt1:=Ji (x0=14) (zt2 x1 x5 x2 x3 x4 x6 x8 x9) (∃(i28:Unit),z74 x5 x2 x3 x4)
 def zt0:=(bq 9 6 (GJ.k x4) x0=true->∃(i0:VqS),zn1 x0 x1 x2 x4 x5 x6 x7 x8 x9 x10 x11 x12 x13 x14 x15 x16 x17 x18 x19 x20 x21 x22 ((z7y i0<x23+1/\z0c i0.1/\i0.2.2.2.1∈i0.1/\isRec i0.2.2.2.1 i0.2.2.2.2.1/\zn5 i0)/\zn2 x16 x2 x3 x4 i0) i0)/\(bq 9 6 (GJ.k x4) x0=false->zt1 x0 x10 x2 x3 x4 x16 x21 x20 x23)
 def zsz:=z73 x0 x1 x2 x3 x4 x5 x6 x7 x8 x9 x10 x11 x12 x13 x14 x15 x16 x17 x18 x19 x20 x21 x22 9 6/\∀(i2:Unit),True->zt0 x0 x10 x2 x3 x4 x16 x6 x7 x8 x9 x1 x11 x12 x13 x14 x15 x5 x17 x18 x19 x20 x21 x22 x23
 def zsy:=(bP (GJ.k x4) x0=true->∃(i0:VqS),zn1 x0 x1 x2 x4 x5 x6 x7 x8 x9 x10 x11 x12 x13 x14 x15 x16 x17 x18 x19 x20 x21 x22 ((z7y i0<x23+1/\z0c i0.1/\i0.2.2.2.1∈i0.1/\zek i0.2.2.2.1 i0.2.2.2.2.1/\zn5 i0)/\zn2 x16 x2 x3 x4 i0) i0)/\(bP (GJ.k x4) x0=false->zsz x0 x10 x2 x3 x4 x16 x6 x7 x8 x9 x1 x11 x12 x13 x14 x15 x5 x17 x18 x19 x20 x21 x22 x23)
 def zsx:=(z73 x0 x1 x2 x3 x4 x5 x6 x7 x8 x9 x10 x11 x12 x13 x14 x15 x16 x17 x18 x19 x20 x21 x22 12 5/\∀(i2:Unit),True->zt8 x0 x1 x2 x3 x4 x5 x6 x7 x8 x9 x10 x11 x12 x13 x14 x15 x16 x17 x18 x19 x20 x21 x22)/\∀(i6:Unit),True->zsy x0 x10 x2 x3 x4 x16 x6 x7 x8 x9 x1 x11 x12 x13 x14 x15 x5 x17 x18 x19 x20 x21 x22 x23
 def zsw:=(bq 10 4 (GJ.k x4) x0=true->zt4 x1 x5 x2 x3 x4 x0 x6 x7 x8 x9 x10 x11 x12 x13 x14 x15 x16 x17 x18 x19 x20 x21 x22)/\(bq 10 4 (GJ.k x4) x0=false->zsx x0 x1 x2 x3 x4 x5 x6 x7 x8 x9 x10 x11 x12 x13 x14 x15 x16 x17 x18 x19 x20 x21 x22 x23)
 def zsv:=z73 x0 x1 x2 x3 x4 x5 x6 x7 x8 x9 x10 x11 x12 x13 x14 x15 x16 x17 x18 x19 x20 x21 x22 10 4/\∀(i4:Unit),True->zsw x0 x1 x2 x3 x4 x5 x6 x7 x8 x9 x10 x11 x12 x13 x14 x15 x16 x17 x18 x19 x20 x21 x22 x23
 def zsu:=(bT (GJ.k x4) x0=true->∃i0,i0=GJ.s x4/\size i0<1000000/\∀(i1:ByteArray×Bool),size i1.1<=size i0->zt3 x0 x1 x2 x3 x4 x5 i1)/\(bT (GJ.k x4) x0=false->zsv x0 x10 x2 x3 x4 x1 x6 x7 x8 x9 x16 x11 x12 x13 x14 x15 x5 x17 x18 x19 x20 x21 x22 x23)
 def zst:=(Ji (x0=7) (∃(i0:Unit),x1=x1/\z1d x4/\bT (GJ.k x4) x0=decide (GJ.k x4=4)/\z1c x5 x0 x2 x3 x4 x10 x6 x7 x8 x9 x16 x11 x12 x13 x14 x15 x17 x18 x19 x20 x21 x22 True) (ztd x0 x1 x2 x3 x4 x5 x6 x7 x8 x9 x10 x11 x12 x13 x14 x15 x16 x17 x18 x19 x20 x21 x22))/\∀(i6:Unit),True->zsu x0 x5 x2 x3 x4 x16 x6 x7 x8 x9 x1 x11 x12 x13 x14 x15 x10 x17 x18 x19 x20 x21 x22 x23
 def zss:=(bq 8 4 (GJ.k x4) x0=true->∃(i0:VlB),GV.n i0.2.2=0/\GV.s i0.2.2=GJ.s x4/\z3s x1 0 x2 x3 x4 i0)/\(bq 8 4 (GJ.k x4) x0=false->zst x0 x5 x2 x3 x4 x1 x6 x7 x8 x9 x10 x11 x12 x13 x14 x15 x16 x17 x18 x19 x20 x21 x22 x23)
 def zsr:=z73 x0 x1 x2 x3 x4 x5 x6 x7 x8 x9 x10 x11 x12 x13 x14 x15 x16 x17 x18 x19 x20 x21 x22 8 4/\∀(i4:Unit),True->zss x0 x5 x2 x3 x4 x1 x6 x7 x8 x9 x10 x11 x12 x13 x14 x15 x16 x17 x18 x19 x20 x21 x22 x23
 def zsq:=(bq 6 3 (GJ.k x4) x0=true->∃(i0:Int),i0=GJ.n x4/\zos i0/\∀(i1:Int),z5h i1->∃(i2:VlB),GV.n i2.2.2=i1/\GV.s i2.2.2=mkS []/\z3s x1 0 x2 x3 x4 i2)/\(bq 6 3 (GJ.k x4) x0=false->zsr x0 x5 x2 x3 x4 x1 x6 x7 x8 x9 x10 x11 x12 x13 x14 x15 x16 x17 x18 x19 x20 x21 x22 x23)
 def zsp:=z73 x0 x1 x2 x3 x4 x5 x6 x7 x8 x9 x10 x11 x12 x13 x14 x15 x16 x17 x18 x19 x20 x21 x22 6 3/\∀(i4:Unit),True->zsq x0 x5 x2 x3 x4 x1 x6 x7 x8 x9 x10 x11 x12 x13 x14 x15 x16 x17 x18 x19 x20 x21 x22 x23
 def j3x:=(bq 5 3 (GJ.k x4) x0=true->∃(i0:Int),i0=GJ.n x4/\zos i0/\∀(i1:Int),0<=i1/\i1<4294967296->(0<=i1/\i1<=18446744073709551615)/\∃(i2:VlB),GV.n i2.2.2=i1/\GV.s i2.2.2=mkS []/\z3s x1 0 x2 x3 x4 i2)/\(bq 5 3 (GJ.k x4) x0=false->zsp x0 x5 x2 x3 x4 x1 x6 x7 x8 x9 x10 x11 x12 x13 x14 x15 x16 x17 x18 x19 x20 x21 x22 x23)
 def j3w:=zn4 x0 x1 x2 x3 x4 x5 x6 x7 x8 x9 x10 x11 x12 x13 x14 x15 x16 x17 x18 x19 x20 x21 x22 5 3/\∀(i4:Unit),True->j3x x0 x5 x2 x3 x4 x1 x6 x7 x8 x9 x10 x11 x12 x13 x14 x15 x16 x17 x18 x19 x20 x21 x22 x23
 def j3v:=(bN (GJ.k x4) (GJ.n x4) x0=true->zn8 x1 x2 x3 x4)/\(bN (GJ.k x4) (GJ.n x4) x0=false->j3w x0 x5 x2 x3 x4 x1 x6 x7 x8 x9 x10 x11 x12 x13 x14 x15 x16 x17 x18 x19 x20 x21 x22 x23)
 def j3u:=((Ji (x0=3) (zt6 x1 x0 x2 x3 x4 x5 x6 x7 x8 x9 x10 x11 x12 x13 x14 x15 x16 x17 x18 x19 x20 x21 x22) (∃(i6:Unit),x1=x1/\z1d x4/\bI (GJ.k x4) (GJ.n x4) x0=false/\z1c x5 x0 x2 x3 x4 x10 x6 x7 x8 x9 x16 x11 x12 x13 x14 x15 x17 x18 x19 x20 x21 x22 True))/\∀(i8:Unit),True->zt9 x0 x1 x2 x3 x4 x5 x6 x7 x8 x9 x10 x11 x12 x13 x14 x15 x16 x17 x18 x19 x20 x21 x22)/\∀(i15:Unit),True->j3v x0 x5 x2 x3 x4 x1 x6 x7 x8 x9 x10 x11 x12 x13 x14 x15 x16 x17 x18 x19 x20 x21 x22 x23
 def j3t:=(bq 2 2 (GJ.k x4) x0=true->zn8 x1 x2 x3 x4)/\(bq 2 2 (GJ.k x4) x0=false->j3u x0 x5 x2 x3 x4 x1 x6 x7 x8 x9 x10 x11 x12 x13 x14 x15 x16 x17 x18 x19 x20 x21 x22 x23)
 def j3s:=zn4 x0 x1 x2 x3 x4 x5 x6 x7 x8 x9 x10 x11 x12 x13 x14 x15 x16 x17 x18 x19 x20 x21 x22 2 2/\∀(i4:Unit),True->j3t x0 x5 x2 x3 x4 x1 x6 x7 x8 x9 x10 x11 x12 x13 x14 x15 x16 x17 x18 x19 x20 x21 x22 x23
 def j3r:=(bq 1 1 (GJ.k x4) x0=true->∃(i0:VlB),z9j (z3s x1 0 x2 x3 x4 i0) i0)/\(bq 1 1 (GJ.k x4) x0=false->j3s x0 x5 x2 x3 x4 x1 x6 x7 x8 x9 x10 x11 x12 x13 x14 x15 x16 x17 x18 x19 x20 x21 x22 x23)
 def j3q:=(0<=x0/\x0<(↑x2.2.1:Int))/\x2.1≠noA/\∃(i0:Int),∃i1,∃i2,∃(i3:Nat),∃(i4:Nat),∃(i5:Int),∃i6,∃(i7:Nat),∃(i8:Nat),∃(i9:Bool),∃i10,∃(i11:Int),∃i12,∃(i13:Nat),∃(i14:Nat),∃i15,∃(i16:Nat),∃(i17:Nat),(∀i18,z1a x2 x3 x4 i18->q3i i18 (adr x2.1 (toNat x0*10)) [int i64 i0,string i1,slice i2 i3 i4,int i64 i5,slice i6 i7 i8,bool i9,string i10,int i64 i11,slice i12 i13 i14,slice i15 i16 i17])/\(z73 i0 x1 x2 x3 x4 x5 i3 i1 i2 i4 i5 i6 i7 i8 i9 i10 i11 i12 i13 i14 i15 i16 i17 1 1/\∀(i23:Unit),True->j3r i0 x5 x2 x3 x4 x1 i3 i1 i2 i4 i5 i6 i7 i8 i9 i10 i11 i12 i13 i14 i15 i16 i17 x6)/\∀(i171:Unit),True->∃(i172:VlB),z9j (z3s x5 7 x2 x3 x4 i172) i172
 def j3p:=Ji (2000<x0+1) (∃(i0:VlB),z9j (z3s x0 3 x2 x3 x4 i0) i0) (j3q x1 x5 x2 x3 x4 x0 x6)
 def j3o:=zn7 x0/\Ji (20<x1) (∃(i0:VlB),z9j (z3s x0 3 x2 x3 x4 i0) i0) (j3p x0 x5 x2 x3 x4 x1 x6)
end
def zq2(n:Nat) (S:List AT) (x:SV) (all t:Int) (g:GJ) (d:Int):qlb P (qgc []) (qhg [(56,cVl.below z5t n),(83,(cVq zek).below z7y (n+1)),(84,(cVq isRec).below z7y (n+1)),(80,za5),(81,z6c),(82,zuj)]) Try.f56 (cVl.below z5t (n+1)) (wVl) ⟨S,x,all,t,g,d⟩=(z5t (S,x,all,t,g,d)<n+1/\z0c S/\(0<=t/\t<(↑(length S):Int))/\GJ.wf g/\(0<=all/\all<=2000)/\1<=d/\d<=21->(∃(p:Pub),z1a x S g p)->j3o all d x S g t n):=by kernel_rfl
def zvi:=λn S x all t g d=>Eq.trans (zq2 n S x all t g d) (by delta Ji Jb Jt Jf z1a zn7 z9j zn6 zdd z3s z1d z1c z73 zn4 zn8 zta zt6 ztb zt9 ztd z74 ztc ztf zt3 zt7 zt5 zt4 zte zt8 zn1 zn5 zn3 zn2 zn0 zt2 zt1 zt0 zsz zsy zsx zsw zsv zsu zst zss zsr zsq zsp j3x j3w j3v j3u j3t j3s j3r j3q j3p j3o;exact rfl)
section
variable (x0:Int) (x1:SV) (x2:Int) (x3:GJ) (x4:AT) (x5:List AT) (x6:Nat) (x7:Nat×Int×List GV) (x8:VlB) (x9:Prop) (x10:Nat->Option Obj)
 abbrev z75:=True/\z09 x5 x1 x10/\AT.ok x4 x10/\GJ.ok x3 x10
 def zde:=x1.1=x1.1/\x1.2.1=x1.2.1/\x1.2.2=x1.2.2/\x9
 def zv7:=GJ.k x3=GJ.k x3/\GJ.n x3=GJ.n x3/\GJ.s x3=GJ.s x3/\(GJ.y x3).1=(GJ.y x3).1/\(GJ.y x3).2.1=(GJ.y x3).2.1/\(GJ.y x3).2.2=(GJ.y x3).2.2/\(GJ.x x3).1=(GJ.x x3).1/\(GJ.x x3).2.1=(GJ.x x3).2.1/\(GJ.x x3).2.2=(GJ.x x3).2.2/\x9
 def zv6:=AT.k x4=AT.k x4/\AT.nm x4=AT.nm x4/\(AT.al x4).1=(AT.al x4).1/\(AT.al x4).2.1=(AT.al x4).2.1/\(AT.al x4).2.2=(AT.al x4).2.2/\AT.it x4=AT.it x4/\(AT.sy x4).1=(AT.sy x4).1/\(AT.sy x4).2.1=(AT.sy x4).2.1/\(AT.sy x4).2.2=(AT.sy x4).2.2/\AT.hd x4=AT.hd x4/\AT.df x4=AT.df x4/\AT.sz x4=AT.sz x4/\(AT.f x4).1=(AT.f x4).1/\(AT.f x4).2.1=(AT.f x4).2.1/\(AT.f x4).2.2=(AT.f x4).2.2/\(AT.br x4).1=(AT.br x4).1/\(AT.br x4).2.1=(AT.br x4).2.1/\(AT.br x4).2.2=(AT.br x4).2.2/\x9
 def zgw:=x7.1<=length (GJ.l x3)/\(x0<=x7.2.1/\x7.2.1<=2000)/\length x7.2.2=x7.1
 def z24:=(z75 x1 x3 x4 x5 x10)/\GV.oks x7.2.2 x10
 abbrev zna:=(↑x7.1:Int)<(↑(GJ.y x3).2.1:Int)
 abbrev zwx:=zfv (T.n (T.n (T.n T.e (some (AO.cells 48 (some 0) false [AV.sv (int i64 (GJ.k x3)),AV.sv (int i64 (GJ.n x3)),AV.sv (string (GJ.s x3)),AV.sv (slice (GJ.y x3).1 (GJ.y x3).2.1 (GJ.y x3).2.2),AV.sv (slice (GJ.x x3).1 (GJ.x x3).2.1 (GJ.x x3).2.2)])) T.e) (some (AO.cells (115:TypeId) (some 0) false [AV.sv (slice x1.1 x1.2.1 x1.2.2),AV.sv (int i64 x7.2.1)])) (T.n T.e (some (AO.cells (37:TypeId) (some 0) false [AV.int u64 0,AV.str [],AV.ssl (nat_lit 6) (nat_lit 0) (length x7.2.2) (nat_lit 5) (nat_lit 7),AV.nsl,AV.int i64 0])) T.e)) none (T.n (T.n T.e (some (AO.cells 37 (some 0) false [AV.int u64 0,AV.str (List.map UInt8.toNat (Array.toList (ByteArray.data (mkS [])))),AV.nsl,AV.nsl,AV.int i64 0])) T.e) (some (AO.cells 54 (some 0) false [AV.sv (int i64 (AT.k x4)),AV.sv (string (AT.nm x4)),AV.sv (slice (AT.al x4).1 (AT.al x4).2.1 (AT.al x4).2.2),AV.sv (int i64 (AT.it x4)),AV.sv (slice (AT.sy x4).1 (AT.sy x4).2.1 (AT.sy x4).2.2),AV.sv (bool (AT.hd x4)),AV.sv (string (AT.df x4)),AV.sv (int i64 (AT.sz x4)),AV.sv (slice (AT.f x4).1 (AT.f x4).2.1 (AT.f x4).2.2),AV.sv (slice (AT.br x4).1 (AT.br x4).2.1 (AT.br x4).2.2)])) (T.n T.e (some (AO.row (37:TypeId) (nat_lit 0) (z00 GV.cells x7.2.2))) T.e)))
 def zww:=(0<=(↑x7.1:Int)/\zna x3 x7)/\(GJ.y x3).1≠noA/\∃(i0:Int),∃(i1:Int),∃i2,∃i3,∃(i4:Nat),∃(i5:Nat),∃i6,∃(i7:Nat),∃(i8:Nat),(∀i9,z24 x1 x3 x4 x5 x7 i9->q3i i9 (adr (GJ.y x3).1 (toNat (↑x7.1:Int)*5)) [int i64 i0,int i64 i1,string i2,slice i3 i4 i5,slice i6 i7 i8])/\Jb (x0+1)/\∃(i10:VlS),i10.2.2.2.1=AT.it x4/\GJ.k i10.2.2.2.2.1=i0/\GJ.n i10.2.2.2.2.1=i1/\GJ.s i10.2.2.2.2.1=i2/\(GJ.y i10.2.2.2.2.1).1=i3/\(GJ.y i10.2.2.2.2.1).2.1=i4/\(GJ.y i10.2.2.2.2.1).2.2=i5/\(GJ.x i10.2.2.2.2.1).1=i6/\(GJ.x i10.2.2.2.2.1).2.1=i7/\(GJ.x i10.2.2.2.2.1).2.2=i8/\i10.2.2.2.2.2=x0+1/\i10.2.1.1=x1.1/\i10.2.1.2.1=x1.2.1/\i10.2.1.2.2=x1.2.2/\i10.2.2.1=x7.2.1/\(z5t i10<x6/\z0c i10.1/\(0<=i10.2.2.2.1/\i10.2.2.2.1<(↑(length i10.1):Int))/\GJ.wf i10.2.2.2.2.1/\(0<=i10.2.2.1/\i10.2.2.1<=2000)/\1<=i10.2.2.2.2.2/\i10.2.2.2.2.2<=21)/\(∀i11,z24 x1 x3 x4 x5 x7 i11->z09 i10.1 i10.2.1 i11/\GJ.ok i10.2.2.2.2.1 i11)/\∀(i12:VlB),z0l i10.2.2.1 i12->(∃i13,(z24 x1 x3 x4 x5 x7 i13)/\GV.ok i12.2.2 i13)->∃(i14:VlB),x0=x0/\(↑x7.1:Int)=(↑x7.1:Int)/\i14.2.1=i12.2.1/\x1.1=i10.2.1.1/\x1.2.1=i10.2.1.2.1/\x1.2.2=i10.2.1.2.2/\i14.1=i12.1/\zv7 x3 (length x7.2.2=length x7.2.2/\zv6 x4 (z00 GV.cells x7.2.2=z00 GV.cells x7.2.2/\GV.n i14.2.2=GV.n i12.2.2/\GV.s i14.2.2=GV.s i12.2.2/\(GV.x i14.2.2).1=(GV.x i12.2.2).1/\(GV.x i14.2.2).2.1=(GV.x i12.2.2).2.1/\(GV.x i14.2.2).2.2=(GV.x i12.2.2).2.2/\(GV.y i14.2.2).1=(GV.y i12.2.2).1/\(GV.y i14.2.2).2.1=(GV.y i12.2.2).2.1/\(GV.y i14.2.2).2.2=(GV.y i12.2.2).2.2/\GV.b i14.2.2=GV.b i12.2.2/\(∀i15,(z24 x1 x3 x4 x5 x7 i15)/\GV.ok i12.2.2 i15->z24 x1 x3 x4 x5 x7 i15)/\(∀i16,(z24 x1 x3 x4 x5 x7 i16)/\GV.ok i12.2.2 i16->GV.ok i14.2.2 i16)/\z0l (zwx x1 x3 x4 x7) i14/\True))
 def zn9:=(GV.y x8.2.2).1=noA/\(GV.y x8.2.2).2.1=0/\(GV.y x8.2.2).2.2=0/\GV.b x8.2.2=0/\x9
 def j43:=length (z00 GV.cells x7.2.2)=length x7.2.2*5/\(length x7.2.2+nat_lit 1)*80<=140737488355328/\Jb ((↑x7.1:Int)+1)/\∃(i0:Nat×Int×List GV),x0=x0/\(↑i0.1:Int)=(↑x7.1:Int)+1/\zde x1 (i0.2.1=x8.1/\zv7 x3 (length i0.2.2=length x7.2.2+nat_lit 1/\zv6 x4 (z00 GV.cells i0.2.2=z00 GV.cells x7.2.2++[int u64 (GV.n x8.2.2),string (GV.s x8.2.2),slice (GV.x x8.2.2).1 (GV.x x8.2.2).2.1 (GV.x x8.2.2).2.2,slice (GV.y x8.2.2).1 (GV.y x8.2.2).2.1 (GV.y x8.2.2).2.2,int i64 (GV.b x8.2.2)]/\(∀i1,(z24 x1 x3 x4 x5 x7 i1)/\GV.ok x8.2.2 i1->z75 x1 x3 x4 x5 i1)/\(∀i2,(z24 x1 x3 x4 x5 x7 i2)/\GV.ok x8.2.2 i2->GV.oks i0.2.2 i2)/\(zgw x2 x3 i0)/\length (GJ.l x3)- i0.1<length (GJ.l x3)- x7.1/\True)))
 def ztg:=(0<=(↑x7.1:Int)/\(↑x7.1:Int)<(↑(GJ.x x3).2.1:Int))/\(GJ.x x3).1≠noA/\∃i0,(∀i1,(z24 x1 x3 x4 x5 x7 i1)/\GV.ok x8.2.2 i1->q3i i1 (adr (GJ.x x3).1 (toNat (↑x7.1:Int)*1)) [string i0])/\∃(i2:GV×ByteArray×GV),GV.n i2.1=0/\GV.s i2.1=mkS []/\False
 def j42:=Ji (AT.k x4=12) (j43 x0 x1 x2 x3 x4 x5 x7 x8) (ztg x1 x3 x4 x5 x7 x8)
 def j41:=((!decide (x8.2.1=0))=true->∃(i0:VlB),GV.n i0.2.2=0/\GV.s i0.2.2=mkS []/\(GV.x i0.2.2).1=noA/\(GV.x i0.2.2).2.1=0/\(GV.x i0.2.2).2.2=0/\zn9 i0 (i0.2.1=x8.2.1/\zde x1 (i0.1=x8.1/\z0l x0 i0/\(∀i1,(z24 x1 x3 x4 x5 x7 i1)/\GV.ok x8.2.2 i1->GV.ok i0.2.2 i1)/\True)))/\((!decide (x8.2.1=0))=false->j42 x2 x1 x0 x3 x4 x5 x7 x8)
 def j40:=((zww x0 x1 x3 x4 x5 x6 x7)/\zww x0 x1 x3 x4 x5 x6 x7)/\∀(i34:VlB),z0l (zwx x1 x3 x4 x7) i34->(∃i35,(z24 x1 x3 x4 x5 x7 i35)/\GV.ok i34.2.2 i35)->j41 x2 x1 x0 x3 x4 x5 x7 i34
 def j3z:=Ji (zna x3 x7) (j40 x0 x1 x2 x3 x4 x5 x6 x7) (∀(i44 i45 i46:Nat) (i47:Option Addr) (i48 i49:Nat),(∃i50,(z24 x1 x3 x4 x5 x7 i50)/\length x7.2.2<=i49/\qhu i50 i47 (take (length x7.2.2*nat_lit 5) (z00 GV.cells x7.2.2)))->∃(i51:VlB),GV.n i51.2.2=0/\GV.s i51.2.2=mkS []/\(GV.x i51.2.2).1=i47/\(GV.x i51.2.2).2.1=length x7.2.2/\(GV.x i51.2.2).2.2=i49/\zn9 i51 (i51.2.1=0/\zde x1 (i51.1=x7.2.1/\z0l x2 i51/\(∀i52,(z24 x1 x3 x4 x5 x7 i52)/\length x7.2.2<=i49/\qhu i52 i47 (take (length x7.2.2*nat_lit 5) (z00 GV.cells x7.2.2))->GV.ok i51.2.2 i52)/\True)))
 def j3y:=(∃(i0:Nat×Int×List GV),x0=x0/\(↑i0.1:Int)=0/\zde x1 (i0.2.1=x2/\zv7 x3 (length i0.2.2=0/\zv6 x4 ((∀i1,z75 x1 x3 x4 x5 i1->z75 x1 x3 x4 x5 i1)/\(∀i2,z75 x1 x3 x4 x5 i2->GV.oks i0.2.2 i2)/\(zgw x2 x3 i0)/\True))))/\∀(i3:Nat×Int×List GV),zgw x2 x3 i3->(∃i4,z24 x1 x3 x4 x5 i3 i4)->j3z x0 x1 x2 x3 x4 x5 x6 i3
end
def zba(n:Nat) (S:List AT) (x:SV) (all:Int) (a:AT) (g:GJ) (d:Int):qlb P (qgc []) (qhg [(56,cVl.below z5t n),(97,zp9)]) Try.f83 ((cVq zj9).below z7y (n+1)) (wPa) ⟨S,x,all,a,g,d⟩=(z7y (S,x,all,a,g,d)<n+1/\z0c S/\a∈S/\zj9 a g/\GJ.wf g/\(0<=all/\all<=2000)/\1<=d/\d<=20->(∃(p:Pub),z75 x g a S p)->j3y d x all g a S n):=by kernel_rfl
def zew:=λn S x all a g d=>Eq.trans (zba n S x all a g d) (by delta Ji Jb Jt Jf z75 zde zv7 zv6 zgw z24 zna zwx zww zn9 j43 ztg j42 j41 j40 j3z j3y;exact rfl)
section
variable (x0:Int) (x1:SV) (x2:Int) (x3:GJ) (x4:AT) (x5:List AT) (x6:Nat) (x7:Nat×Int×GV) (x8:VlB) (x9:GV) (x10:Prop) (x11:Nat->Option Obj)
 abbrev z76:=True/\z09 x5 x1 x11/\AT.ok x4 x11/\GJ.ok x3 x11
 def zdf:=x1.1=x1.1/\x1.2.1=x1.2.1/\x1.2.2=x1.2.2/\x10
 def zgx:=GJ.k x3=GJ.k x3/\GJ.n x3=GJ.n x3/\GJ.s x3=GJ.s x3/\(GJ.y x3).1=(GJ.y x3).1/\(GJ.y x3).2.1=(GJ.y x3).2.1/\(GJ.y x3).2.2=(GJ.y x3).2.2/\(GJ.x x3).1=(GJ.x x3).1/\(GJ.x x3).2.1=(GJ.x x3).2.1/\(GJ.x x3).2.2=(GJ.x x3).2.2/\x10
 def zv8:=AT.k x4=AT.k x4/\AT.nm x4=AT.nm x4/\(AT.al x4).1=(AT.al x4).1/\(AT.al x4).2.1=(AT.al x4).2.1/\(AT.al x4).2.2=(AT.al x4).2.2/\AT.it x4=AT.it x4/\(AT.sy x4).1=(AT.sy x4).1/\(AT.sy x4).2.1=(AT.sy x4).2.1/\(AT.sy x4).2.2=(AT.sy x4).2.2/\AT.hd x4=AT.hd x4/\AT.df x4=AT.df x4/\AT.sz x4=AT.sz x4/\(AT.f x4).1=(AT.f x4).1/\(AT.f x4).2.1=(AT.f x4).2.1/\(AT.f x4).2.2=(AT.f x4).2.2/\(AT.br x4).1=(AT.br x4).1/\(AT.br x4).2.1=(AT.br x4).2.1/\(AT.br x4).2.2=(AT.br x4).2.2/\x10
 def zgy:=x7.1<=length (GJ.l x3)/\(x0<=x7.2.1/\x7.2.1<=2000)/\length (GV.ks x7.2.2)=length (GV.l x7.2.2)/\length (GV.l x7.2.2)<=x7.1
 def z1x:=(z76 x1 x3 x4 x5 x11)/\GV.ok x7.2.2 x11
 abbrev znb:=(↑x7.1:Int)<(↑(GJ.y x3).2.1:Int)
 abbrev zwz:=zfv (T.n (T.n (T.n T.e (some (AO.cells 48 (some 0) false [AV.sv (int i64 (GJ.k x3)),AV.sv (int i64 (GJ.n x3)),AV.sv (string (GJ.s x3)),AV.sv (slice (GJ.y x3).1 (GJ.y x3).2.1 (GJ.y x3).2.2),AV.sv (slice (GJ.x x3).1 (GJ.x x3).2.1 (GJ.x x3).2.2)])) T.e) (some (AO.cells (115:TypeId) (some 0) false [AV.sv (slice x1.1 x1.2.1 x1.2.2),AV.sv (int i64 x7.2.1)])) (T.n T.e (some (AO.cells (37:TypeId) (some 0) false [AV.sv (int u64 (GV.n x7.2.2)),AV.sv (string (GV.s x7.2.2)),AV.sv (slice (GV.x x7.2.2).1 (GV.x x7.2.2).2.1 (GV.x x7.2.2).2.2),AV.sv (slice (GV.y x7.2.2).1 (GV.y x7.2.2).2.1 (GV.y x7.2.2).2.2),AV.sv (int i64 (GV.b x7.2.2))])) T.e)) none (T.n (T.n T.e (some (AO.cells 37 (some 0) false [AV.int u64 0,AV.str (List.map UInt8.toNat (Array.toList (ByteArray.data (mkS [])))),AV.nsl,AV.nsl,AV.int i64 0])) T.e) (some (AO.cells 54 (some 0) false [AV.sv (int i64 (AT.k x4)),AV.sv (string (AT.nm x4)),AV.sv (slice (AT.al x4).1 (AT.al x4).2.1 (AT.al x4).2.2),AV.sv (int i64 (AT.it x4)),AV.sv (slice (AT.sy x4).1 (AT.sy x4).2.1 (AT.sy x4).2.2),AV.sv (bool (AT.hd x4)),AV.sv (string (AT.df x4)),AV.sv (int i64 (AT.sz x4)),AV.sv (slice (AT.f x4).1 (AT.f x4).2.1 (AT.f x4).2.2),AV.sv (slice (AT.br x4).1 (AT.br x4).2.1 (AT.br x4).2.2)])) T.e))
 def zwy:=(0<=(↑x7.1:Int)/\znb x3 x7)/\(GJ.y x3).1≠noA/\∃(i0:Int),∃(i1:Int),∃i2,∃i3,∃(i4:Nat),∃(i5:Nat),∃i6,∃(i7:Nat),∃(i8:Nat),(∀i9,z1x x1 x3 x4 x5 x7 i9->q3i i9 (adr (GJ.y x3).1 (toNat (↑x7.1:Int)*5)) [int i64 i0,int i64 i1,string i2,slice i3 i4 i5,slice i6 i7 i8])/\Jb (x0+1)/\∃(i10:VlS),i10.2.2.2.1=AT.it x4/\GJ.k i10.2.2.2.2.1=i0/\GJ.n i10.2.2.2.2.1=i1/\GJ.s i10.2.2.2.2.1=i2/\(GJ.y i10.2.2.2.2.1).1=i3/\(GJ.y i10.2.2.2.2.1).2.1=i4/\(GJ.y i10.2.2.2.2.1).2.2=i5/\(GJ.x i10.2.2.2.2.1).1=i6/\(GJ.x i10.2.2.2.2.1).2.1=i7/\(GJ.x i10.2.2.2.2.1).2.2=i8/\i10.2.2.2.2.2=x0+1/\i10.2.1.1=x1.1/\i10.2.1.2.1=x1.2.1/\i10.2.1.2.2=x1.2.2/\i10.2.2.1=x7.2.1/\(z5t i10<x6/\z0c i10.1/\(0<=i10.2.2.2.1/\i10.2.2.2.1<(↑(length i10.1):Int))/\GJ.wf i10.2.2.2.2.1/\(0<=i10.2.2.1/\i10.2.2.1<=2000)/\1<=i10.2.2.2.2.2/\i10.2.2.2.2.2<=21)/\(∀i11,z1x x1 x3 x4 x5 x7 i11->z09 i10.1 i10.2.1 i11/\GJ.ok i10.2.2.2.2.1 i11)/\∀(i12:VlB),z0l i10.2.2.1 i12->(∃i13,(z1x x1 x3 x4 x5 x7 i13)/\GV.ok i12.2.2 i13)->∃(i14:VlB),x0=x0/\(↑x7.1:Int)=(↑x7.1:Int)/\i14.2.1=i12.2.1/\x1.1=i10.2.1.1/\x1.2.1=i10.2.1.2.1/\x1.2.2=i10.2.1.2.2/\i14.1=i12.1/\zgx x3 (GV.n x7.2.2=GV.n x7.2.2/\GV.s x7.2.2=GV.s x7.2.2/\(GV.x x7.2.2).1=(GV.x x7.2.2).1/\(GV.x x7.2.2).2.1=(GV.x x7.2.2).2.1/\(GV.x x7.2.2).2.2=(GV.x x7.2.2).2.2/\(GV.y x7.2.2).1=(GV.y x7.2.2).1/\(GV.y x7.2.2).2.1=(GV.y x7.2.2).2.1/\(GV.y x7.2.2).2.2=(GV.y x7.2.2).2.2/\GV.b x7.2.2=GV.b x7.2.2/\zv8 x4 (GV.n i14.2.2=GV.n i12.2.2/\GV.s i14.2.2=GV.s i12.2.2/\(GV.x i14.2.2).1=(GV.x i12.2.2).1/\(GV.x i14.2.2).2.1=(GV.x i12.2.2).2.1/\(GV.x i14.2.2).2.2=(GV.x i12.2.2).2.2/\(GV.y i14.2.2).1=(GV.y i12.2.2).1/\(GV.y i14.2.2).2.1=(GV.y i12.2.2).2.1/\(GV.y i14.2.2).2.2=(GV.y i12.2.2).2.2/\GV.b i14.2.2=GV.b i12.2.2/\(∀i15,(z1x x1 x3 x4 x5 x7 i15)/\GV.ok i12.2.2 i15->z1x x1 x3 x4 x5 x7 i15)/\(∀i16,(z1x x1 x3 x4 x5 x7 i16)/\GV.ok i12.2.2 i16->GV.ok i14.2.2 i16)/\z0l (zwz x1 x3 x4 x7) i14/\True))
 def j4a:=Jb ((↑x7.1:Int)+1)/\∃(i0:Nat×Int×GV),x0=x0/\(↑i0.1:Int)=(↑x7.1:Int)+1/\zdf x1 (i0.2.1=x8.1/\zgx x3 (GV.n i0.2.2=GV.n x9/\GV.s i0.2.2=GV.s x9/\(GV.x i0.2.2).1=(GV.x x9).1/\(GV.x i0.2.2).2.1=(GV.x x9).2.1/\(GV.x i0.2.2).2.2=(GV.x x9).2.2/\(GV.y i0.2.2).1=(GV.y x9).1/\(GV.y i0.2.2).2.1=(GV.y x9).2.1/\(GV.y i0.2.2).2.2=(GV.y x9).2.2/\GV.b i0.2.2=GV.b x9/\zv8 x4 ((∀i1,((z1x x1 x3 x4 x5 x7 i1)/\GV.ok x8.2.2 i1)/\GV.ok x9 i1->z76 x1 x3 x4 x5 i1)/\(∀i2,((z1x x1 x3 x4 x5 x7 i2)/\GV.ok x8.2.2 i2)/\GV.ok x9 i2->GV.ok i0.2.2 i2)/\(zgy x2 x3 i0)/\length (GJ.l x3)- i0.1<length (GJ.l x3)- x7.1/\True)))
 def j49:=(0<=(↑x7.1:Int)/\(↑x7.1:Int)<(↑(GJ.x x3).2.1:Int))/\(GJ.x x3).1≠noA/\∃i0,(∀i1,(z1x x1 x3 x4 x5 x7 i1)/\GV.ok x8.2.2 i1->q3i i1 (adr (GJ.x x3).1 (toNat (↑x7.1:Int)*1)) [string i0])/\∃(i2:GV×ByteArray×GV),GV.n i2.1=GV.n x7.2.2/\GV.s i2.1=GV.s x7.2.2/\(GV.x i2.1).1=(GV.x x7.2.2).1/\(GV.x i2.1).2.1=(GV.x x7.2.2).2.1/\(GV.x i2.1).2.2=(GV.x x7.2.2).2.2/\(GV.y i2.1).1=(GV.y x7.2.2).1/\(GV.y i2.1).2.1=(GV.y x7.2.2).2.1/\(GV.y i2.1).2.2=(GV.y x7.2.2).2.2/\GV.b i2.1=GV.b x7.2.2/\i2.2.1=i0/\GV.n i2.2.2=GV.n x8.2.2/\GV.s i2.2.2=GV.s x8.2.2/\(GV.x i2.2.2).1=(GV.x x8.2.2).1/\(GV.x i2.2.2).2.1=(GV.x x8.2.2).2.1/\(GV.x i2.2.2).2.2=(GV.x x8.2.2).2.2/\(GV.y i2.2.2).1=(GV.y x8.2.2).1/\(GV.y i2.2.2).2.1=(GV.y x8.2.2).2.1/\(GV.y i2.2.2).2.2=(GV.y x8.2.2).2.2/\GV.b i2.2.2=GV.b x8.2.2/\(length (GV.ks i2.1)=length (GV.l i2.1)/\length (GV.l i2.1)<1000000)/\(∀i3,(z1x x1 x3 x4 x5 x7 i3)/\GV.ok x8.2.2 i3->GV.ok i2.1 i3/\GV.ok i2.2.2 i3)/\∀(i4:GV),GV.pv i4=PV.mk (GV.n i2.1) (GV.s i2.1) (zf6 i2.2.1 (GV.ks i2.1) (GV.pvs (GV.l i2.1)) (GV.pv i2.2.2)) (qap i2.2.1 (GV.ks i2.1)) (GV.b i2.1)->(∃i5,((z1x x1 x3 x4 x5 x7 i5)/\GV.ok x8.2.2 i5)/\GV.ok i4 i5)->j4a x0 x1 x2 x3 x4 x5 x7 x8 i4
 def j48:=Ji (AT.k x4=12) (False) (j49 x0 x1 x2 x3 x4 x5 x7 x8)
 def j47:=((!decide (x8.2.1=0))=true->∃(i0:VlB),GV.n i0.2.2=0/\GV.s i0.2.2=mkS []/\(GV.x i0.2.2).1=noA/\(GV.x i0.2.2).2.1=0/\(GV.x i0.2.2).2.2=0/\(GV.y i0.2.2).1=noA/\(GV.y i0.2.2).2.1=0/\(GV.y i0.2.2).2.2=0/\GV.b i0.2.2=0/\i0.2.1=x8.2.1/\zdf x1 (i0.1=x8.1/\z0l x0 i0/\(∀i1,(z1x x1 x3 x4 x5 x7 i1)/\GV.ok x8.2.2 i1->GV.ok i0.2.2 i1)/\True))/\((!decide (x8.2.1=0))=false->j48 x2 x1 x0 x3 x4 x5 x7 x8)
 def j46:=((zwy x0 x1 x3 x4 x5 x6 x7)/\zwy x0 x1 x3 x4 x5 x6 x7)/\∀(i34:VlB),z0l (zwz x1 x3 x4 x7) i34->(∃i35,(z1x x1 x3 x4 x5 x7 i35)/\GV.ok i34.2.2 i35)->j47 x2 x1 x0 x3 x4 x5 x7 i34
 def j45:=Ji (znb x3 x7) (j46 x0 x1 x2 x3 x4 x5 x6 x7) (∃(i47:VlB),GV.n i47.2.2=GV.n x7.2.2/\GV.s i47.2.2=GV.s x7.2.2/\(GV.x i47.2.2).1=(GV.x x7.2.2).1/\(GV.x i47.2.2).2.1=(GV.x x7.2.2).2.1/\(GV.x i47.2.2).2.2=(GV.x x7.2.2).2.2/\(GV.y i47.2.2).1=(GV.y x7.2.2).1/\(GV.y i47.2.2).2.1=(GV.y x7.2.2).2.1/\(GV.y i47.2.2).2.2=(GV.y x7.2.2).2.2/\GV.b i47.2.2=GV.b x7.2.2/\i47.2.1=0/\zdf x1 (i47.1=x7.2.1/\z0l x2 i47/\(∀i48,z1x x1 x3 x4 x5 x7 i48->GV.ok i47.2.2 i48)/\True))
 def j44:=(∃(i0:Nat×Int×GV),x0=x0/\(↑i0.1:Int)=0/\zdf x1 (i0.2.1=x2/\zgx x3 (GV.n i0.2.2=0/\GV.s i0.2.2=mkS []/\(GV.x i0.2.2).1=noA/\(GV.x i0.2.2).2.1=0/\(GV.x i0.2.2).2.2=0/\(GV.y i0.2.2).1=noA/\(GV.y i0.2.2).2.1=0/\(GV.y i0.2.2).2.2=0/\GV.b i0.2.2=0/\zv8 x4 ((∀i1,z76 x1 x3 x4 x5 i1->z76 x1 x3 x4 x5 i1)/\(∀i2,z76 x1 x3 x4 x5 i2->GV.ok i0.2.2 i2)/\(zgy x2 x3 i0)/\True))))/\∀(i3:Nat×Int×GV),zgy x2 x3 i3->(∃i4,z1x x1 x3 x4 x5 i3 i4)->j45 x0 x1 x2 x3 x4 x5 x6 i3
end
def zbb(n:Nat) (S:List AT) (x:SV) (all:Int) (a:AT) (g:GJ) (d:Int):qlb P (qgc []) (qhg [(56,cVl.below z5t n),(97,zp9)]) Try.f83 ((cVq isMap).below z7y (n+1)) (wPm) ⟨S,x,all,a,g,d⟩=(z7y (S,x,all,a,g,d)<n+1/\z0c S/\a∈S/\isMap a g/\GJ.wf g/\(0<=all/\all<=2000)/\1<=d/\d<=20->(∃(p:Pub),z76 x g a S p)->j44 d x all g a S n):=by kernel_rfl
def zey:=λn S x all a g d=>Eq.trans (zbb n S x all a g d) (by delta Ji Jb Jt Jf z76 zdf zgx zv8 zgy z1x znb zwz zwy j4a j49 j48 j47 j46 j45 j44;exact rfl)
section
variable (x0:Int) (x1:SV) (x2:Int) (x3:GJ) (x4:AT) (x5:List AT) (x6:Nat) (x7:Nat×Int×List GV) (x8:GJ) (x9:Int) (x10:VlB) (x11:VlS) (x12:Bool) (x13:ByteArray) (x14:Option Addr) (x15:Nat) (x16 x17:Int) (x18:ByteArray) (x19:Option Addr) (x20 x21:Nat) (x22:Option Addr) (x23 x24:Nat) (x25:Prop) (x26:Nat->Option Obj) (x27:GJ×ByteArray)
 abbrev z77:=True/\z09 x5 x1 x26/\AT.ok x4 x26/\GJ.ok x3 x26
 def z9k:=x1.1=x1.1/\x1.2.1=x1.2.1/\x1.2.2=x1.2.2/\x25
 def zti:=GJ.k x3=GJ.k x3/\GJ.n x3=GJ.n x3/\GJ.s x3=GJ.s x3/\(GJ.y x3).1=(GJ.y x3).1/\(GJ.y x3).2.1=(GJ.y x3).2.1/\(GJ.y x3).2.2=(GJ.y x3).2.2/\(GJ.x x3).1=(GJ.x x3).1/\(GJ.x x3).2.1=(GJ.x x3).2.1/\(GJ.x x3).2.2=(GJ.x x3).2.2/\x25
 def zth:=AT.k x4=AT.k x4/\AT.nm x4=AT.nm x4/\(AT.al x4).1=(AT.al x4).1/\(AT.al x4).2.1=(AT.al x4).2.1/\(AT.al x4).2.2=(AT.al x4).2.2/\AT.it x4=AT.it x4/\(AT.sy x4).1=(AT.sy x4).1/\(AT.sy x4).2.1=(AT.sy x4).2.1/\(AT.sy x4).2.2=(AT.sy x4).2.2/\AT.hd x4=AT.hd x4/\AT.df x4=AT.df x4/\AT.sz x4=AT.sz x4/\(AT.f x4).1=(AT.f x4).1/\(AT.f x4).2.1=(AT.f x4).2.1/\(AT.f x4).2.2=(AT.f x4).2.2/\(AT.br x4).1=(AT.br x4).1/\(AT.br x4).2.1=(AT.br x4).2.1/\(AT.br x4).2.2=(AT.br x4).2.2/\x25
 def zgz:=x7.1<=length (AT.fs x4)/\(x0<=x7.2.1/\x7.2.1<=2000)/\length x7.2.2=x7.1
 def z69:=(z77 x1 x3 x4 x5 x26)/\GV.oks x7.2.2 x26
 abbrev zng:=(↑x7.1:Int)<(↑(AT.f x4).2.1:Int)
 def znd:=(GV.y x10.2.2).1=noA/\(GV.y x10.2.2).2.1=0/\(GV.y x10.2.2).2.2=0/\GV.b x10.2.2=0/\x25
 def znc:=GV.n x10.2.2=0/\GV.s x10.2.2=mkS []/\(GV.x x10.2.2).1=noA/\(GV.x x10.2.2).2.1=0/\(GV.x x10.2.2).2.2=0/\znd x10 x25
 def znf:=(∀i0,z69 x1 x3 x4 x5 x7 i0->z69 x1 x3 x4 x5 x7 i0)/\(∀i1,z69 x1 x3 x4 x5 x7 i1->GJ.ok x8 i1)/\GJ.wf x8/\True
 def j4g:=((!x12)=true->∃(i0:VlB),znc i0 (i0.2.1=7/\z9k x1 (i0.1=x7.2.1/\z0l x0 i0/\(∀i1,z69 x1 x3 x4 x5 x7 i1->GV.ok i0.2.2 i1)/\True)))/\((!x12)=false->∃(i2:GJ),x2=x2/\(↑x7.1:Int)=(↑x7.1:Int)/\z9k x1 (x7.2.1=x7.2.1/\zti x3 (length x7.2.2=length x7.2.2/\zth x4 (x13=x13/\x14=x14/\x6=x6/\x15=x15/\x9=x9/\x12=x12/\x16=x16/\x17=x17/\x18=x18/\x19=x19/\x20=x20/\x21=x21/\x22=x22/\x23=x23/\x24=x24/\z00 GV.cells x7.2.2=z00 GV.cells x7.2.2/\GJ.k i2=x16/\GJ.n i2=x17/\GJ.s i2=x18/\(GJ.y i2).1=x19/\(GJ.y i2).2.1=x20/\(GJ.y i2).2.2=x21/\(GJ.x i2).1=x22/\(GJ.x i2).2.1=x23/\(GJ.x i2).2.2=x24/\znf x1 x3 x4 x5 x7 i2))))
 abbrev z4a:=Option.getD (z0e x27.2 x27.1) zJ
 def zne:=x1.1=x11.2.1.1/\x1.2.1=x11.2.1.2.1/\x1.2.2=x11.2.1.2.2/\x25
 def j4h:=length (z00 GV.cells x7.2.2)=length x7.2.2*5/\(length x7.2.2+nat_lit 1)*80<=140737488355328/\Jb ((↑x7.1:Int)+1)/\∃(i0:Nat×Int×List GV),x0=x0/\(↑i0.1:Int)=(↑x7.1:Int)+1/\zne x1 x11 (i0.2.1=x10.1/\zti x3 (length i0.2.2=length x7.2.2+nat_lit 1/\zth x4 (z00 GV.cells i0.2.2=z00 GV.cells x7.2.2++[int u64 (GV.n x10.2.2),string (GV.s x10.2.2),slice (GV.x x10.2.2).1 (GV.x x10.2.2).2.1 (GV.x x10.2.2).2.2,slice (GV.y x10.2.2).1 (GV.y x10.2.2).2.1 (GV.y x10.2.2).2.2,int i64 (GV.b x10.2.2)]/\(∀i1,((z69 x1 x3 x4 x5 x7 i1)/\GJ.ok x8 i1)/\GV.ok x10.2.2 i1->z77 x1 x3 x4 x5 i1)/\(∀i2,((z69 x1 x3 x4 x5 x7 i2)/\GJ.ok x8 i2)/\GV.ok x10.2.2 i2->GV.oks i0.2.2 i2)/\(zgz x2 x4 i0)/\length (AT.fs x4)- i0.1<length (AT.fs x4)- x7.1/\True)))
 def j4f:=((!decide (x10.2.1=0))=true->∃(i0:VlB),znc i0 (i0.2.1=x10.2.1/\zne x1 x11 (i0.1=x10.1/\z0l x0 i0/\(∀i1,((z69 x1 x3 x4 x5 x7 i1)/\GJ.ok x8 i1)/\GV.ok x10.2.2 i1->GV.ok i0.2.2 i1)/\True)))/\((!decide (x10.2.1=0))=false->j4h x2 x1 x0 x3 x4 x5 x7 x8 x10 x11)
 def j4e:=Jb (x0+1)/\∃(i0:VlS),i0.2.2.2.1=x2/\GJ.k i0.2.2.2.2.1=GJ.k x3/\GJ.n i0.2.2.2.2.1=GJ.n x3/\GJ.s i0.2.2.2.2.1=GJ.s x3/\(GJ.y i0.2.2.2.2.1).1=(GJ.y x3).1/\(GJ.y i0.2.2.2.2.1).2.1=(GJ.y x3).2.1/\(GJ.y i0.2.2.2.2.1).2.2=(GJ.y x3).2.2/\(GJ.x i0.2.2.2.2.1).1=(GJ.x x3).1/\(GJ.x i0.2.2.2.2.1).2.1=(GJ.x x3).2.1/\(GJ.x i0.2.2.2.2.1).2.2=(GJ.x x3).2.2/\i0.2.2.2.2.2=x0+1/\i0.2.1.1=x1.1/\i0.2.1.2.1=x1.2.1/\i0.2.1.2.2=x1.2.2/\i0.2.2.1=x7.2.1/\(z5t i0<x6/\z0c i0.1/\(0<=i0.2.2.2.1/\i0.2.2.2.1<(↑(length i0.1):Int))/\GJ.wf i0.2.2.2.2.1/\(0<=i0.2.2.1/\i0.2.2.1<=2000)/\1<=i0.2.2.2.2.2/\i0.2.2.2.2.2<=21)/\(∀i1,(z69 x1 x8 x4 x5 x7 i1)/\GJ.ok x3 i1->z09 i0.1 i0.2.1 i1/\GJ.ok i0.2.2.2.2.1 i1)/\∀(i2:VlB),z0l i0.2.2.1 i2->(∃i3,((z69 x1 x8 x4 x5 x7 i3)/\GJ.ok x3 i3)/\GV.ok i2.2.2 i3)->j4f x9 x1 x0 x8 x4 x5 x7 x3 i2 i0
 def j4d:=(0<=(↑x7.1:Int)/\zng x4 x7)/\(AT.f x4).1≠noA/\∃i0,∃i1,∃(i2:Nat),∃(i3:Nat),∃(i4:Int),∃(i5:Bool),∃(i6:Int),∃(i7:Int),∃i8,∃i9,∃(i10:Nat),∃(i11:Nat),∃i12,∃(i13:Nat),∃(i14:Nat),(∀i15,z69 x1 x3 x4 x5 x7 i15->q3i i15 (adr (AT.f x4).1 (toNat (↑x7.1:Int)*9)) [string i0,slice i1 i2 i3,int i64 i4,bool i5,int i64 i6,int i64 i7,string i8,slice i9 i10 i11,slice i12 i13 i14])/\∃(i16:GJ×ByteArray),GJ.k i16.1=GJ.k x3/\GJ.n i16.1=GJ.n x3/\GJ.s i16.1=GJ.s x3/\(GJ.y i16.1).1=(GJ.y x3).1/\(GJ.y i16.1).2.1=(GJ.y x3).2.1/\(GJ.y i16.1).2.2=(GJ.y x3).2.2/\(GJ.x i16.1).1=(GJ.x x3).1/\(GJ.x i16.1).2.1=(GJ.x x3).2.1/\(GJ.x i16.1).2.2=(GJ.x x3).2.2/\i16.2=i0/\GJ.wf i16.1/\(∀i17,z69 x1 x3 x4 x5 x7 i17->GJ.ok i16.1 i17)/\(((!Option.isSome (z0e i16.2 i16.1))=true->j4g x0 x1 x2 x3 x4 x5 i2 x7 i4 i5 i0 i1 i3 i6 i7 i8 i9 i10 i11 i12 i13 i14)/\((!Option.isSome (z0e i16.2 i16.1))=false->∃(i23:GJ),x2=x2/\(↑x7.1:Int)=(↑x7.1:Int)/\z9k x1 (x7.2.1=x7.2.1/\zti x3 (length x7.2.2=length x7.2.2/\zth x4 (i0=i0/\i1=i1/\i2=i2/\i3=i3/\i4=i4/\i5=i5/\i6=i6/\i7=i7/\i8=i8/\i9=i9/\i10=i10/\i11=i11/\i12=i12/\i13=i13/\i14=i14/\z00 GV.cells x7.2.2=z00 GV.cells x7.2.2/\GJ.k i23=GJ.k (z4a i16)/\GJ.n i23=GJ.n (z4a i16)/\GJ.s i23=GJ.s (z4a i16)/\(GJ.y i23).1=(GJ.y (z4a i16)).1/\(GJ.y i23).2.1=(GJ.y (z4a i16)).2.1/\(GJ.y i23).2.2=(GJ.y (z4a i16)).2.2/\(GJ.x i23).1=(GJ.x (z4a i16)).1/\(GJ.x i23).2.1=(GJ.x (z4a i16)).2.1/\(GJ.x i23).2.2=(GJ.x (z4a i16)).2.2/\znf x1 x3 x4 x5 x7 i23)))))/\∀(i26:GJ),GJ.wf i26->(∃i27,(z69 x1 x3 x4 x5 x7 i27)/\GJ.ok i26 i27)->j4e x2 x1 i4 i26 x4 x5 x6 x7 x3 x0
 def j4c:=Ji (zng x4 x7) (j4d x0 x1 x2 x3 x4 x5 x6 x7) (∀(i37 i38 i39:Nat) (i40:Option Addr) (i41 i42:Nat),(∃i43,(z69 x1 x3 x4 x5 x7 i43)/\length x7.2.2<=i42/\qhu i43 i40 (take (length x7.2.2*nat_lit 5) (z00 GV.cells x7.2.2)))->∃(i44:VlB),GV.n i44.2.2=0/\GV.s i44.2.2=mkS []/\(GV.x i44.2.2).1=i40/\(GV.x i44.2.2).2.1=length x7.2.2/\(GV.x i44.2.2).2.2=i42/\znd i44 (i44.2.1=0/\z9k x1 (i44.1=x7.2.1/\z0l x0 i44/\(∀i45,(z69 x1 x3 x4 x5 x7 i45)/\length x7.2.2<=i42/\qhu i45 i40 (take (length x7.2.2*nat_lit 5) (z00 GV.cells x7.2.2))->GV.ok i44.2.2 i45)/\True)))
 def j4b:=(∃(i0:Nat×Int×List GV),x0=x0/\(↑i0.1:Int)=0/\z9k x1 (i0.2.1=x2/\zti x3 (length i0.2.2=0/\zth x4 ((∀i1,z77 x1 x3 x4 x5 i1->z77 x1 x3 x4 x5 i1)/\(∀i2,z77 x1 x3 x4 x5 i2->GV.oks i0.2.2 i2)/\(zgz x2 x4 i0)/\True))))/\∀(i3:Nat×Int×List GV),zgz x2 x4 i3->(∃i4,z69 x1 x3 x4 x5 i3 i4)->j4c x2 x1 x0 x3 x4 x5 x6 i3
end
def zfa(n:Nat) (S:List AT) (x:SV) (all:Int) (a:AT) (g:GJ) (d:Int):qlb P (qgc [(47,z3y)]) (qhg [(56,cVl.below z5t n)]) Try.f84 ((cVq isRec).below z7y (n+1)) (wRe) ⟨S,x,all,a,g,d⟩=(z7y (S,x,all,a,g,d)<n+1/\z0c S/\a∈S/\isRec a g/\GJ.wf g/\(0<=all/\all<=2000)/\1<=d/\d<=20->(∃(p:Pub),z77 x g a S p)->j4b d x all g a S n):=by kernel_rfl
def zk2:=λn S x all a g d=>Eq.trans (zfa n S x all a g d) (by delta Ji Jb Jt Jf z77 z9k zti zth zgz z69 zng znd znc znf j4g z4a zne j4h j4f j4e j4d j4c j4b;exact rfl)
section
variable {p:Pub}
def z4k{a:AT} (h:a.ok p):a.al.2.1=a.als.length/\a.sy.2.1=a.sys.length/\a.f.2.1=a.fs.length/\a.br.2.1=a.brs.length:=⟨h.1.1,h.2.1.1,h.2.2.1.1,h.2.2.2.1.1⟩
variable {g:GJ}
def z38(h:g.ok p):g.y.2.1=g.l.length/\g.x.2.1=g.nm.length:=by rw[GJ.ok_eq]at h;exact⟨h.1.1,h.2.1.1⟩
def z4g(h:g.ok p) {j:Nat} (hj:j<g.l.length):(g.y.1≠noA/\q3i p (adr g.y.1 (j*5)) g.l[j].cells)/\g.l[j].ok p:=by
 rw[GJ.ok_eq]at h;exact⟨z0b z2o (by decide) h.1 hj,GJ.oks_at h.2.2 hj⟩
def zhr(h:g.ok p) {j:Nat} (hj:j<g.nm.length):g.x.1≠noA/\q3i p (adr g.x.1 (j*1)) [.string g.nm[j]]:=by
 rw[GJ.ok_eq]at h;exact z0b z0s (by decide) h.2.1 hj
def z6m:∀{l m:List GV} {p:Pub},GV.oks l p->GV.oks m p->GV.oks (l++m) p:=λh1 h2=>GV.oks_iff.2 λv hv=>(List.mem_append.1 hv).elim (GV.oks_iff.1 h1 v) (GV.oks_iff.1 h2 v)
def z3l{v:GV} (h:v.ok p):GV.oks [v] p:=GV.oks_iff.2 λw hw=>by simp at hw;subst hw;exact h
def zV:GV:= .mk 0 (mkS []) (none,0,0) [] (none,0,0) [] 0
def z2z(p:Pub):zV.ok p:=by unfold zV GV.ok;exact⟨z04,z04,by unfold GV.oks;trivial⟩
def zjz(k:ByteArray) (ks:List ByteArray) (l:List PV) (w:PV) (h:ks.length=l.length):(qap k ks).length=(zf6 k ks l w).length/\(zf6 k ks l w).length<=l.length+1:=by
 have hi:=zhv k ks
 unfold qap zf6
 split
 ·rw[List.length_set];omega
 ·simp only[List.length_append,List.length_take,List.length_cons,List.length_drop];omega
def zex(n:Nat) (hv:q1v P 56 (cVl.below z5t n)):q1v P 83 ((cVq zj9).below z7y (n+1)):=by
 refine qkh mixed (qdw qkx) (qen (qhq hv (qhq zhy qkw))) (W:=wPa) Try.func83 (by kernel_rfl) (show 1<=2 by decide) (show 2<=2 by decide) (λs=>by kernel_rfl) λ⟨S,(x:SV),(all:Int),a,g,(d:Int)⟩=>(zew n S x all a g d).mpr ?_
 rintro⟨hmu,hS,haS,hk,hg,⟨hal0,hal1⟩,hd1,hd2⟩ ⟨p,_,hx,ha,hgo⟩
 have hmu:2*(25- d).toNat<n+1:=hmu
 have hk:a.k=12:=hk
 obtain⟨gl,gnl⟩:=z38 hgo
 have hgw:=hg
 rw[GJ.wf_eq]at hgw
 obtain⟨_,hgl,_,_,_,_,hgs⟩:=hgw
 have hat:=(hS.2 a haS).2.1 (.inl hk)
 simp only[sbS,exists_const,forall_const,Int.toNat_natCast,gl,gnl]
 refine⟨⟨⟨0,all,[]⟩,rfl,rfl,rfl,λq hq=>GV.oks_iff.2 λv h=>(by cases h),Nat.zero_le _,⟨by show all<=all;omega,hal1⟩,rfl⟩,?_⟩
 rintro⟨j,al,fs⟩ ⟨hj,⟨hl0,hl1⟩,hfl⟩ ⟨p1,hp1,hfs1⟩
 simp only at hj hl0 hl1 hfl hfs1⊢
 refine⟨λhlt=>⟨⟨?xa,?xb⟩,?_⟩,λhge=> ?_⟩
 case xa|xb=>
  have hjl:j<g.l.length:=by omega
  have hw:g.l[j].wf:=GJ.wfs_at hgs hjl
  refine⟨⟨by omega,by omega⟩,(z4g hgo hjl).1.1,g.l[j].k,g.l[j].n,g.l[j].s,g.l[j].y.1,g.l[j].y.2.1,g.l[j].y.2.2,g.l[j].x.1,g.l[j].x.2.1,g.l[j].x.2.2,λq hq=>(z4g hq.1.2.2 hjl).1.2,⟨by omega,by omega⟩,⟨S,x,al,a.it,g.l[j],d+1⟩,rfl,rfl,rfl,rfl,rfl,rfl,rfl,rfl,rfl,rfl,rfl,rfl,rfl,rfl,rfl,⟨by show 2*(25- (d+1)).toNat<n;omega,hS,hat,hw,⟨by show 0<=al;omega,hl1⟩,by show 1<=d+1;omega,by show d+1<=21;omega⟩,λq hq=>⟨hq.1.1,(z4g hq.1.2.2 hjl).2⟩,?_⟩
  rintro⟨a2,e,w⟩ hb _
  exact⟨⟨a2,e,w⟩,rfl,rfl,rfl,rfl,rfl,rfl,rfl,rfl,rfl,rfl,rfl,rfl,rfl,rfl,λq hq=>hq.1,λq hq=>hq.2,hb⟩
 ·rintro⟨a2,e,w⟩ hb _
  have hb:al<=a2/\a2<=2001/\(e=0->a2<=2000):=hb
  simp only
  refine⟨λhe=>⟨⟨a2,e,zV⟩,rfl,rfl,rfl,rfl,rfl,rfl,rfl,rfl,rfl,rfl,rfl,⟨by show all<=a2;omega,hb.2⟩,λq hq=>z2z q⟩,λhe=>⟨λ_=>⟨z01 z0z fs,by omega,⟨by omega,by omega⟩,⟨j+1,a2,fs++[w]⟩,by show((j+1:Nat):Int)=_;omega,rfl,by simp,by rw[z05];rfl,λq hq=>hq.1.1,λq hq=>z6m hq.1.2 (z3l hq.2),⟨by show j+1<=_;omega,⟨by show all<=a2;omega,hb.2.2 he⟩,by show(fs++[w]).length=j+1;simp[hfl]⟩,by show _- (j+1)<_;omega⟩,λh=>absurd hk h⟩⟩
 ·intro a6 c _
  refine⟨⟨al,0, .mk 0 (mkS []) (a6,fs.length,c) fs (none,0,0) [] 0⟩,rfl,rfl,rfl,rfl,rfl,rfl,rfl,rfl,rfl,rfl,rfl,⟨by show all<=al;omega,by show al<=2001;omega,λ_=>hl1⟩,λq hq=> ?_⟩
  have h2:=hq.2.2
  rw[List.take_of_length_le (by rw[z01 z0z];exact Nat.le_refl _)]at h2
  show GV.ok _ q
  unfold GV.ok
  exact⟨⟨rfl,hq.2.1,h2⟩,z04,hq.1.2⟩
def zez(n:Nat) (hv:q1v P 56 (cVl.below z5t n)):q1v P 83 ((cVq isMap).below z7y (n+1)):=by
 refine qkh mixed (qdw qkx) (qen (qhq hv (qhq zhy qkw))) (W:=wPm) Try.func83 (by kernel_rfl) (show 1<=2 by decide) (show 2<=2 by decide) (λs=>by kernel_rfl) λ⟨S,(x:SV),(all:Int),a,g,(d:Int)⟩=>(zey n S x all a g d).mpr ?_
 rintro⟨hmu,hS,haS,hk,hg,⟨hal0,hal1⟩,hd1,hd2⟩ ⟨p,_,hx,ha,hgo⟩
 have hmu:2*(25- d).toNat<n+1:=hmu
 obtain⟨hk,hgk⟩:=hk
 obtain⟨gl,gnl⟩:=z38 hgo
 have hgw:=hg
 rw[GJ.wf_eq]at hgw
 obtain⟨_,hgl,_,hnsz,_,hnl,hgs⟩:=hgw
 have hnl:=hnl hgk
 have hat:=(hS.2 a haS).2.1 (.inr hk)
 simp only[sbS,exists_const,forall_const,Int.toNat_natCast,gl,gnl]
 refine⟨⟨⟨0,all,zV⟩,rfl,rfl,rfl,rfl,rfl,rfl,rfl,rfl,rfl,rfl,rfl,λq hq=>z2z q,Nat.zero_le _,⟨by show all<=all;omega,hal1⟩,rfl,Nat.zero_le _⟩,?_⟩
 rintro⟨j,al,v⟩ ⟨hj,⟨hl0,hl1⟩,hvk,hvl⟩ ⟨p1,hp1,hv1⟩
 simp only at hj hl0 hl1 hvk hvl hv1⊢
 refine⟨λhlt=>⟨⟨?xa,?xb⟩,?_⟩,λhge=> ?_⟩
 case xa|xb=>
  have hjl:j<g.l.length:=by omega
  have hw:g.l[j].wf:=GJ.wfs_at hgs hjl
  refine⟨⟨by omega,by omega⟩,(z4g hgo hjl).1.1,g.l[j].k,g.l[j].n,g.l[j].s,g.l[j].y.1,g.l[j].y.2.1,g.l[j].y.2.2,g.l[j].x.1,g.l[j].x.2.1,g.l[j].x.2.2,λq hq=>(z4g hq.1.2.2 hjl).1.2,⟨by omega,by omega⟩,⟨S,x,al,a.it,g.l[j],d+1⟩,rfl,rfl,rfl,rfl,rfl,rfl,rfl,rfl,rfl,rfl,rfl,rfl,rfl,rfl,rfl,⟨by show 2*(25- (d+1)).toNat<n;omega,hS,hat,hw,⟨by show 0<=al;omega,hl1⟩,by show 1<=d+1;omega,by show d+1<=21;omega⟩,λq hq=>⟨hq.1.1,(z4g hq.1.2.2 hjl).2⟩,?_⟩
  rintro⟨a2,e,w⟩ hb _
  exact⟨⟨a2,e,w⟩,rfl,rfl,rfl,rfl,rfl,rfl,rfl,rfl,rfl,rfl,rfl,rfl,rfl,rfl,λq hq=>hq.1,λq hq=>hq.2,hb⟩
 ·rintro⟨a2,e,w⟩ hb _
  have hb:al<=a2/\a2<=2001/\(e=0->a2<=2000):=hb
  simp only
  refine⟨λhe=>⟨⟨a2,e,zV⟩,rfl,rfl,rfl,rfl,rfl,rfl,rfl,rfl,rfl,rfl,rfl,⟨by show all<=a2;omega,hb.2⟩,λq hq=>z2z q⟩,λhe=>⟨λh=>by omega,λ_=> ?_⟩⟩
  have hjn:j<g.nm.length:=by omega
  refine⟨⟨by omega,by omega⟩,(zhr hgo hjn).1,g.nm[j],λq hq=>(zhr hq.1.1.2.2 hjn).2,⟨v,g.nm[j],w⟩,rfl,rfl,rfl,rfl,rfl,rfl,rfl,rfl,rfl,rfl,rfl,rfl,rfl,rfl,rfl,rfl,rfl,rfl,rfl,⟨hvk,by show v.l.length<_;omega⟩,λq hq=>⟨hq.1.2,hq.2⟩,?_⟩
  intro b hb2 _
  have hb2:b.pv=PV.mk v.n v.s (zf6 g.nm[j] v.ks (GV.pvs v.l) w.pv) (qap g.nm[j] v.ks) v.b:=hb2
  rw[GV.pv_eq]at hb2
  injection hb2 with _ _ e1 e2 _
  have hpl:=zjz g.nm[j] v.ks (GV.pvs v.l) w.pv (by rw[GV.pvs_len];exact hvk)
  rw[←e1,←e2,GV.pvs_len,GV.pvs_len]at hpl
  exact⟨⟨by omega,by omega⟩,⟨j+1,a2,b⟩,by show((j+1:Nat):Int)=_;omega,rfl,rfl,rfl,rfl,rfl,rfl,rfl,rfl,rfl,rfl,λq hq=>hq.1.1.1,λq hq=>hq.2,⟨by show j+1<=_;omega,⟨by show all<=a2;omega,hb.2.2 he⟩,hpl.1,by show b.l.length<=j+1;omega⟩,by show _- (j+1)<_;omega⟩
 ·exact⟨⟨al,0,v⟩,rfl,rfl,rfl,rfl,rfl,rfl,rfl,rfl,rfl,rfl,rfl,⟨by show all<=al;omega,by show al<=2001;omega,λ_=>hl1⟩,λq hq=>hq.2⟩
def zk3(n:Nat) (hv:q1v P 56 (cVl.below z5t n)):q1v P 84 ((cVq isRec).below z7y (n+1)):=by
 refine qkh mixed (qdw (qhr z21 qkx)) (qen (qhq hv qkw)) (W:=wRe) Try.func84 (by kernel_rfl) (show 1<=2 by decide) (show 2<=2 by decide) (λs=>by kernel_rfl) λ⟨S,(x:SV),(all:Int),a,g,(d:Int)⟩=>(zk2 n S x all a g d).mpr ?_
 rintro⟨hmu,hS,haS,hk,hg,⟨hal0,hal1⟩,hd1,hd2⟩ ⟨p,_,hx,ha,hgo⟩
 have hmu:2*(25- d).toNat<n+1:=hmu
 obtain⟨gl,gnl⟩:=z38 hgo
 obtain⟨_,_,afl,_⟩:=z4k ha
 have hgf:=hS.2 a haS
 have hf30:=hgf.2.2.2.2.2.2.2.1
 have hfg:=hgf.2.2.2.2.1
 simp only[sbS,exists_const,forall_const,Int.toNat_natCast,gl,gnl,afl]
 refine⟨⟨⟨0,all,[]⟩,rfl,rfl,rfl,λq hq=>GV.oks_iff.2 λv h=>(by cases h),Nat.zero_le _,⟨by show all<=all;omega,hal1⟩,rfl⟩,?_⟩
 rintro⟨j,al,fs⟩ ⟨hj,⟨hl0,hl1⟩,hfl⟩ ⟨p1,hp1,hfs1⟩
 simp only at hj hl0 hl1 hfl hfs1⊢
 refine⟨λhlt=> ?_,λhge=> ?_⟩
 ·have hjf:j<a.fs.length:=by omega
  have hff:=hfg _ (List.getElem_mem hjf)
  have fok:=λq (h:a.ok q)=>h.2.2.2.2 a.fs[j] (List.getElem_mem hjf)
  generalize hfj:a.fs[j]=f at*
  have fat:=λq (h:a.ok q)=>(show a.f.1≠noA/\q3i q (adr a.f.1 (j*9)) f.cells by rw[←hfj];exact zap h hjf)
  obtain⟨cw,cok⟩:=z0x f.nm hg
  refine⟨⟨by omega,by omega⟩,(fat p ha).1,f.nm,f.al.1,f.al.2.1,f.al.2.2,f.ty,f.hd,f.df.k,f.df.n,f.df.s,f.df.y.1,f.df.y.2.1,f.df.y.2.2,f.df.x.1,f.df.x.2.1,f.df.x.2.2,λq hq=>(fat q hq.1.2.1).2,⟨g,f.nm⟩,rfl,rfl,rfl,rfl,gl,rfl,rfl,gnl,rfl,rfl,hg,λq hq=>hq.1.2.2,?_⟩
  simp only
  generalize (z0e f.nm g).getD zJ=cj at*
  refine⟨⟨λhno=>⟨λ_=>⟨⟨al,7,zV⟩,rfl,rfl,rfl,rfl,rfl,rfl,rfl,rfl,rfl,rfl,rfl,⟨by show all<=al;omega,by show al<=2001;omega,λ_=>hl1⟩,λq hq=>z2z q⟩,λ_=>⟨f.df,rfl,rfl,rfl,rfl,rfl,rfl,rfl,rfl,rfl,λq hq=>(fok q hq.1.2.1).2,hff.2⟩⟩,λhyes=>⟨cj,rfl,rfl,rfl,rfl,rfl,rfl,rfl,rfl,rfl,λq hq=>cok q hq.1.2.2,cw⟩⟩,?_⟩
  intro c hcw _
  refine⟨⟨by omega,by omega⟩,⟨S,x,al,f.ty,c,d+1⟩,rfl,rfl,rfl,rfl,rfl,rfl,rfl,rfl,rfl,rfl,rfl,rfl,rfl,rfl,rfl,⟨by show 2*(25- (d+1)).toNat<n;omega,hS,hff.1,hcw,⟨by show 0<=al;omega,hl1⟩,by show 1<=d+1;omega,by show d+1<=21;omega⟩,λq hq=>⟨hq.1.1.1,hq.2⟩,?_⟩
  rintro⟨a2,e,w⟩ hb _
  have hb:al<=a2/\a2<=2001/\(e=0->a2<=2000):=hb
  simp only[true_and]
  refine⟨λhe=>⟨⟨a2,e,zV⟩,rfl,rfl,rfl,rfl,rfl,rfl,rfl,rfl,rfl,rfl,rfl,⟨by show all<=a2;omega,hb.2⟩,λq hq=>z2z q⟩,λhe=>⟨z01 z0z fs,by omega,⟨by omega,by omega⟩,⟨j+1,a2,fs++[w]⟩,by show((j+1:Nat):Int)=_;omega,rfl,by simp,by rw[z05];rfl,λq hq=>hq.1.1.1,λq hq=>z6m hq.1.1.2 (z3l hq.2),⟨by show j+1<=_;omega,⟨by show all<=a2;omega,hb.2.2 he⟩,by show(fs++[w]).length=j+1;simp[hfl]⟩,by show _- (j+1)<_;omega⟩⟩
 ·intro a6 c _
  refine⟨⟨al,0, .mk 0 (mkS []) (a6,fs.length,c) fs (none,0,0) [] 0⟩,rfl,rfl,rfl,rfl,rfl,rfl,rfl,rfl,rfl,rfl,rfl,⟨by show all<=al;omega,by show al<=2001;omega,λ_=>hl1⟩,λq hq=> ?_⟩
  have h2:=hq.2.2
  rw[List.take_of_length_le (by rw[z01 z0z];exact Nat.le_refl _)]at h2
  show GV.ok _ q
  unfold GV.ok
  exact⟨⟨rfl,hq.2.1,h2⟩,z04,hq.1.2⟩
end
section
variable {S:List AT} {l:List Int}
def zhz(h:rkE S l) {k:Nat} {a:AT} (ha:S[k]? =some a) (h9:a.k=9) (hne:l.getD k 0≠ -1) {f:AF} (hf:f∈a.fs) {n:Nat} (hmu:(l.getD k 0).toNat<n+1):z0f l f.ty≠ -1/\(z0f l f.ty).toNat<n:=by
 obtain⟨h0,hq1,h1,hq2⟩:=h.1.2.2 k a ha hne
 clear hq1 hq2
 obtain⟨h2,h3⟩:=h1 h9 f hf
 clear h1
 have:=(z1p h.1.2.1 f.ty).1
 exact⟨h2,by omega⟩
def zi0(h:rkE S l) {k:Nat} {a:AT} (ha:S[k]? =some a) (h14:a.k=14) (hne:l.getD k 0≠ -1) {n:Nat} (hmu:(l.getD k 0).toNat<n+1):∃(j:Nat) (hj:j<a.brs.length),lbF l a=j/\z0f l a.brs[j]≠ -1/\(z0f l a.brs[j]).toNat<n:=by
 obtain⟨h0,hq1,hq2,h1⟩:=h.1.2.2 k a ha hne
 obtain⟨b,hb,h2,h3⟩:=h1 h14
 clear hq1 hq2 h1
 obtain⟨h4,h5⟩:=zaz hb h2
 obtain⟨h6,h7,h8,_⟩:=z7r h4
 obtain⟨j,hj⟩:=Int.eq_ofNat_of_zero_le h6
 have hj1:j<a.brs.length:=by omega
 rw[hj,Int.toNat_natCast,z18 hj1]at h5 h8
 have:=(z1p h.1.2.1 a.brs[j]).1
 exact⟨j,hj1,hj,h8,by omega⟩
def zk5(hS:z0c S) (h:rkE S l):z2x l 1000000:=⟨h.1.2.1.1,λr hm=>by have:=h.1.2.1.2 r hm;have:=hS.1;omega⟩
def zuk{k:Nat} (hk:k<S.length) (h:lfK S k):S[k].k=3:=by
 obtain⟨a,ha,h3⟩:=h
 rw[Int.toNat_natCast,List.getElem?_eq_getElem hk]at ha
 cases ha
 exact h3
def z8r(n:Nat) (h0:q1v P 19 (z3i.below z41 n)):q1v P 32 (z3a.below z41 (n+1)):=by
 refine qkh mixed (qdw (qhr zjj qkx)) (qen (qhq h0 qkw)) (W:=z8d) Try.func32 (by kernel_rfl) (show 1<=3 by decide) (show 3<=3 by decide) (λs=>by kernel_rfl) λ⟨S,(x:SV),(y:SV),l,c,(t:Int)⟩=>(z8q n S x y l c t).mpr ?_
 rintro⟨hmu,hS,hE,hc,hr⟩ ⟨p,hp0,hx,hy⟩
 have hmu:(z0f l t).toNat<n+1:=hmu
 obtain⟨k,rfl,hk,hk2⟩:=z22 hr
 have hln:l.length=S.length:=hE.1.1
 have hxl:x.2.1=S.length:=hx.1.1
 have hkS:k<S.length:=by omega
 have ha:S[k]? =some S[k]:=List.getElem?_eq_getElem hkS
 rw[hk2]at hmu
 have hne:l.getD k 0≠ -1:=by rw[←hk2];exact hr
 have A:=λ(q:Pub) (hq:z09 S x q)=>z0b z0y (by decide) hq.1 hkS
 have O:=λ(q:Pub) (hq:z09 S x q)=>hq.2 S[k] (List.getElem_mem hkS)
 have hfl:S[k].f.2.1=S[k].fs.length:=(O p hx).2.2.1.1
 have hbl:S[k].br.2.1=S[k].brs.length:=(O p hx).2.2.2.1.1
 obtain⟨_,_,_,_,_,_,_,g1,g2,g3⟩:=z1r hS hkS
 simp only[sbS,Int.toNat_natCast,exists_const]
 refine⟨⟨by omega,by omega⟩,(A p hx).1,S[k].k,S[k].nm,S[k].al.1,S[k].al.2.1,S[k].al.2.2,S[k].it,S[k].sy.1,S[k].sy.2.1,S[k].sy.2.2,S[k].hd,S[k].df,S[k].sz,S[k].f.1,S[k].f.2.1,S[k].f.2.2,S[k].br.1,S[k].br.2.1,S[k].br.2.2,λq hq=>(A q hq.1).2,λh9=> ?_,λh9=>⟨λh14=> ?_,λh14=>⟨λh11=>⟨λ_=>⟨(2001,c),rfl,rfl,rfl,⟨⟨by show(0:Int)<=2001;decide,by show(2001:Int)<=2002;decide⟩,λhl=>absurd (zuk hkS hl) (by omega)⟩,hc⟩,λ_=>⟨λ_=>⟨(2001,c),rfl,rfl,rfl,⟨⟨by show(0:Int)<=2001;decide,by show(2001:Int)<=2002;decide⟩,λhl=>absurd (zuk hkS hl) (by omega)⟩,hc⟩,λ_=>⟨(1,c),rfl,rfl,rfl,⟨⟨by show(0:Int)<=1;decide,by show(1:Int)<=2002;decide⟩,λ_=>by show(1:Int)<=1;decide⟩,hc⟩⟩⟩,λ_=>⟨(1,c),rfl,rfl,rfl,⟨⟨by show(0:Int)<=1;decide,by show(1:Int)<=2002;decide⟩,λ_=>by show(1:Int)<=1;decide⟩,hc⟩⟩⟩⟩
 ·rw[hfl]
  refine⟨⟨(0,1,c),rfl,rfl,rfl,rfl,Nat.zero_le _,⟨by show(0:Int)<=1;decide,by show(1:Int)<=2001;decide⟩,hc⟩,?_⟩
  rintro⟨i,m,c1⟩ ⟨hi,⟨hm0,hm1⟩,hc1⟩
  have hm0:0<=m:=hm0
  have hm1:m<=2001:=hm1
  have hc1:cOK S c1:=hc1
  refine⟨λhlt=> ?_,λhge=>⟨(m,c1),rfl,rfl,rfl,⟨⟨hm0,by show m<=2002;omega⟩,λhl=>absurd (zuk hkS hl) (by omega)⟩,hc1⟩⟩
  have hi1:i<S[k].fs.length:=by omega
  have B:=λ(q:Pub) (hq:z09 S x q)=>z0b z3f (by decide) (O q hq).2.2.1 hi1
  obtain⟨r1,r2⟩:=zhz hE ha h9 hne (List.getElem_mem hi1) hmu
  refine⟨⟨by omega,by omega⟩,(B p hx).1,S[k].fs[i].nm,S[k].fs[i].al.1,S[k].fs[i].al.2.1,S[k].fs[i].al.2.2,S[k].fs[i].ty,S[k].fs[i].hd,S[k].fs[i].df.k,S[k].fs[i].df.n,S[k].fs[i].df.s,S[k].fs[i].df.y.1,S[k].fs[i].df.y.2.1,S[k].fs[i].df.y.2.2,S[k].fs[i].df.x.1,S[k].fs[i].df.x.2.1,S[k].fs[i].df.x.2.2,λq hq=>(B q hq.1).2,(S,x,y,l,c1,S[k].fs[i].ty),rfl,rfl,rfl,rfl,rfl,rfl,rfl,rfl,rfl,⟨r2,hS,hE,hc1,r1⟩,λq hq=>hq,λb hb=> ?_⟩
  obtain⟨⟨⟨b0,b1⟩,_⟩,hb2⟩:=hb
  refine⟨⟨by show _<=m+b.1;omega,by show m+b.1<=_;omega⟩,⟨by omega,by omega⟩,(i+1,if 2001<m+b.1 then 2001 else m+b.1,b.2),by show((i+1:Nat):Int)=_;omega,rfl,rfl,rfl,rfl,rfl,rfl,rfl,rfl,rfl,⟨by show i+1<=30;omega,⟨by show 0<=if 2001<m+b.1 then 2001 else m+b.1;split<;>omega,by show(if 2001<m+b.1 then 2001 else m+b.1)<=2001;split<;>omega⟩,hb2⟩,by show 31- (i+1)<31- i;omega⟩
 ·obtain⟨j,hj,e1,r1,r2⟩:=zi0 hE ha h14 hne hmu
  have B:=λ(q:Pub) (hq:z09 S x q)=>z0b z1b (by decide) (O q hq).2.2.2.1 hj
  rw[hbl]
  refine⟨(S[k],y,l),rfl,rfl,rfl,rfl,rfl,rfl,rfl,rfl,rfl,rfl,rfl,rfl,rfl,rfl,rfl,rfl,hbl,rfl,rfl,rfl,rfl,⟨zk5 hS hE,by show S[k].brs.length<=1000;omega⟩,λq hq=>⟨O q hq.1,hq.2⟩,⟨by show 0<=lbF l S[k];omega,by show lbF l S[k]<_;omega⟩,(B p hx).1,S[k].brs[j],λq hq=>by show q3i q (adr S[k].br.1 ((lbF l S[k]).toNat*1)) _;rw[e1,Int.toNat_natCast];exact(B q hq.1).2,(S,x,y,l,c,S[k].brs[j]),rfl,rfl,rfl,rfl,rfl,rfl,rfl,rfl,rfl,⟨r2,hS,hE,hc,r1⟩,λq hq=>hq,λb hb=> ?_⟩
  obtain⟨⟨⟨b0,b1⟩,_⟩,hb2⟩:=hb
  exact⟨⟨by omega,by omega⟩,(1+b.1,b.2),rfl,rfl,rfl,rfl,rfl,rfl,rfl,rfl,rfl,⟨⟨by show 0<=1+b.1;omega,by show 1+b.1<=2002;omega⟩,λhl=>absurd (zuk hkS hl) (by omega)⟩,hb2⟩
def qbo:∀n,q1v P 19 (z3i.below z41 n)
 |0=>CtR.below_zero (show 3<=3 by decide) (show 1<=3 by decide) (Sen.enters_of Try.func19 (by kernel_rfl)) λs=>rfl
 |n+1=>zdx n (z8r n (qbo n))
def zaf:q1v P 19 z3i:=CtR.of_below qbo
end
section
def zbo:∀{l:List GV},(∀v∈l,v.pv.sm)->PV.sms (GV.pvs l)
 | [],_=>by unfold GV.pvs PV.sms;trivial
 |v::l,h=>by unfold GV.pvs PV.sms;exact⟨h v List.mem_cons_self,zbo λw hw=>h w (List.mem_cons_of_mem _ hw)⟩
def z6k{S:List AT} {f:Nat->Int}:∀{l:List GV} {i:Nat},(∀(j:Nat) (v:GV),l[j]? =some v->PV.fits S (f (i+j)) v.pv=true)->PV.fitL S f i (GV.pvs l)=true
  | [],i,h=>by unfold GV.pvs PV.fitL;rfl
  | v::l,i,h=>by
    unfold GV.pvs PV.fitL
    rw[Bool.and_eq_true]
    refine⟨h 0 v rfl,z6k λj w hw=> ?_⟩
    have:=h (j+1) w (by simpa using hw)
    rwa [show i+(j+1)=i+1+j by omega]at this
variable {S:List AT} {k:Nat}
def z4u{a:AT} (ha:S[k]? =some a) {n:Int} {s:ByteArray} {x:SV} {l:List GV} {y:SV} {ks:List ByteArray} {b:Int}:PV.fits S (k:Int) (GV.mk n s x l y ks b).pv=(if isN a.k=true then okN a n&&decide (s.size=0)&&z5g l.length ks.length b else if isT a.k=true then okT a s&&decide (n=0)&&z5g l.length ks.length b else if isQ a.k=true then okP a l.length ks b&&PV.fitL S (z2u a b) 0 (GV.pvs l)&&decide (n=0)&&decide (s.size=0)else false):=by
 have hk:k<S.length:=(List.getElem?_eq_some_iff.1 ha).1
 rw[GV.pv,PV.fits,if_neg (by omega),Int.toNat_natCast,ha,GV.pvs_len]
def zb6{s:ByteArray} {x:SV} {l:List GV} {y:SV} {b:Int} (hs:s.size<9223372036854775808) (hl:l.length<4611686018427387904) (h:∀v∈l,v.pv.sm):(GV.mk 0 s x l y [] b).pv.sm:=by
 rw[GV.pv,PV.sm]
 refine⟨⟨by omega,by omega⟩,hs,by rw[GV.pvs_len];exact hl,by decide,λk hk=>(by cases hk),zbo h⟩
def mS0:(mkS []).size=0:=q0f []
def ze7(hS:z0c S) (hk:k<S.length) (h9:S[k].k≠9) (h14:S[k].k≠14) (h11:S[k].k≠11):lvQ S k zV:=by
 obtain⟨g1,_,_,_,_,g2,_,_⟩:=z1r hS hk
 have ha:S[k]? =some S[k]:=List.getElem?_eq_getElem hk
 generalize S[k]=a at*
 refine⟨?_,zb6 (by rw[mS0];decide) (by decide) (λv hv=>by cases hv),rfl⟩
 unfold zV
 rw[z4u ha]
 have hcase:a.k=1\/a.k=2\/a.k=3\/a.k=4\/a.k=5\/a.k=6\/a.k=7\/a.k=8\/a.k=10\/a.k=12\/a.k=13:=by omega
 have hv:vld (mkS [])=true:=zc9 _ mS0
 rcases hcase with h|h|h|h|h|h|h|h|h|h|h
 ·simp[isN,okN,z5g,h,mS0]
 ·simp[isN,okN,z5g,h,mS0]
 ·simp[isN,okN,z5g,h,mS0]
 ·simp[isN,okN,z5g,h,mS0]
 ·simp[isN,okN,z5g,h,mS0]
 ·simp[isN,okN,z5g,h,mS0]
 ·simp[isN,isT,okT,z5g,h,mS0]
 ·simp[isN,isT,okT,z5g,h,mS0,hv]
 ·have:=g2 h
  have:0<a.sys.length:=List.length_pos_iff.2 this
  simp[isN,okN,z5g,h,mS0];omega
 ·simp[isN,isT,isQ,okP,h,mS0,GV.pvs,PV.fitL]
 ·simp[isN,isT,isQ,okP,h,mS0,GV.pvs,PV.fitL,z3w]
def zfb{n:Int} (h:0<=n):((zk4 (mkS [0]) n).size:Int)=n:=by
 have:(zk4 (mkS [0]) n).size=(Lib.repeatL (mkS [0]).data.toList n.toNat).length:=rfl
 rw[this,Lib.repeatL_length,show(mkS [0]).data.toList.length=1 from rfl]
 omega
def zal(hS:z0c S) (hk:k<S.length) (h11:S[k].k=11):lvQ S k (.mk 0 (zk4 (mkS [0]) S[k].sz) (none,0,0) [] (none,0,0) [] 0):=by
 obtain⟨_,_,_,_,_,_,g,_⟩:=z1r hS hk
 have g:=g h11
 have ha:S[k]? =some S[k]:=List.getElem?_eq_getElem hk
 have hz:=zfb g.1
 refine⟨?_,zb6 (by omega) (by decide) (λv hv=>by cases hv),rfl⟩
 rw[z4u ha]
 simp[isN,isT,okT,z5g,h11,hz]
def zj2(hk:k<S.length) (h9:S[k].k=9) {vs:List GV} {x:SV} (hI:lvI S (k:Int) vs.length vs) (hl:vs.length=S[k].fs.length):lvQ S k (.mk 0 (mkS []) x vs (none,0,0) [] 0):=by
 obtain⟨h30,_,a,ha,_,_,hf⟩:=hI
 rw[Int.toNat_natCast,List.getElem?_eq_getElem hk]at ha
 cases ha
 have ha:S[k]? =some S[k]:=List.getElem?_eq_getElem hk
 have at':∀(j:Nat) (v:GV),vs[j]? =some v->∃f,S[k].fs[j]? =some f/\PV.fits S f.ty v.pv=true/\v.pv.sm:=λj v hv=>by
  have hj:j<vs.length:=(List.getElem?_eq_some_iff.1 hv).1
  have hf':S[k].fs[j]? =some S[k].fs[j]:=List.getElem?_eq_getElem (by omega)
  exact⟨_,hf',hf j _ v hj hf' hv⟩
 refine⟨?_,zb6 (by rw[mS0];decide) (by omega) (λv hv=> ?_),rfl⟩
 ·have hL:PV.fitL S (z2u S[k] 0) 0 (GV.pvs vs)=true:=z6k λj v hv=>by
   obtain⟨f,h1,h2,_⟩:=at' j v hv
   rw[Nat.zero_add]
   unfold z2u
   rw[if_pos h9,h1]
   exact h2
  rw[z4u ha,hL]
  simp[isN,isT,isQ,okP,h9,hl,mS0]
 ·obtain⟨j,hj,rfl⟩:=List.getElem_of_mem hv
  obtain⟨_,_,_,h⟩:=at' j _ (List.getElem?_eq_getElem hj)
  exact h
def zj3(hk:k<S.length) (h14:S[k].k=14) {w:GV} {x:SV} {j:Nat} (hj:j<S[k].brs.length) (hw:lvQ S S[k].brs[j] w):lvQ S k (.mk 0 (mkS []) x [w] (none,0,0) [] (j:Nat)):=by
  have ha:S[k]? =some S[k]:=List.getElem?_eq_getElem hk
  refine⟨?_,zb6 (by rw[mS0];decide) (by show 1<_;decide) (λv hv=>by simp at hv;subst hv;exact hw.2.1),rfl⟩
  have hL:PV.fitL S (z2u S[k] (j:Nat)) 0 (GV.pvs [w])=true:=z6k λi v hv=>by
    cases i with
    |succ i=>simp at hv
    | zero=>
      simp at hv
      subst hv
      unfold z2u
      rw[if_neg (by omega),if_pos h14,Int.toNat_natCast,z18 hj]
      exact hw.1
  rw[z4u ha,hL]
  simp[isN,isT,isQ,okP,h14,mS0]
  omega
def zeq(hS:z0c S) (hk:k<S.length) (h9:S[k].k=9) {i:Nat} {vs:List GV} (hI:lvI S (k:Int) i vs) (hi:i<S[k].fs.length) {w:GV} (hw:lvQ S S[k].fs[i].ty w):lvI S (k:Int) (i+1) (vs++[w]):=by
 obtain⟨h30,hl,a,ha,_,_,hf⟩:=hI
 have ha0:=ha
 rw[Int.toNat_natCast,List.getElem?_eq_getElem hk]at ha
 cases ha
 obtain⟨_,_,_,_,_,_,_,g,_⟩:=z1r hS hk
 refine⟨by omega,by rw[List.length_append,hl];rfl,S[k],ha0,h9,hi,λj f v hj hf' hv=> ?_⟩
 by_cases e:j=i
 ·subst e
  rw[List.getElem?_append_right (by omega),hl,Nat.sub_self]at hv
  simp at hv
  subst hv
  rw[List.getElem?_eq_getElem hi]at hf'
  cases hf'
  exact⟨hw.1,hw.2.1⟩
 ·rw[List.getElem?_append_left (by omega)]at hv
  exact hf j f v (by omega) hf' hv
def zpp:q3m P 34 zxf:=
 qlf (Sen.enters_of Try.func34 (by kernel_rfl)) (λ(s:ByteArray×Int)=> .string (zk4 s.1 s.2)) (λs I=> .sv _) λ(s:ByteArray×Int) F w hp _=>by
  obtain⟨b,n⟩:=s
  obtain⟨h1,h2,h3⟩:b.size=1/\0<=n/\n<=5000:=hp
  obtain⟨m,rfl⟩:=Int.eq_ofNat_of_zero_le h2
  exact Try.strings_Repeat b m w (by omega) (by rw[h1];omega)
end
def zjl(n:Nat) (h0:q1v P 20 (z6e.below z41 n)):q1v P 20 (z6e.below z41 (n+1)):=by
 refine qkh mixed (qdw (qhr zjj (qhr zpp qkx))) (qen (qhq h0 qkw)) (W:=zq8) Try.func20 (by kernel_rfl) (show 1<=3 by decide) (show 3<=3 by decide) (λs=>by kernel_rfl) λ⟨S,(x:SV),(y:SV),l,c,(t:Int)⟩=>(zjk n S x y l c t).mpr ?_
 rintro⟨hmu,hS,hE,hc,hr⟩ ⟨p,hp0,hx,hy⟩
 have hmu:(z0f l t).toNat<n+1:=hmu
 obtain⟨k,rfl,hk,hk2⟩:=z22 hr
 have hln:l.length=S.length:=hE.1.1
 have hxl:x.2.1=S.length:=hx.1.1
 have hkS:k<S.length:=by omega
 have ha:S[k]? =some S[k]:=List.getElem?_eq_getElem hkS
 rw[hk2]at hmu
 have hne:l.getD k 0≠ -1:=by rw[←hk2];exact hr
 have A:=λ(q:Pub) (hq:z09 S x q)=>z0b z0y (by decide) hq.1 hkS
 have O:=λ(q:Pub) (hq:z09 S x q)=>hq.2 S[k] (List.getElem_mem hkS)
 have hfl:S[k].f.2.1=S[k].fs.length:=(O p hx).2.2.1.1
 have hbl:S[k].br.2.1=S[k].brs.length:=(O p hx).2.2.2.1.1
 obtain⟨_,_,_,_,_,_,g11,g1,g2,g3⟩:=z1r hS hkS
 simp only[sbS,Int.toNat_natCast,exists_const]
 refine⟨⟨by omega,by omega⟩,(A p hx).1,S[k].k,S[k].nm,S[k].al.1,S[k].al.2.1,S[k].al.2.2,S[k].it,S[k].sy.1,S[k].sy.2.1,S[k].sy.2.2,S[k].hd,S[k].df,S[k].sz,S[k].f.1,S[k].f.2.1,S[k].f.2.2,S[k].br.1,S[k].br.2.1,S[k].br.2.2,λq hq=>(A q hq.1).2,λh9=> ?_,λh9=>⟨λh14=> ?_,λh14=>⟨λh11=>⟨⟨q0f [0],g11 h11⟩,?_⟩,λh11=> ?_⟩⟩⟩
 ·rw [hfl]
  refine⟨⟨(0,[]),rfl,rfl,λq hq=>by unfold GV.oks;trivial,Nat.zero_le _,rfl,S[k],by rw[Int.toNat_natCast];exact ha,h9,Nat.zero_le _,λj f v hj=>absurd hj (by omega)⟩,?_⟩
  rintro⟨i,vs⟩ hI ⟨p1,_,hvs⟩
  have hI:lvI S k i vs:=hI
  have hi30:=hI.1
  have hvl:=hI.2.1
  refine⟨λhlt=> ?_,λhge=> ?_⟩
  ·have hi1:i<S[k].fs.length:=by omega
   have B:=λ(q:Pub) (hq:z09 S x q)=>z0b z3f (by decide) (O q hq).2.2.1 hi1
   obtain⟨r1,r2⟩:=zhz hE ha h9 hne (List.getElem_mem hi1) hmu
   refine⟨⟨by omega,by omega⟩,(B p hx).1,S[k].fs[i].nm,S[k].fs[i].al.1,S[k].fs[i].al.2.1,S[k].fs[i].al.2.2,S[k].fs[i].ty,S[k].fs[i].hd,S[k].fs[i].df.k,S[k].fs[i].df.n,S[k].fs[i].df.s,S[k].fs[i].df.y.1,S[k].fs[i].df.y.2.1,S[k].fs[i].df.y.2.2,S[k].fs[i].df.x.1,S[k].fs[i].df.x.2.1,S[k].fs[i].df.x.2.2,λq hq=>(B q hq.1.1).2,?_,?_,?_⟩
   all_goals
    refine⟨(S,x,y,l,c,S[k].fs[i].ty),rfl,rfl,rfl,rfl,rfl,rfl,rfl,rfl,rfl,⟨r2,hS,hE,hc,r1⟩,λq hq=>hq.1,λw hw _=> ?_⟩
    have hw:lvQ S S[k].fs[i].ty w:=hw
    refine⟨z01 z0z vs,by show(vs.length+1)*80<=_;omega,⟨by omega,by omega⟩,(i+1,vs++[w]),by show((i+1:Nat):Int)=_;omega,rfl,rfl,rfl,rfl,rfl,rfl,rfl,by show(vs++[w]).length=_;rw[List.length_append];rfl,rfl,by show z00 GV.cells (vs++[w])=_;rw[z05];rfl,λq hq=>hq.1.1,λq hq=>z6m hq.1.2 (z3l hq.2),zeq hS hkS h9 hI hi1 hw,by show 31- (i+1)<31- i;omega⟩
  ·have hi1:i=S[k].fs.length:=by
    obtain⟨_,_,a,ha',_,hle,_⟩:=hI
    rw[Int.toNat_natCast,ha]at ha'
    cases ha'
    omega
   rintro b s u a m d _
   refine⟨.mk 0 (mkS []) (a,vs.length,d) vs (none,0,0) [] 0,rfl,rfl,rfl,rfl,rfl,rfl,rfl,rfl,rfl,zj2 hkS h9 (by rw[hvl];exact hI) (by omega),λq hq=> ?_⟩
   have h2:=hq.2.2
   rw[List.take_of_length_le (by rw[z01 z0z];exact Nat.le_refl _)]at h2
   unfold GV.ok
   exact⟨⟨rfl,hq.2.1,h2⟩,z04,hq.1.2⟩
 ·obtain⟨j,hj,e1,r1,r2⟩:=zi0 hE ha h14 hne hmu
  have B:=λ(q:Pub) (hq:z09 S x q)=>z0b z1b (by decide) (O q hq).2.2.2.1 hj
  rw[hbl]
  refine⟨(S[k],y,l),rfl,rfl,rfl,rfl,rfl,rfl,rfl,rfl,rfl,rfl,rfl,rfl,rfl,rfl,rfl,rfl,hbl,rfl,rfl,rfl,rfl,⟨zk5 hS hE,by show S[k].brs.length<=1000;omega⟩,λq hq=>⟨O q hq.1,hq.2⟩,⟨by show 0<=lbF l S[k];omega,by show lbF l S[k]<_;omega⟩,(B p hx).1,S[k].brs[j],λq hq=>by show q3i q (adr S[k].br.1 ((lbF l S[k]).toNat*1)) _;rw[e1,Int.toNat_natCast];exact(B q hq.1).2,(S,x,y,l,c,S[k].brs[j]),rfl,rfl,rfl,rfl,rfl,rfl,rfl,rfl,rfl,⟨r2,hS,hE,hc,r1⟩,λq hq=>hq,λw hw _=> ?_⟩
  have hw:lvQ S S[k].brs[j] w:=hw
  rintro b s u _
  refine⟨.mk 0 (mkS []) (some ⟨b,s+0,none⟩,1,1) [w] (none,0,0) [] (j:Nat),rfl,rfl,rfl,rfl,rfl,rfl,rfl,rfl,by show(j:Int)=lbF l S[k];omega,rfl,rfl,rfl,rfl,rfl,rfl,rfl,rfl,zj3 hkS h14 hj hw,λq hq=> ?_⟩
  unfold GV.ok
  refine⟨⟨rfl,Nat.le_refl _, .inr ⟨⟨b,s,none⟩,rfl,rfl,?_⟩⟩,z04,z3l hq.1.2⟩
  show q3i q _ (w.cells++[])
  rw[List.append_nil]
  exact hq.2
 ·refine⟨.mk 0 (zk4 (mkS [0]) S[k].sz) (none,0,0) [] (none,0,0) [] 0,rfl,rfl,rfl,rfl,rfl,rfl,rfl,rfl,rfl,zal hS hkS h11,λq hq=> ?_⟩
  unfold GV.ok
  exact⟨z04,z04,by unfold GV.oks;trivial⟩
 ·exact⟨zV,rfl,rfl,rfl,rfl,rfl,rfl,rfl,rfl,rfl,ze7 hS hkS h9 h14 h11,λq hq=>z2z q⟩
def z7x:∀n,q1v P 20 (z6e.below z41 n)
 |0=>CtR.below_zero (show 3<=3 by decide) (show 1<=3 by decide) (Sen.enters_of Try.func20 (by kernel_rfl)) λs=>rfl
 |n+1=>zjl n (z7x n)
def zes:q1v P 20 z6e:=CtR.of_below z7x
def za9(S:List AT):cOK S (List.replicate S.length 0):=⟨by simp,λr hr=>by
 rw[List.mem_replicate]at hr
 rw[hr.2];decide,λj _=>by
 rw[List.getD_eq_getElem?_getD,List.getElem?_replicate]
 split<;>decide⟩
def zhw{S:List AT} {t:Int} (h:(∃l,rkE S l/\l.getD t.toNat 0= -1)\/¬lfK S t):leQ S t zV false:=⟨λh=>(by cases h),λ_=>⟨rfl,h⟩,zb6 (by rw[mS0];decide) (by decide) (λv hv=>by cases hv)⟩
def z7v:q1v P 9 z5m:=by
  refine qkh mixed (qdw (qhr zdr qkx)) (qen (qhq z82 (qhq zaf (qhq zes qkw)))) (W:=zi9) Try.func9 (by kernel_rfl) (show 1<=1 by decide) (show 1<=1 by decide) (λs=>by kernel_rfl) λ⟨S,(x:SV),(t:Int)⟩=>(zeo S x t).mpr ?_
  rintro⟨hS,ht0,ht1⟩ ⟨p,_,hx⟩
  obtain⟨k,rfl⟩:=Int.eq_ofNat_of_zero_le ht0
  have hkS:k<S.length:=by omega
  have hxl:x.2.1=S.length:=hx.1.1
  have h60:=hS.1
  simp only[hxl]
  simp only[sbS,Int.toNat_natCast,exists_const]
  refine⟨⟨⟨?_,?_,?_,?_,?_⟩,?_,?_,?_,?_,?_⟩,?_⟩
  case refine_11=>
    rintro⟨l,y,c⟩ ⟨hE,hc⟩ ⟨p1,_,hy⟩
    have hE:rkE S l:=hE
    have hc:cOK S c:=hc
    have hln:l.length=S.length:=hE.1.1
    have hat:z0f l (k:Int)=l.getD k 0:=z2c (by omega)
    refine⟨(y,l,k),rfl,rfl,rfl,rfl,zk5 hS hE,λq hq=>hq.2,λhr=>⟨(zV,false),rfl,rfl,rfl,rfl,rfl,rfl,rfl,rfl,rfl,rfl,zhw (.inl ⟨l,hE,by rw[Int.toNat_natCast,←hat];exact hr⟩),λq hq=>z2z q⟩,λhr=> ?_⟩
    have hr:z0f l (k:Int)≠ -1:=hr
    refine⟨(S,x,y,l,c,k),rfl,rfl,hxl,rfl,rfl,rfl,rfl,rfl,rfl,⟨hS,hE,hc,hr⟩,λq hq=>hq,λb hb=>⟨λhbig=>⟨(zV,false),rfl,rfl,rfl,rfl,rfl,rfl,rfl,rfl,rfl,rfl,zhw (.inr λhl=>by have:=hb.1.2 hl;omega),λq hq=>z2z q⟩,λ_=> ?_⟩⟩
    refine⟨(S,x,y,l,b.2,k),rfl,rfl,rfl,rfl,rfl,rfl,rfl,rfl,rfl,⟨hS,hE,hb.2,hr⟩,λq hq=>hq,λv hv _=> ?_⟩
    have hv:lvQ S k v:=hv
    exact⟨(v,true),rfl,rfl,rfl,rfl,rfl,rfl,rfl,rfl,rfl,rfl,⟨λ_=>⟨hv,l,hE,by rw[Int.toNat_natCast,←hat];exact hr⟩,λh=>(by cases h),hv.2.1⟩,λq hq=>hq.2⟩
  all_goals first
    | (refine⟨(S,x),rfl,hxl,rfl,hS,λq hq=>hq,λb hE _=> ?_⟩
       exact⟨⟨by omega,by omega,by omega,by omega⟩,(b.1,b.2,List.replicate S.length 0),z4v _,rfl,rfl,rfl,by show(List.replicate S.length 0).length=_;simp,λq hq=>hq.1,λq hq=>hq.2,hE,za9 S⟩)
    | (refine⟨⟨by omega,by omega,by omega,by omega⟩,(S,x),rfl,hxl,rfl,hS,λq hq=>hq,λb hE _=> ?_⟩
       exact⟨(b.1,b.2,List.replicate S.length 0),z4v _,rfl,rfl,rfl,by show(List.replicate S.length 0).length=_;simp,λq hq=>hq.1,λq hq=>hq.2,hE,za9 S⟩)
def z90(n:Nat) (hv:q1v P 56 (cVl.below z5t n)):q1v P 83 ((cVq zek).below z7y (n+1)):=by
 have hA:=zex n hv
 have hM:=zez n hv
 refine⟨hA.1,hA.2.1,hA.2.2.1,λs=> ?_⟩
 obtain⟨h0,e0,rA⟩:=hA.2.2.2 s
 obtain⟨h1,e1,rM⟩:=hM.2.2.2 s
 have e:h1=h0:=Option.some.inj (e1.symm.trans e0)
 subst e
 refine⟨h1,e0,λF I w vs a1 a2 a3 a4 hp a5 a6 a7=> ?_⟩
 obtain⟨m,p1,p2,p3,p4⟩:=hp
 rcases p3 with h|h
 ·exact rA F I w vs a1 a2 a3 a4 ⟨m,p1,p2,h,p4⟩ a5 a6 a7
 ·exact rM F I w vs a1 a2 a3 a4 ⟨m,p1,p2,h,p4⟩ a5 a6 a7
def zvj(n:Nat) (hv:q1v P 56 (cVl.below z5t n)):q1v P 56 (cVl.below z5t (n+1)):=by
 refine qkh mixed (qdw qkx) (qen (qhq hv (qhq (z90 n hv) (qhq (zk3 n hv) (qhq zec (qhq zai (qhq zpo qkw))))))) (W:=wVl) Try.func56 (by kernel_rfl) (show 1<=2 by decide) (show 2<=2 by decide) (λs=>by kernel_rfl) λ⟨S,(x:SV),(all:Int),(t:Int),g,(d:Int)⟩=>(zvi n S x all t g d).mpr ?_
 rintro⟨hmu,hS,⟨ht0,ht1⟩,hg,⟨hal0,hal1⟩,hd1,hd2⟩ ⟨p,_,hx,hgo⟩
 have hmu:2*(25- d).toNat<n+1:=hmu
 obtain⟨gl,gnl⟩:=z38 hgo
 obtain⟨j,rfl⟩:=Int.eq_ofNat_of_zero_le ht0
 have hj:j<S.length:=by omega
 have sl:x.2.1=S.length:=hx.1.1
 have hat:=λq (hq:z09 S x q/\g.ok q)=>zc1 hq.1 hj
 have hao:=λq (hq:z09 S x q/\g.ok q)=>hq.1.2 S[j] (List.getElem_mem hj)
 have hgd:=hS.2 S[j] (List.getElem_mem hj)
 simp only[sbS,exists_const,forall_const,Int.toNat_natCast,sl]
 refine⟨⟨by omega,by omega⟩,λh20=>⟨⟨all+1,3,zV⟩,rfl,rfl,rfl,rfl,rfl,rfl,rfl,rfl,rfl,rfl,rfl,⟨by show all<=all+1;omega,by show all+1<=2001;omega,λh=>(by have h:(3:Int)=0:=h;omega)⟩,λq hq=>z2z q⟩,λh20=>⟨λh2=>⟨⟨all+1,3,zV⟩,rfl,rfl,rfl,rfl,rfl,rfl,rfl,rfl,rfl,rfl,rfl,⟨by show all<=all+1;omega,by show all+1<=2001;omega,λh=>(by have h:(3:Int)=0:=h;omega)⟩,λq hq=>z2z q⟩,λh2=> ?_⟩⟩
 refine⟨⟨by omega,by omega⟩,(hat p ⟨hx,hgo⟩).1,S[j].k,S[j].nm,S[j].al.1,S[j].al.2.1,S[j].al.2.2,S[j].it,S[j].sy.1,S[j].sy.2.1,S[j].sy.2.2,S[j].hd,S[j].df,S[j].sz,S[j].f.1,S[j].f.2.1,S[j].f.2.2,S[j].br.1,S[j].br.2.1,S[j].br.2.2,λq hq=>(hat q hq).2,?_⟩
 have hmem:=List.getElem_mem hj
 obtain⟨_,syl,_,brl⟩:=z4k (hao p ⟨hx,hgo⟩)
 generalize S[j]=a at*
 simp only[syl,brl]
 have ret:∀(nn:Int) (ss:ByteArray) (ee:Int),∃b:VlB,b.snd.snd.n=nn/\b.snd.snd.s=ss/\b.snd.snd.x.fst=noA/\b.snd.snd.x.snd.fst=0/\b.snd.snd.x.snd.snd=0/\b.snd.snd.y.fst=noA/\b.snd.snd.y.snd.fst=0/\b.snd.snd.y.snd.snd=0/\b.snd.snd.b=0/\b.snd.fst=ee/\b.fst=all+1/\z0l all b/\∀(p:Nat->Option Obj),z09 S x p/\g.ok p->b.snd.snd.ok p:=λnn ss ee=>⟨⟨all+1,ee, .mk nn ss (none,0,0) [] (none,0,0) [] 0⟩,rfl,rfl,rfl,rfl,rfl,rfl,rfl,rfl,rfl,rfl,rfl,⟨by show all<=all+1;omega,by show all+1<=2001;omega,λ_=>by show all+1<=2000;omega⟩,λq _=>by show GV.ok _ q;unfold GV.ok;exact⟨z04,z04,by unfold GV.oks;trivial⟩⟩
 have q1:∀{k b gk:Int},a.k=k->bq k b gk a.k=decide (gk=b):=λ{k b gk} h=>by unfold bq;rw[decide_eq_true h];rfl
 have q0:∀{k b gk:Int},¬a.k=k->bq k b gk a.k=false:=λ{k b gk} h=>by unfold bq;rw[decide_eq_false h];rfl
 have qk:∀{k b:Int},bq k b g.k a.k=true->a.k=k/\g.k=b:=λ{k b} h=>by
  unfold bq at h;rw[Bool.and_eq_true,decide_eq_true_eq,decide_eq_true_eq]at h;exact h
 have gn:=hg
 rw[GJ.wf_eq]at gn
 obtain⟨gsz,_,_,_,⟨gn0,gn1⟩,_,_⟩:=gn
 refine⟨⟨⟨λh=>q1 h,λh=>q0 h⟩,λ_=>ret _ _ _,λ_=>⟨⟨λh=>q1 h,λh=>q0 h⟩,λ_=>ret _ _ _,λ_=>⟨⟨⟨λh=>⟨λh2=>⟨λh3=> ?_,λh3=> ?_⟩,λh2=> ?_⟩,λh=> ?_⟩,λh=> ?_,λh=>⟨λh2=> ?_,λh2=> ?_⟩⟩,λ_=>ret _ _ _,λ_=>⟨⟨λh=>q1 h,λh=>q0 h⟩,λ_=>⟨g.n,rfl,⟨gn0,gn1⟩,λb hb=>⟨⟨by omega,by omega⟩,ret _ _ _⟩⟩,λ_=>⟨⟨λh=>q1 h,λh=>q0 h⟩,λ_=>⟨g.n,rfl,⟨gn0,gn1⟩,λb hb=>ret _ _ _⟩,λ_=>⟨⟨λh=>q1 h,λh=>q0 h⟩,λ_=>ret _ _ _,λ_=>⟨⟨λh=> ?_,λh=>⟨λh2=> ?_,λh2=> ?_⟩⟩,λ_=>⟨g.s,rfl,by omega,λb hb=>⟨⟨λ_=>⟨λ_=>⟨_,rfl⟩,λ_=>⟨_,rfl⟩⟩,λ_=>⟨_,rfl⟩⟩,λs hs=>ret _ _ _⟩⟩,λ_=>⟨⟨λh=>q1 h,λh=>q0 h⟩,λhE=>⟨⟨0,rfl⟩,λi hi=> ?_⟩,λ_=>⟨⟨⟨λh=>q1 h,λh=>q0 h⟩,λh=> ?_,λh=>⟨λh2=> ?_,λh2=> ?_⟩⟩,λhP=> ?_,λ_=>⟨⟨λh=>q1 h,λh=>q0 h⟩,λhR=> ?_,λ_ h14=>⟨⟨?xa,?xb⟩,?_⟩⟩⟩⟩⟩⟩⟩⟩⟩⟩⟩,ret _ _ _⟩
 ·unfold bI;rw[decide_eq_true h,decide_eq_true h2,decide_eq_true h3];rfl
 ·unfold bI;rw[decide_eq_true h,decide_eq_true h2,decide_eq_false h3];rfl
 ·unfold bI;rw[decide_eq_true h,decide_eq_false h2];rfl
 ·unfold bI;rw[decide_eq_false h];rfl
 ·unfold bN;rw[h];rfl
 ·unfold bN;rw[h,Bool.false_or];exact q1 h2
 ·unfold bN;rw[h,Bool.false_or];exact q0 h2
 ·unfold bT;rw[decide_eq_true h,Bool.true_or,Bool.true_and]
 ·unfold bT;rw[decide_eq_true h2,Bool.or_true,Bool.true_and]
 ·unfold bT;rw[decide_eq_false h,decide_eq_false h2];rfl
 ·have hi':i<a.sys.length:=by omega
  have ty:=λq (hq:z09 S x q/\g.ok q)=>zkh (hao q hq).2.1 hi'
  have h30:=hgd.2.2.2.2.2.2.2.2.2
  exact⟨⟨by omega,by omega⟩,(ty p ⟨hx,hgo⟩).1,a.sys[i],λq hq=>(ty q hq).2,λ_=>ret _ _ _,λ_=>⟨⟨by omega,by omega⟩,i+1,by omega,by omega⟩⟩
 ·unfold bP;rw[h];rfl
 ·unfold bP;rw[h,Bool.false_or];exact q1 h2
 ·unfold bP;rw[h,Bool.false_or];exact q0 h2
 ·have hpar:zek a g:=by
   unfold bP at hP
   rw[Bool.or_eq_true]at hP
   rcases hP with h|h
   ·exact .inl (qk h).1
   ·exact .inr (qk h)
  refine⟨⟨S,x,all+1,a,g,d⟩,rfl,rfl,rfl,rfl,rfl,rfl,rfl,syl,rfl,rfl,rfl,rfl,rfl,rfl,rfl,rfl,brl,rfl,rfl,rfl,rfl,rfl,rfl,rfl,rfl,rfl,rfl,rfl,rfl,sl,rfl,rfl,⟨hmu,hS,hmem,hpar,hg,⟨by show 0<=all+1;omega,by show all+1<=2000;omega⟩,hd1,by show d<=20;omega⟩,λq hq=>⟨hq.1,hao q hq,hq.2⟩,?_⟩
  rintro⟨a2,e,w⟩ hb _
  have hb:all+1<=a2/\a2<=2001/\(e=0->a2<=2000):=hb
  exact⟨⟨a2,e,w⟩,rfl,rfl,rfl,rfl,rfl,rfl,rfl,rfl,rfl,rfl,rfl,sl.symm,rfl,rfl,⟨by show all<=a2;omega,hb.2⟩,λq hq=>hq.2⟩
 ·have hrec:isRec a g:=(qk hR).1
  refine⟨⟨S,x,all+1,a,g,d⟩,rfl,rfl,rfl,rfl,rfl,rfl,rfl,syl,rfl,rfl,rfl,rfl,rfl,rfl,rfl,rfl,brl,rfl,rfl,rfl,rfl,rfl,rfl,rfl,rfl,rfl,rfl,rfl,rfl,sl,rfl,rfl,⟨hmu,hS,hmem,hrec,hg,⟨by show 0<=all+1;omega,by show all+1<=2000;omega⟩,hd1,by show d<=20;omega⟩,λq hq=>⟨hq.1,hao q hq,hq.2⟩,?_⟩
  rintro⟨a2,e,w⟩ hb _
  have hb:all+1<=a2/\a2<=2001/\(e=0->a2<=2000):=hb
  exact⟨⟨a2,e,w⟩,rfl,rfl,rfl,rfl,rfl,rfl,rfl,rfl,rfl,rfl,rfl,sl.symm,rfl,rfl,⟨by show all<=a2;omega,hb.2⟩,λq hq=>hq.2⟩
 case xa|xb=>
  have h0:0<a.brs.length:=List.length_pos_iff.2 (hgd.2.2.2.1 h14)
  have hbr:=hgd.2.2.1 _ (List.getElem_mem h0)
  refine⟨⟨by omega,by omega⟩,(z7e (hao p ⟨hx,hgo⟩) h0).1,a.brs[0],λq hq=>(z7e (hao q hq) h0).2,⟨by omega,by omega⟩,⟨S,x,all+1,a.brs[0],g,d+1⟩,rfl,rfl,rfl,rfl,rfl,rfl,rfl,rfl,rfl,rfl,rfl,rfl,sl,rfl,rfl,⟨by show 2*(25- (d+1)).toNat<n;omega,hS,hbr,hg,⟨by show 0<=all+1;omega,by show all+1<=2000;omega⟩,by show 1<=d+1;omega,by show d+1<=21;omega⟩,λq hq=>hq,?_⟩
  rintro⟨a2,e,w⟩ hb _
  have hb:all+1<=a2/\a2<=2001/\(e=0->a2<=2000):=hb
  exact⟨⟨a2,e,w⟩,rfl,rfl,sl.symm,rfl,rfl,rfl,rfl,rfl,rfl,rfl,rfl,rfl,rfl,rfl,λq hq=>hq.1,λq hq=>hq.2,⟨by show all<=a2;omega,hb.2⟩⟩
 ·rintro⟨a2,e,w⟩ hb _ b s1 _
  refine⟨⟨a2,e, .mk 0 (mkS []) (some ⟨b,s1+0,none⟩,1,1) [w] (none,0,0) [] 0⟩,rfl,rfl,rfl,rfl,rfl,rfl,rfl,rfl,rfl,rfl,rfl,hb,λq hq=> ?_⟩
  show GV.ok _ q
  unfold GV.ok
  refine⟨⟨rfl,Nat.le_refl _, .inr ⟨⟨b,s1+0,none⟩,rfl,rfl,λi v hi=> ?_⟩⟩,z04,z3l hq.1.2⟩
  rw[z00,z00,List.append_nil]at hi
  exact hq.2 i v hi
def zi4:∀n,q1v P 56 (cVl.below z5t n)
 |0=>CtR.below_zero (by decide) (by decide) (Sen.enters_of Try.func56 (by kernel_rfl)) λs=>rfl
 |n+1=>zvj n (zi4 n)
def zq3:q1v P 56 cVl:=CtR.of_below zi4
def zug:Ct:=ctP (SV×Int) (λ⟨x,t⟩=>[scA x, .sv (.int .i64 t)]) (λ_=>True) (λ_=>{}) λ⟨x,t⟩=> .sv (.bool (decide (0<=t)&&decide (t<(x.2.1:Int))))
def z1n(S:List AT):Prop:=∀a∈S,1<=a.k/\a.k<=14
def okQ(a:AT) (n:Nat) (ks:List ByteArray) (b:Int):Bool:=if a.k=9 then decide (n=a.fs.length)else if a.k=14 then decide (0<=b/\b<a.brs.length/\n=1)else if a.k=13 then decide (n=ks.length)&&z3w ks else true
def inF(S:List AT) (a:AT) (v:GV):Bool:=okQ a v.l.length v.ks v.b&&PV.fitL S (z2u a v.b) 0 (GV.pvs v.l)
def nB(k:Int):Bool:=decide (k=2\/k=3\/k=4\/k=5\/k=6\/k=10)
def z0u(S:List AT) (a:AT) (v:GV):Bool:=if a.k=1 then true else if isN a.k=true then okN a v.n else if isT a.k=true then okT a v.s else inF S a v
def z3j:Ct:=ctP FtS (λ⟨S,x,t,v⟩=>[scA x, .sv (.int .i64 t),v.av]) (λ⟨S,x,t,v⟩=>small S/\z1n S/\v.pv.sm) (λ⟨S,x,t,v⟩=>svM S x v) λ⟨S,x,t,v⟩=> .sv (.bool (PV.fits S t v.pv))
def z7f:Ct:=ctP FpS (λ⟨S,x,a,v⟩=>[scA x,a.av,v.av]) (λ⟨S,x,a,v⟩=>small S/\z1n S/\a.fs.length<1000000/\v.pv.sm/\isQ a.k=true) (λ⟨S,x,a,v⟩=>j6f S x a v) λ⟨S,x,a,v⟩=> .sv (.bool (inF S a v))
def zA:AT:=⟨0,mkS [],(none,0,0),[],0,(none,0,0),[],false,mkS [],0,(none,0,0),[],(none,0,0),[]⟩
def atS(S:List AT) (t:Int):AT:=(S[t.toNat]?).getD zA
def b46(k:Int):Bool:=decide (k=4)||decide (k=6)
def z8i(a:AT) (v:GV):Bool:=(decide (a.k≠13)&&decide (0<v.ks.length))|| (decide (a.k≠14)&&decide (v.b≠0))
def zi6:FtS->WayF:=λ⟨S,x,t,v⟩=>{
 cut:=λi _ _=>match i with
  |14=>some {σ:=Unit,t:=λ_=>[(46, .sv (.bool (decide ((atS S t).k=4))))],h:=λ_=>[],more:=0,μ:=λ_=>0,keep:=[3,5,6,7,8,9,10,11,22]}
  |15=>some {σ:=Unit,t:=λ_=>[(46, .sv (.bool (b46 (atS S t).k)))],h:=λ_=>[],more:=0,μ:=λ_=>0,keep:=[3,5,6,7,8,9,10,11,22]}
  |26=>some {σ:=Unit,t:=λ_=>[(8, .sv (.bool (nB (atS S t).k))),(9, .sv (.bool (isT (atS S t).k))),(10, .sv (.bool (isQ (atS S t).k))),(11, .sv (.bool (z0u S (atS S t) v)))],h:=λ_=>[],more:=0,μ:=λ_=>0,keep:=[3,5,6,7]}
  |27=>some {σ:=Unit,t:=λ_=>[(96, .sv (.bool (z8i (atS S t) v)))],h:=λ_=>[],more:=0,μ:=λ_=>0,keep:=[3,5,6,7,8,9,10,11]}
  |_=>none}
def zi8:FpS->WayF:=λ⟨S,x,a,v⟩=>{
  ann:=λid _ _=>match id with
    |1=>some {σ:=Nat,pre:=λj=>j<=v.ks.length/\z3w v.ks=(if j=0 then z3w v.ks else z3w (v.ks.drop (j- 1)))/\(∀(h:0<j) (h2:j<=v.ks.length),vld v.ks[j- 1]=true),t:=λj=>[(7, .sv (.int .i64 (j:Int)))],h:=λ_=>[],more:=0,μ:=λj=>v.ks.length- j,keep:=[3,4,5,6]}
    |_=>some {σ:=Nat,pre:=λj=>j<=v.l.length/\PV.fitL S (z2u a v.b) j ((GV.pvs v.l).drop j)=PV.fitL S (z2u a v.b) 0 (GV.pvs v.l),t:=λj=>[(8, .sv (.int .i64 (j:Int)))],h:=λ_=>[],more:=0,μ:=λj=>v.l.length- j,keep:=[3,4,5,6]}
  cut :=λi t _=>match i with
    |15=>some {σ:=Unit,pre:=λ_=>a.k≠14/\okQ a v.l.length v.ks v.b=true,t:=λ_=>[],h:=λ_=>[],more:=0,μ:=λ_=>0,keep:=[3,4,5,6]}
    | 21=>match slI t 8 with
      |some i=>some {σ:=Unit,t:=λ_=>[(9, .sv (.int .i64 (z2u a v.b i.toNat)))],h:=λ_=>[],more:=0,μ:=λ_=>0,keep:=[3,4,5,6,8]}
      |none=>none
    |_=>none}
def zjn:FtS->Nat:=λ⟨S,x,t,v⟩=>SizeOf.sizeOf v
def zou:FpS->Nat:=λ⟨S,x,a,v⟩=>SizeOf.sizeOf v
def zj8(x:SV) (t:Int):qla P (λ_=>none) Try.f21 zug (λ_=>{}) ⟨x,t⟩=(True->(decide ((0:Int)<=t)=true->(decide ((0:Int)<=t)&&decide (t<(↑(Prod.fst (Prod.snd x)):Int)))=decide (t<(↑(Prod.fst (Prod.snd x)):Int))/\True)/\(decide ((0:Int)<=t)=false->(decide ((0:Int)<=t)&&decide (t<(↑(Prod.fst (Prod.snd x)):Int)))=false/\True)):=by kernel_rfl
section
variable (x0:Int) (x1:SV) (x2:List AT) (x3:GV) (x4:Nat) (x5:Int) (x6:ByteArray) (x7:Option Addr) (x8:Nat) (x9:Int) (x10:Option Addr) (x11 x12:Nat) (x13:Bool) (x14:ByteArray) (x15:Int) (x16:Option Addr) (x17 x18:Nat) (x19:Option Addr) (x20 x21 x22:Nat) (x23:Prop) (x24:(Option Addr×Nat×Nat)×Int)
 abbrev znk:= !(decide (0<=x24.2)&&decide (x24.2<(↑x24.1.2.1:Int)))
 def z9m:=PV.fits x2 x0 (GV.pv x3)=false/\True
 def z5d:=x1.1=x1.1/\x1.2.1=x1.2.1/\x1.2.2=x1.2.2/\GV.n x3=GV.n x3/\GV.s x3=GV.s x3/\(GV.x x3).1=(GV.x x3).1/\(GV.x x3).2.1=(GV.x x3).2.1/\(GV.x x3).2.2=(GV.x x3).2.2/\(GV.y x3).1=(GV.y x3).1/\(GV.y x3).2.1=(GV.y x3).2.1/\(GV.y x3).2.2=(GV.y x3).2.2/\GV.b x3=GV.b x3/\x0=x0/\x6=x6/\x7=x7/\x4=x4/\x8=x8/\x5=x5/\x10=x10/\x11=x11/\x12=x12/\x13=x13/\x14=x14/\x9=x9/\x16=x16/\x17=x17/\x18=x18/\x19=x19/\x20=x20/\x21=x21/\(∀i0,True/\z09 x2 x1 i0/\GV.ok x3 i0->True/\z09 x2 x1 i0/\GV.ok x3 i0)/\True/\True
 def z67:=isT (AT.k (atS x2 x0))=false/\nB (AT.k (atS x2 x0))=true/\isQ (AT.k (atS x2 x0))=false/\x23
 abbrev z9l:=(-2147483648:Int)<=IntKind.wrap i64 (GV.n x3)
 def z78:=decide (z9l x3)=decide (z9l x3)
 def ztm:=z78 x3/\z78 x3/\z78 x3/\Ji (z9l x3) (∃(i0:Unit),z0u x2 (atS x2 x0) x3=decide (IntKind.wrap i64 (GV.n x3)<2147483648)/\z67 x0 x2 (z5d x5 x1 x2 x3 x4 x9 x6 x7 x8 x15 x10 x11 x12 x13 x14 x16 x17 x18 x19 x20 x21)) (∃(i1:Unit),z0u x2 (atS x2 x0) x3=false/\z67 x0 x2 (z5d x5 x1 x2 x3 x4 x9 x6 x7 x8 x15 x10 x11 x12 x13 x14 x16 x17 x18 x19 x20 x21))
 def ztl:=Ji (z9l x3) (ztm x0 x1 x2 x3 x4 x5 x6 x7 x8 x9 x10 x11 x12 x13 x14 x15 x16 x17 x18 x19 x20 x21) (z78 x3/\z78 x3/\z78 x3/\Ji (z9l x3) (∃(i2:Unit),False) (∃(i3:Unit),z0u x2 (atS x2 x0) x3=false/\z67 x0 x2 (z5d x5 x1 x2 x3 x4 x9 x6 x7 x8 x15 x10 x11 x12 x13 x14 x16 x17 x18 x19 x20 x21)))
 def ztr:=Ji (AT.k (atS x2 x0)=4) (∃(i0:Unit),x5=x5/\b46 (AT.k (atS x2 x0))=decide (AT.k (atS x2 x0)=4)/\z5d x5 x1 x2 x3 x4 x9 x6 x7 x8 x15 x10 x11 x12 x13 x14 x16 x17 x18 x19 x20 x21) (∃(i1:Unit),x5=x5/\b46 (AT.k (atS x2 x0))=decide (x5=6)/\z5d x5 x1 x2 x3 x4 x9 x6 x7 x8 x15 x10 x11 x12 x13 x14 x16 x17 x18 x19 x20 x21)
 def zh1:=isT (AT.k (atS x2 x0))=true/\nB (AT.k (atS x2 x0))=false/\isQ (AT.k (atS x2 x0))=false/\x23
 def ztk:=Ji (x0=11) (∃(i0:Unit),z0u x2 (atS x2 x5) x3=decide ((↑(size (GV.s x3)):Int)=x9)/\zh1 x5 x2 (z5d x0 x1 x2 x3 x4 x15 x6 x7 x8 x9 x10 x11 x12 x13 x14 x16 x17 x18 x19 x20 x21)) (∃(i1:FpS),i1.2.1.1=x1.1/\i1.2.1.2.1=x1.2.1/\i1.2.1.2.2=x1.2.2/\AT.k i1.2.2.1=x0/\AT.nm i1.2.2.1=x6/\(AT.al i1.2.2.1).1=x7/\(AT.al i1.2.2.1).2.1=x4/\(AT.al i1.2.2.1).2.2=x8/\AT.it i1.2.2.1=x15/\(AT.sy i1.2.2.1).1=x10/\(AT.sy i1.2.2.1).2.1=x11/\(AT.sy i1.2.2.1).2.2=x12/\AT.hd i1.2.2.1=x13/\AT.df i1.2.2.1=x14/\AT.sz i1.2.2.1=x9/\(AT.f i1.2.2.1).1=x16/\(AT.f i1.2.2.1).2.1=x17/\(AT.f i1.2.2.1).2.2=x18/\(AT.br i1.2.2.1).1=x19/\(AT.br i1.2.2.1).2.1=x20/\(AT.br i1.2.2.1).2.2=x21/\GV.n i1.2.2.2=GV.n x3/\GV.s i1.2.2.2=GV.s x3/\(GV.x i1.2.2.2).1=(GV.x x3).1/\(GV.x i1.2.2.2).2.1=(GV.x x3).2.1/\(GV.x i1.2.2.2).2.2=(GV.x x3).2.2/\(GV.y i1.2.2.2).1=(GV.y x3).1/\(GV.y i1.2.2.2).2.1=(GV.y x3).2.1/\(GV.y i1.2.2.2).2.2=(GV.y x3).2.2/\GV.b i1.2.2.2=GV.b x3/\(zou i1<x22+1/\small i1.1/\z1n i1.1/\length (AT.fs i1.2.2.1)<1000000/\PV.sm (GV.pv i1.2.2.2)/\isQ (AT.k i1.2.2.1)=true)/\(∀i2,True/\z09 x2 x1 i2/\GV.ok x3 i2->z09 i1.1 i1.2.1 i2/\AT.ok i1.2.2.1 i2/\GV.ok i1.2.2.2 i2)/\∃(i3:Unit),z0u x2 (atS x2 x5) x3=inF i1.1 i1.2.2.1 i1.2.2.2/\isT (AT.k (atS x2 x5))=false/\nB (AT.k (atS x2 x5))=false/\isQ (AT.k (atS x2 x5))=true/\z5d x0 x1 x2 x3 x4 x15 x6 x7 x8 x9 x10 x11 x12 x13 x14 x16 x17 x18 x19 x20 x21)
 def ztj:=Ji (x0=8) (GV.s x3=GV.s x3/\size (GV.s x3)<9223372036854775808/\∃(i0:Unit),z0u x2 (atS x2 x5) x3=vld (GV.s x3)/\zh1 x5 x2 (z5d x0 x1 x2 x3 x4 x9 x6 x7 x8 x15 x10 x11 x12 x13 x14 x16 x17 x18 x19 x20 x21)) (ztk x0 x1 x2 x3 x4 x5 x6 x7 x8 x15 x10 x11 x12 x13 x14 x9 x16 x17 x18 x19 x20 x21 x22)
 def j4q:=Ji (x0=7) (∃(i0:Unit),z0u x2 (atS x2 x5) x3=true/\zh1 x5 x2 (z5d x0 x1 x2 x3 x4 x9 x6 x7 x8 x15 x10 x11 x12 x13 x14 x16 x17 x18 x19 x20 x21)) (ztj x0 x1 x2 x3 x4 x5 x6 x7 x8 x9 x10 x11 x12 x13 x14 x15 x16 x17 x18 x19 x20 x21 x22)
 def j4p:=Ji (x0=10) (∃(i0:Unit),z0u x2 (atS x2 x5) x3=decide (GV.n x3<IntKind.wrap u64 (↑x4:Int))/\z67 x5 x2 (z5d x0 x1 x2 x3 x8 x9 x6 x7 x11 x15 x10 x4 x12 x13 x14 x16 x17 x18 x19 x20 x21)) (j4q x0 x1 x2 x3 x8 x5 x6 x7 x11 x9 x10 x4 x12 x13 x14 x15 x16 x17 x18 x19 x20 x21 x22)
 def j4o:=Ji (x0=5) (∃(i0:Unit),z0u x2 (atS x2 x5) x3=decide (GV.n x3<4294967296)/\z67 x5 x2 (z5d x0 x1 x2 x3 x4 x9 x6 x7 x8 x15 x10 x11 x12 x13 x14 x16 x17 x18 x19 x20 x21)) (j4p x0 x1 x2 x3 x11 x5 x6 x7 x4 x9 x10 x8 x12 x13 x14 x15 x16 x17 x18 x19 x20 x21 x22)
 def j4m:=(b46 (AT.k (atS x2 x0))=true->∃(i0:Unit),z0u x2 (atS x2 x0) x3=true/\z67 x0 x2 (z5d x5 x1 x2 x3 x4 x9 x6 x7 x8 x15 x10 x11 x12 x13 x14 x16 x17 x18 x19 x20 x21))/\(b46 (AT.k (atS x2 x0))=false->j4o x5 x1 x2 x3 x4 x0 x6 x7 x8 x9 x10 x11 x12 x13 x14 x15 x16 x17 x18 x19 x20 x21 x22)
 def j4l:=((∃(i0:Unit),x0=x0/\decide (AT.k (atS x2 x5)=4)=decide (x0=4)/\z5d x0 x1 x2 x3 x4 x9 x6 x7 x8 x15 x10 x11 x12 x13 x14 x16 x17 x18 x19 x20 x21)/\∀(i1:Unit),True->ztr x5 x1 x2 x3 x4 x0 x6 x7 x8 x9 x10 x11 x12 x13 x14 x15 x16 x17 x18 x19 x20 x21)/\∀(i4:Unit),True->j4m x5 x1 x2 x3 x4 x0 x6 x7 x8 x9 x10 x11 x12 x13 x14 x15 x16 x17 x18 x19 x20 x21 x22
 def j4k:=Ji (x0=3) (ztl x5 x1 x2 x3 x4 x0 x6 x7 x8 x9 x10 x11 x12 x13 x14 x15 x16 x17 x18 x19 x20 x21) (j4l x0 x1 x2 x3 x4 x5 x6 x7 x8 x9 x10 x11 x12 x13 x14 x15 x16 x17 x18 x19 x20 x21 x22)
 def j4j:=Ji (x0=2) (∃(i0:Unit),z0u x2 (atS x2 x5) x3=decide (GV.n x3<=1)/\z67 x5 x2 (z5d x0 x1 x2 x3 x4 x9 x6 x7 x8 x15 x10 x11 x12 x13 x14 x16 x17 x18 x19 x20 x21)) (j4k x0 x1 x2 x3 x4 x5 x6 x7 x8 x9 x10 x11 x12 x13 x14 x15 x16 x17 x18 x19 x20 x21 x22)
 def zh0:=z0u x2 (atS x2 x0) x3=z0u x2 (atS x2 x0) x3/\isT (AT.k (atS x2 x0))=isT (AT.k (atS x2 x0))/\nB (AT.k (atS x2 x0))=nB (AT.k (atS x2 x0))/\x23
 def znh:=((!decide (x0=14))=true->∃(i0:Unit),zh0 x5 x2 x3 (z8i (atS x2 x5) x3= !decide (GV.b x3=0)/\isQ (AT.k (atS x2 x5))=isQ (AT.k (atS x2 x5))/\z5d x0 x1 x2 x3 x4 x9 x6 x7 x8 x15 x10 x11 x12 x13 x14 x16 x17 x18 x19 x20 x21))/\((!decide (x0=14))=false->∃(i1:Unit),zh0 x5 x2 x3 (z8i (atS x2 x5) x3=false/\isQ (AT.k (atS x2 x5))=isQ (AT.k (atS x2 x5))/\z5d x0 x1 x2 x3 x4 x9 x6 x7 x8 x15 x10 x11 x12 x13 x14 x16 x17 x18 x19 x20 x21))
 def zto:=Ji (0<(↑(GV.y x3).2.1:Int)) (∃(i0:Unit),zh0 x0 x2 x3 (z8i (atS x2 x0) x3=true/\isQ (AT.k (atS x2 x0))=isQ (AT.k (atS x2 x0))/\z5d x5 x1 x2 x3 x4 x9 x6 x7 x8 x15 x10 x11 x12 x13 x14 x16 x17 x18 x19 x20 x21)) (znh x5 x1 x2 x3 x4 x0 x6 x7 x8 x9 x10 x11 x12 x13 x14 x15 x16 x17 x18 x19 x20 x21)
 def znj:=(isQ (AT.k (atS x2 x0))=true->PV.fits x2 x0 (GV.pv x3)=true/\True)/\(isQ (AT.k (atS x2 x0))=false->PV.fits x2 x0 (GV.pv x3)=decide ((↑(GV.x x3).2.1:Int)=0)/\True)
 def ztt:=Ji (GV.s x3=mkS []) (znj x0 x2 x3) (z9m x0 x2 x3)
 def zni:=(isT (AT.k (atS x2 x0))=true->znj x0 x2 x3)/\(isT (AT.k (atS x2 x0))=false->ztt x0 x2 x3)
 def zts:=Ji (GV.n x3=0) (zni x0 x2 x3) (z9m x0 x2 x3)
 def ztq:=(nB (AT.k (atS x2 x0))=true->zni x0 x2 x3)/\(nB (AT.k (atS x2 x0))=false->zts x0 x2 x3)
 def ztp:=(z0u x2 (atS x2 x0) x3=true->ztq x0 x2 x3)/\(z0u x2 (atS x2 x0) x3=false->z9m x0 x2 x3)
 def ztn:=(z8i (atS x2 x0) x3=true->z9m x0 x2 x3)/\(z8i (atS x2 x0) x3=false->ztp x0 x2 x3)
 def j4n:=(((!decide (x0=13))=true->zto x5 x1 x2 x3 x4 x0 x6 x7 x8 x9 x10 x11 x12 x13 x14 x15 x16 x17 x18 x19 x20 x21)/\((!decide (x0=13))=false->znh x0 x1 x2 x3 x4 x5 x6 x7 x8 x9 x10 x11 x12 x13 x14 x15 x16 x17 x18 x19 x20 x21))/\∀(i5:Unit),True->ztn x5 x2 x3
 def j4i:=(0<=x0/\x0<(↑x1.2.1:Int))/\x1.1≠noA/\∃(i0:Int),∃i1,∃i2,∃(i3:Nat),∃(i4:Nat),∃(i5:Int),∃i6,∃(i7:Nat),∃(i8:Nat),∃(i9:Bool),∃i10,∃(i11:Int),∃i12,∃(i13:Nat),∃(i14:Nat),∃i15,∃(i16:Nat),∃(i17:Nat),(∀i18,True/\z09 x2 x1 i18/\GV.ok x3 i18->q3i i18 (adr x1.1 (toNat x0*10)) [int i64 i0,string i1,slice i2 i3 i4,int i64 i5,slice i6 i7 i8,bool i9,string i10,int i64 i11,slice i12 i13 i14,slice i15 i16 i17])/\(Ji (i0=1) (∃(i19:Unit),z0u x2 (atS x2 x0) x3=true/\isT (AT.k (atS x2 x0))=false/\nB (AT.k (atS x2 x0))=false/\isQ (AT.k (atS x2 x0))=false/\z5d i0 x1 x2 x3 i3 i5 i1 i2 i4 i11 i6 i7 i8 i9 i10 i12 i13 i14 i15 i16 i17) (j4j i0 x1 x2 x3 i3 x0 i1 i2 i4 i5 i6 i7 i8 i9 i10 i11 i12 i13 i14 i15 i16 i17 x4))/\∀(i54:Unit),True->j4n i0 x1 x2 x3 i3 x0 i1 i2 i4 i5 i6 i7 i8 i9 i10 i11 i12 i13 i14 i15 i16 i17
end
def zam(n:Nat) (S:List AT) (x:SV) (t:Int) (v:GV):qla P (qgc [(21,zug),(22,z5o),(23,z7f.below zou (n+1))]) Try.f10 (z3j.below zjn (n+1)) (zi6) ⟨S,x,t,v⟩=(zjn (S,x,t,v)<n+1/\small S/\z1n S/\PV.sm (GV.pv v)->(∃(p:Pub),True/\z09 S x p/\GV.ok v p)->∃(s:(Option Addr×Nat×Nat)×Int),s.1.1=x.1/\s.1.2.1=x.2.1/\s.1.2.2=x.2.2/\s.2=t/\True/\((znk s)=true->z9m t S v)/\((znk s)=false->j4i t x S v n)):=by kernel_rfl
def ze8:=λn S x t v=>Eq.trans (zam n S x t v) (by delta Ji Jt Jf znk z9m z5d z67 z9l z78 ztm ztl ztr zh1 ztk ztj j4q j4p j4o j4m j4l j4k j4j zh0 znh zto znj ztt zni zts ztq ztp ztn j4n j4i;exact rfl)
section
variable (x0:SV) (x1:GV) (x2:AT) (x3:List AT) (x4:Prop) (x5 x6:Nat) (x7:FtS) (x8:Int) (x9:ByteArray) (x10 x11:Option Addr) (x12 x13:Nat) (x14:Int) (x15:Nat) (x16:Nat->Option Obj)
 abbrev z3u:=True/\z09 x3 x0 x16/\AT.ok x2 x16/\GV.ok x1 x16
 abbrev z2l:=(↑(GV.x x1).2.1:Int)
 def z9t:=x0.1=x0.1/\x0.2.1=x0.2.1/\x0.2.2=x0.2.2/\GV.n x1=GV.n x1/\GV.s x1=GV.s x1/\(GV.x x1).1=(GV.x x1).1/\(GV.x x1).2.1=(GV.x x1).2.1/\(GV.x x1).2.2=(GV.x x1).2.2/\(GV.y x1).1=(GV.y x1).1/\(GV.y x1).2.1=(GV.y x1).2.1/\(GV.y x1).2.2=(GV.y x1).2.2/\GV.b x1=GV.b x1/\AT.k x2=AT.k x2/\AT.nm x2=AT.nm x2/\(AT.al x2).1=(AT.al x2).1/\(AT.al x2).2.1=(AT.al x2).2.1/\(AT.al x2).2.2=(AT.al x2).2.2/\AT.it x2=AT.it x2/\(AT.sy x2).1=(AT.sy x2).1/\(AT.sy x2).2.1=(AT.sy x2).2.1/\(AT.sy x2).2.2=(AT.sy x2).2.2/\AT.hd x2=AT.hd x2/\AT.df x2=AT.df x2/\AT.sz x2=AT.sz x2/\(AT.f x2).1=(AT.f x2).1/\(AT.f x2).2.1=(AT.f x2).2.1/\(AT.f x2).2.2=(AT.f x2).2.2/\(AT.br x2).1=(AT.br x2).1/\(AT.br x2).2.1=(AT.br x2).2.1/\(AT.br x2).2.2=(AT.br x2).2.2/\(∀i0,z3u x0 x1 x2 x3 i0->z3u x0 x1 x2 x3 i0)/\x4
 def zdh:=AT.k x2≠14/\okQ x2 (length (GV.l x1)) (GV.ks x1) (GV.b x1)=true
 def zty:=((!decide ((z2l x1)=(↑(AT.f x2).2.1:Int)))=true->inF x3 x2 x1=false/\True)/\((!decide ((z2l x1)=(↑(AT.f x2).2.1:Int)))=false->∃(i0:Unit),z9t x0 x1 x2 x3 ((zdh x1 x2)/\True))
 abbrev z7a:=(↑(GV.y x1).2.1:Int)
 abbrev z9n:=x5<=length (GV.ks x1)/\(z3w (GV.ks x1)=if x5=0 then z3w (GV.ks x1)else z3w (drop (x5- 1) (GV.ks x1)))/\x4
 def zno:=(∀i0,z3u x0 x1 x2 x3 i0->q3i i0 (adr (GV.y x1).1 (toNat (↑x5:Int)*1)) [string x9])
 def znn:=((!vld x9)=true->inF x3 x2 x1=false/\True)/\((!vld x9)=false->False)
 def zu2:=(!vld x9)= !vld x9/\(!vld x9)= !vld x9/\(!vld x9)= !vld x9/\znn x1 x2 x3 x9
 def z14:=decide (0<(↑x5:Int))=decide (0<(↑x5:Int))
 abbrev zdg:=Jb ((↑x5:Int)+1)
 def zh3:=length (GV.ks x1)- x5<length (GV.ks x1)- x6/\True
 def z3t:=decide (0<=GV.b x1)=decide (0<=GV.b x1)
 abbrev z79:=GV.b x1<(↑(AT.br x2).2.1:Int)
 def z7b:=decide (z79 x1 x2)=decide (z79 x1 x2)
 def z2k:=decide ((z2l x1)=1)=decide ((z2l x1)=1)
 def zh4:=z2k x1/\z2k x1/\z2k x1/\z2k x1/\z2k x1/\x4
 def znm:=x7.2.1.1=x0.1/\x7.2.1.2.1=x0.2.1/\x7.2.1.2.2=x0.2.2/\x4
 def znl:=GV.n x7.2.2.2=x8/\GV.s x7.2.2.2=x9/\(GV.x x7.2.2.2).1=x10/\(GV.x x7.2.2.2).2.1=x5/\(GV.x x7.2.2.2).2.2=x6/\(GV.y x7.2.2.2).1=x11/\(GV.y x7.2.2.2).2.1=x12/\(GV.y x7.2.2.2).2.2=x13/\GV.b x7.2.2.2=x14/\(zjn x7<x15/\small x7.1/\z1n x7.1/\PV.sm (GV.pv x7.2.2.2))/\(∀i0,z3u x0 x1 x2 x3 i0->z09 x7.1 x7.2.1 i0/\GV.ok x7.2.2.2 i0)/\x4
 def j4x:=zh4 x1 ((0<=GV.b x1/\z79 x1 x2)/\(AT.br x2).1≠noA/\z2k x1/\∃(i0:Int),(∀i1,z3u x0 x1 x2 x3 i1->q3i i1 (adr (AT.br x2).1 (toNat (GV.b x1)*1)) [int i64 i0])/\z2k x1/\z2k x1/\z2k x1/\((0:Int)<=0/\0<(z2l x1))/\(GV.x x1).1≠noA/\z2k x1/\∃(i2:Int),∃i3,∃i4,∃(i5:Nat),∃(i6:Nat),∃i7,∃(i8:Nat),∃(i9:Nat),∃(i10:Int),(∀i11,z3u x0 x1 x2 x3 i11->q3i i11 (adr (GV.x x1).1 ((0:Nat)*5)) [int u64 i2,string i3,slice i4 i5 i6,slice i7 i8 i9,int i64 i10])/\z2k x1/\∃(i12:FtS),znm x0 (i12.2.2.1=i0/\znl x0 x1 x2 x3 (Ji ((z2l x1)=1) (inF x3 x2 x1=PV.fits i12.1 i12.2.2.1 (GV.pv i12.2.2.2)/\True) (inF x3 x2 x1=false/\True)) i5 i6 i12 i2 i3 i4 i7 i8 i9 i10 x5) i12)
 def ztz:=z2k x1/\zh4 x1 (zh4 x1 (Ji ((z2l x1)=1) (False) (inF x3 x2 x1=false/\True)))
 def j4w:=Ji ((z2l x1)=1) (j4x x0 x1 x2 x3 x5) (ztz x1 x2 x3)
 def j4v:=z7b x1 x2/\z7b x1 x2/\z7b x1 x2/\Ji (z79 x1 x2) (j4w x0 x1 x2 x3 x5) (inF x3 x2 x1=false/\True)
 def zu0:=z7b x1 x2/\z7b x1 x2/\z7b x1 x2/\Ji (z79 x1 x2) (False) (inF x3 x2 x1=false/\True)
 abbrev j4u:=Ji (z79 x1 x2) (j4v x0 x1 x2 x3 x5) (zu0 x1 x2 x3)
 def j4t:=z3t x1/\z3t x1/\z3t x1/\z3t x1/\z3t x1/\Ji (0<=GV.b x1) (j4u x0 x1 x2 x3 x5) (inF x3 x2 x1=false/\True)
 def zu1:=z3t x1/\z3t x1/\z3t x1/\z3t x1/\z3t x1/\Ji (0<=GV.b x1) (False) (inF x3 x2 x1=false/\True)
 def j4s:=Ji (0<=GV.b x1) (j4t x0 x1 x2 x3 x5) (zu1 x1 x2 x3)
 def j4r:=Ji (AT.k x2=14) (j4s x0 x1 x2 x3 x5) (∃(i14:Unit),z9t x0 x1 x2 x3 ((zdh x1 x2)/\True))
 def zh2:=x5<=length (GV.l x1)/\PV.fitL x3 (z2u x2 (GV.b x1)) x5 (drop x5 (GV.pvs (GV.l x1)))=PV.fitL x3 (z2u x2 (GV.b x1)) 0 (GV.pvs (GV.l x1))
 def ztw:=(0<=(↑x5:Int)/\(↑x5:Int)<(↑(AT.f x2).2.1:Int))/\(AT.f x2).1≠noA/\∃(i0:Int),(∀i1,z3u x0 x1 x2 x3 i1->q3i i1 (Addr.add (adr (AT.f x2).1 (toNat (↑x5:Int)*9)) 2) [int i64 i0])/\∃(i2:Unit),z2u x2 (GV.b x1) (toNat (↑x5:Int))=i0/\(↑x5:Int)=(↑x5:Int)/\z9t x0 x1 x2 x3 (True/\True)
 def ztx:=zdg x5/\∃(i0:Nat),(↑i0:Int)=(↑x5:Int)+1/\z9t x0 x1 x2 x3 ((zh2 x1 x2 x3 i0)/\length (GV.l x1)- i0<length (GV.l x1)- x5/\True)
 def ztv:=(0<=(↑x5:Int)/\(↑x5:Int)<(z2l x1))/\(GV.x x1).1≠noA/\∃(i0:Int),∃i1,∃i2,∃(i3:Nat),∃(i4:Nat),∃i5,∃(i6:Nat),∃(i7:Nat),∃(i8:Int),(∀i9,z3u x0 x1 x2 x3 i9->q3i i9 (adr (GV.x x1).1 (toNat (↑x5:Int)*5)) [int u64 i0,string i1,slice i2 i3 i4,slice i5 i6 i7,int i64 i8])/\∃(i10:FtS),znm x0 (i10.2.2.1=z2u x2 (GV.b x1) (toNat (↑x5:Int))/\znl x0 x1 x2 x3 (((!PV.fits i10.1 i10.2.2.1 (GV.pv i10.2.2.2))=true->inF x3 x2 x1=false/\True)/\((!PV.fits i10.1 i10.2.2.1 (GV.pv i10.2.2.2))=false->ztx x0 x1 x2 x3 x5)) i3 i4 i10 i0 i1 i2 i5 i6 i7 i8 x6) i10
 def ztu:=(Ji (AT.k x2=9) (ztw x0 x1 x2 x3 x5) (∃(i3:Unit),z2u x2 (GV.b x1) (toNat (↑x5:Int))=AT.it x2/\(↑x5:Int)=(↑x5:Int)/\z9t x0 x1 x2 x3 (True/\True)))/\∀(i4:Unit),True->ztv x0 x1 x2 x3 x5 x6
 def j4z:=Ji ((↑x5:Int)<(z2l x1)) (ztu x0 x1 x2 x3 x5 x6) (inF x3 x2 x1=true/\True)
 def j4y:=(∃(i0:Nat),(↑i0:Int)=0/\z9t x0 x1 x2 x3 ((zh2 x1 x2 x3 i0)/\True))/\∀(i1:Nat),zh2 x1 x2 x3 i1->j4z x0 x1 x2 x3 i1 x5
end
def zau(n:Nat) (S:List AT) (x:SV) (a:AT) (v:GV):qla P (qgc [(22,z5o),(10,z3j.below zjn n)]) Try.f23 (z7f.below zou (n+1)) (zi8) ⟨S,x,a,v⟩=(zou (S,x,a,v)<n+1/\small S/\z1n S/\length (AT.fs a)<1000000/\PV.sm (GV.pv v)/\isQ (AT.k a)=true->(∃(p:Pub),z3u x v a S p)->(Ji (AT.k a=9) (zty x v a S) (Ji (AT.k a=13) (((!decide ((z2l v)=(z7a v)))=true->inF S a v=false/\True)/\((!decide ((z2l v)=(z7a v)))=false->(∃(s:Nat),(↑s:Int)=0/\z9t x v a S ((z9n v (∀(h:0<s) (h2:s<=length (GV.ks v)),vld (GV.ks v)[s- 1]=true) s)/\True))/\∀(s:Nat),(z9n v (∀(h:0<s) (h2:s<=length (GV.ks v)),vld (GV.ks v)[s- 1]=true) s)->Ji ((↑s:Int)<(z7a v)) ((0<=(↑s:Int)/\(↑s:Int)<(z7a v))/\(GV.y v).1≠noA/\∃(s_1:ByteArray),zno x v a S s s_1/\s_1=s_1/\size s_1<9223372036854775808/\((!vld s_1)=true->zu2 v a S s_1)/\((!vld s_1)=false->(!vld s_1)= !vld s_1/\(!vld s_1)= !vld s_1/\Ji (0<(↑s:Int)) (z14 s/\z14 s/\z14 s/\(0<=(↑s:Int)/\(↑s:Int)<(z7a v))/\(GV.y v).1≠noA/\z14 s/\∃(s_2:ByteArray),zno x v a S s s_2/\z14 s/\z14 s/\z14 s/\z14 s/\Jb ((↑s:Int)- 1)/\z14 s/\(0<=(↑s:Int)- 1/\(↑s:Int)- 1<(z7a v))/\(GV.y v).1≠noA/\z14 s/\∃(s_3:ByteArray),(∀(p:Pub),z3u x v a S p->q3i p (adr (GV.y v).1 (toNat ((↑s:Int)- 1)*1)) [string s_3])/\z14 s/\(!vld s_1)= !vld s_1/\Ji (0<(↑s:Int)) (((!vld s_1)=true->inF S a v=false/\True)/\((!vld s_1)=false->((qeq s_2 s_3||decide (s_2=s_3))=true->inF S a v=false/\True)/\((qeq s_2 s_3||decide (s_2=s_3))=false->zdg s/\∃(s_4:Nat),(↑s_4:Int)=(↑s:Int)+1/\z9t x v a S ((z9n v (∀(h:0<s_4) (h2:s_4<=length (GV.ks v)),vld (GV.ks v)[s_4- 1]=true) s_4)/\zh3 v s_4 s)))) (((!vld s_1)=true->inF S a v=false/\True)/\((!vld s_1)=false->zdg s/\∃(s_4:Nat),(↑s_4:Int)=(↑s:Int)+1/\z9t x v a S ((z9n v (∀(h:0<s_4) (h2:s_4<=length (GV.ks v)),vld (GV.ks v)[s_4- 1]=true) s_4)/\zh3 v s_4 s)))) (z14 s/\z14 s/\z14 s/\z14 s/\z14 s/\z14 s/\z14 s/\z14 s/\z14 s/\z14 s/\z14 s/\(!vld s_1)= !vld s_1/\Ji (0<(↑s:Int)) (znn v a S s_1) (((!vld s_1)=true->inF S a v=false/\True)/\((!vld s_1)=false->zdg s/\∃(s_2:Nat),(↑s_2:Int)=(↑s:Int)+1/\z9t x v a S ((z9n v (∀(h:0<s_2) (h2:s_2<=length (GV.ks v)),vld (GV.ks v)[s_2- 1]=true) s_2)/\zh3 v s_2 s)))))) (∃(s:Unit),z9t x v a S ((zdh v a)/\True)))) (j4r x v a S n)))/\∀(s:Unit),zdh v a->j4y x v a S n):=by kernel_rfl
def zei:=λn S x a v=>Eq.trans (zau n S x a v) (by delta Ji Jb Jt Jf z3u z2l z9t zdh zty z7a z9n zno znn zu2 z14 zdg zh3 z3t z79 z7b z2k zh4 znm znl j4x ztz j4w j4v zu0 j4u j4t zu1 j4s j4r zh2 ztw ztx ztv ztu j4z j4y;exact rfl)
def zav:q3m P 21 zug:=by
 refine qld mixed z0o (W:=λ_=>{}) Try.func21 (by kernel_rfl) (by decide) (by decide) (λs=>by kernel_rfl) λ⟨(x:SV),(t:Int)⟩=>(zj8 x t).mpr ?_
 intro _
 simp only[sbS,Int.toNat_natCast]
 refine⟨λh=> ?_,λh=> ?_⟩
 ·rw[decide_eq_true h];rfl
 ·rw[decide_eq_false h];rfl
def za2:∀x y:List UInt8,(Op.bytesLess x y||decide (x=y))= !Op.bytesLess y x
  | [],[]=>by simp[Op.bytesLess]
  | [],b::y=>by simp[Op.bytesLess]
  |a::x,[]=>by simp[Op.bytesLess]
  | a ::x,b::y=>by
    have ih:=za2 x y
    rw[Op.bytesLess,Op.bytesLess]
    have tri:a<b\/a=b\/b<a:=by
      rcases Nat.lt_trichotomy a.toNat b.toNat with h|h|h
      · exact .inl (UInt8.lt_iff_toNat_lt.2 h)
      · exact .inr (.inl (UInt8.toNat_inj.1 h))
      · exact .inr (.inr (UInt8.lt_iff_toNat_lt.2 h))
    rcases tri with h|h|h
    · have h2:¬b<a:=UInt8.lt_asymm h
      have h3:¬b=a:=λe=>by subst e;exact UInt8.lt_irrefl _ h
      simp[h,h2,h3]
    · subst h
      have h2:¬a<a:=UInt8.lt_irrefl a
      simp[h2]
      rw[←ih]
    · have h2:¬a<b:=UInt8.lt_asymm h
      have h3:¬a=b:=λe=>by subst e;exact UInt8.lt_irrefl _ h
      simp[h,h2,h3]
def zbn(x y:ByteArray):(qeq x y=true\/x=y)↔qeq y x=false:=by
 have h:=za2 x.toList y.toList
 have e:=qjd x y
 unfold qeq
 by_cases hxy:x=y
 ·have:x.toList=y.toList:=by rw[hxy]
  rw[decide_eq_true this,Bool.or_true]at h
  simp[hxy]
  rw[hxy]at h
  simpa using h.symm
 ·have:¬x.toList=y.toList:=λg=>by rw[g]at e;simp at e;exact hxy e
  rw[decide_eq_false this,Bool.or_false]at h
  rw[h];simp[hxy]
def zej (n:Nat) (hf:q3m P 10 (z3j.below zjn n)):q3m P 23 (z7f.below zou (n+1)):=by
  refine qld mixed (qdw (qhr z60 (qhr hf qkx))) (W:=zi8) Try.func23 (by kernel_rfl) (show 1<=1 by decide) (show 1<=1 by decide) (λs=>by kernel_rfl) λ⟨S,(x:SV),a,v⟩=>(zei n S x a v).mpr ?_
  rintro⟨hmu,hS,hkS,haf,hv,hq⟩ ⟨p,_,hx,ha,hvo⟩
  have hmu:SizeOf.sizeOf v<n+1:=hmu
  have xl:=GV.x_len hvo
  have yl:=GV.y_len hvo
  have fl:a.f.2.1=a.fs.length:=ha.2.2.1.1
  have bl:a.br.2.1=a.brs.length:=ha.2.2.2.1.1
  have hvs:=hv
  rw[GV.sm_eq]at hvs
  obtain⟨_,_,vl,kl,hsz,_⟩:=hvs
  have txs:∀q,v.ok q->slP txV v.y v.ks q:=λq h=>by rw[GV.ok_eq]at h;exact h.2.1
  simp only[sbS,exists_const,forall_const,Int.toNat_natCast,xl,yl,fl,bl,Bool.or_eq_true,Bool.or_eq_false_iff]
  have bad:okQ a v.l.length v.ks v.b=false->inF S a v=false:=λh=>by unfold inF;rw[h];rfl
  have child:∀{j:Nat} (hj:j<v.l.length),SizeOf.sizeOf v.l[j]<n:=λ{j} hj=>by
    have h1:=zka hj
    have:SizeOf.sizeOf v.l<SizeOf.sizeOf v:=by cases v;simp[GV.l];omega
    omega
  have fdrop:∀{j:Nat} (hj:j<v.l.length),PV.fitL S (z2u a v.b) j ((GV.pvs v.l).drop j)=(PV.fits S (z2u a v.b j) (v.l[j]).pv&&PV.fitL S (z2u a v.b) (j+1) ((GV.pvs v.l).drop (j+1))):=λ{j} hj=>by
    have:=zak (S:=S) (f:=z2u a v.b) (l:=GV.pvs v.l) (j:=j) (by rw[GV.pvs_len];exact hj)
    rw[zpm hj]at this;exact this
  have fend:PV.fitL S (z2u a v.b) v.l.length ((GV.pvs v.l).drop v.l.length)=true:=by
    rw[List.drop_of_length_le (by rw[GV.pvs_len];exact Nat.le_refl _),PV.fitL]
  have ok9:a.k=9->okQ a v.l.length v.ks v.b=decide (v.l.length=a.fs.length):=λh=>by unfold okQ;rw[if_pos h]
  have ok14:a.k=14->okQ a v.l.length v.ks v.b=decide (0<=v.b/\v.b<a.brs.length/\v.l.length=1):=λh=>by unfold okQ;rw[if_neg (by omega),if_pos h]
  have ok13:a.k=13->okQ a v.l.length v.ks v.b=(decide (v.l.length=v.ks.length)&&z3w v.ks):=λh=>by unfold okQ;rw[if_neg (by omega),if_neg (by omega),if_pos h]
  have ok12:¬a.k=9->¬a.k=13->¬a.k=14->okQ a v.l.length v.ks v.b=true:=λh1 h2 h3=>by unfold okQ;rw[if_neg h1,if_neg h3,if_neg h2]
  refine⟨⟨λh9=>⟨λh=>bad (by rw[ok9 h9];exact decide_eq_false (by omega)),λh=>⟨by omega,by rw[ok9 h9];exact decide_eq_true (by omega)⟩⟩,λh9=>⟨λh13=>⟨λh=>bad (by rw[ok13 h13,decide_eq_false (by omega)];rfl),λh=>⟨⟨0,rfl,Nat.zero_le _,rfl,λh=>absurd h (by omega)⟩,?_⟩⟩,λh13=>⟨λh14=> ?_,λh14=>⟨h14,ok12 h9 h13 h14⟩⟩⟩⟩,?_⟩
  · rintro j ⟨hj,hk,hvv⟩
    have bad13:z3w v.ks=false->inF S a v=false:=λg=>bad (by rw[ok13 h13,g,Bool.and_false])
    refine⟨λhlt=> ?_,λhge=>⟨by omega,?_⟩⟩
    · have hjk:j<v.ks.length:=by omega
      have tx:=λq (hq:z09 S x q/\a.ok q/\v.ok q)=>zkh (txs q hq.2.2) hjk
      have hsj:=hsz _ (List.getElem_mem hjk)
      have bv:vld v.ks[j]=false->inF S a v=false:=λhb=>bad13 (z7q hjk hb)
      have t0:=tx p ⟨hx,ha,hvo⟩
      refine⟨⟨by omega,by omega⟩,t0.1,v.ks[j],λq hq=>(tx q hq).2,hsj,λhb=>⟨λ_=>bv hb,λh=>by rw[hb]at h;cases h⟩,λhg=>⟨λh0=> ?_,λh0=>⟨λh=>absurd h h0,λ_=>⟨λhb=>bv hb,λ_=> ?_⟩⟩⟩⟩
      · have hj1:j- 1<v.ks.length:=by omega
        have e:((j:Int)- 1).toNat=j- 1:=by omega
        rw[e]
        have tx1:=λq (hq:z09 S x q/\a.ok q/\v.ok q)=>zkh (txs q hq.2.2) hj1
        have kd:=zax (ks:=v.ks) (j:=j- 1) (by omega)
        simp only[show j- 1+1=j by omega]at kd
        rw[if_neg (by omega)]at hk
        refine⟨⟨by omega,by omega⟩,t0.1,v.ks[j],λq hq=>(tx q hq).2,⟨by omega,by omega⟩,⟨by omega,by omega⟩,t0.1,v.ks[j- 1],λq hq=>(tx1 q hq).2,λ_=>⟨λhb=>bv hb,λ_=>⟨λhl=> ?_,λhl=> ?_⟩⟩,λh=>absurd h0 h⟩
        · have:=(zbn _ _).1 hl
          exact bad13 (by rw[hk,kd,this,Bool.and_false];rfl)
        · have:qeq v.ks[j- 1] v.ks[j]=true:=by
            cases hb:qeq v.ks[j- 1] v.ks[j]with
            |true=>rfl
            | false=>
              rcases(zbn _ _).2 hb with g|g
              · rw[hl.1]at g;cases g
              · exact absurd g hl.2
          refine⟨⟨by omega,by omega⟩,j+1,by omega,⟨by omega,?_,λ_ _=>hg⟩,by omega⟩
          rw[if_neg (by omega),Nat.add_sub_cancel,hk,kd,this,hvv (by omega) (by omega)];rfl
      · obtain rfl:j=0:=by omega
        exact⟨⟨by omega,by omega⟩,1,rfl,⟨by omega,by simp,λ_ _=>hg⟩,by omega⟩
    · obtain rfl:j=v.ks.length:=by omega
      have:z3w v.ks=true:=by
        by_cases h0:v.ks.length=0
        · rw[List.length_eq_zero_iff]at h0;rw[h0,z3w]
        · rw[if_neg h0]at hk
          have:=hvv (by omega) (Nat.le_refl _)
          rw[hk,List.drop_eq_getElem_cons (by omega),show v.ks.length- 1+1=v.ks.length by omega,List.drop_length,z3w]
          exact this
      rw[ok13 h13,this,Bool.and_true];exact decide_eq_true (by omega)
  · have bd:¬(0<=v.b/\v.b<a.brs.length/\v.l.length=1)->inF S a v=false:=λh=>bad (by rw[ok14 h14];exact decide_eq_false h)
    refine⟨λd1=>⟨λ_=>⟨λd2=>⟨λ_=>⟨λd3=> ?_,λd3=>⟨λh=>d3 h,λ_=>bd (by omega)⟩⟩,λh=>absurd d2 h⟩,λd2=>⟨λh=>d2 h,λ_=>bd (by omega)⟩⟩,λh=>absurd d1 h⟩,λd1=>⟨λh=>d1 h,λ_=>bd (by omega)⟩⟩
    have hl1:v.l.length=1:=by omega
    have h0:0<v.l.length:=by omega
    obtain⟨b,hb⟩:=Int.eq_ofNat_of_zero_le d1
    have hbl:b<a.brs.length:=by omega
    have hbt:v.b.toNat=b:=by omega
    rw[hbt]
    have hty:z2u a v.b 0=a.brs[b]:=by
      unfold z2u
      rw[if_neg h9,if_pos h14,hbt,List.getD_eq_getElem?_getD,List.getElem?_eq_getElem hbl];rfl
    have hd:=fdrop h0
    have fe:=fend
    rw[hl1]at fe
    rw[List.drop_zero,hty,Nat.zero_add,fe,Bool.and_true]at hd
    have hin:inF S a v=PV.fits S a.brs[b] (v.l[0]).pv:=by
      unfold inF;rw[ok14 h14,decide_eq_true ⟨d1,d2,hl1⟩,hd];rfl
    refine⟨⟨by omega,by omega⟩,(z7e ha hbl).1,a.brs[b],λq hq=>(z7e hq.2.1 hbl).2,⟨by omega,by omega⟩,(GV.cells_at hvo h0).1,v.l[0].n,v.l[0].s,v.l[0].x.1,v.l[0].x.2.1,v.l[0].x.2.2,v.l[0].y.1,v.l[0].y.2.1,v.l[0].y.2.2,v.l[0].b,λq hq=>(GV.cells_at hq.2.2 h0).2,⟨S,x,a.brs[b],v.l[0]⟩,rfl,rfl,rfl,rfl,rfl,rfl,rfl,rfl,rfl,rfl,rfl,rfl,rfl,⟨child h0,hS,hkS,GV.sm_at hv h0⟩,λq hq=>⟨hq.1,GV.ok_at hq.2.2 h0⟩,?_⟩
    exact⟨λ_=>hin,λh=>absurd d3 h⟩
  · rintro⟨h14,hok⟩
    refine⟨⟨0,rfl,Nat.zero_le _,by simp⟩,?_⟩
    rintro j ⟨hj,ht⟩
    refine⟨λhlt=> ?_,λhge=> ?_⟩
    · have hjl:j<v.l.length:=by omega
      have hd:=fdrop hjl
      refine⟨⟨λh9=> ?_,λh9=>by unfold z2u;rw[if_neg h9,if_neg h14]⟩,⟨by omega,by omega⟩,(GV.cells_at hvo hjl).1,v.l[j].n,v.l[j].s,v.l[j].x.1,v.l[j].x.2.1,v.l[j].x.2.2,v.l[j].y.1,v.l[j].y.2.1,v.l[j].y.2.2,v.l[j].b,λq hq=>(GV.cells_at hq.2.2 hjl).2,⟨S,x,z2u a v.b j,v.l[j]⟩,rfl,rfl,rfl,rfl,rfl,rfl,rfl,rfl,rfl,rfl,rfl,rfl,rfl,⟨child hjl,hS,hkS,GV.sm_at hv hjl⟩,λq hq=>⟨hq.1,GV.ok_at hq.2.2 hjl⟩,λhb=> ?_,λhb=>⟨⟨by omega,by omega⟩,j+1,by omega,⟨by omega,?_⟩,by omega⟩⟩
      · have hjf:j<a.fs.length:=by
          rw[ok9 h9]at hok;have:=of_decide_eq_true hok;omega
        have fa:=λq (hq:z09 S x q/\a.ok q/\v.ok q)=>zap hq.2.1 hjf
        refine⟨⟨by omega,by omega⟩,(fa p ⟨hx,ha,hvo⟩).1,a.fs[j].ty,λq hq=> ?_,by unfold z2u;rw[if_pos h9,List.getElem?_eq_getElem hjf]⟩
        intro i w hi
        cases i with
        |zero=>have:=(fa q hq).2 2 w hi;rw[Addr.add_add];exact this
        |succ i=>simp at hi
      · unfold inF;rw[←ht,hd,hb,Bool.false_and,Bool.and_false]
      · rw[←ht,hd,hb,Bool.true_and]
    · obtain rfl:j=v.l.length:=by omega
      unfold inF
      rw[hok,←ht,fend];rfl
def ze9(n:Nat) (hf:q3m P 23 (z7f.below zou (n+1))):q3m P 10 (z3j.below zjn (n+1)):=by
  refine qld mixed (qdw (qhr zav (qhr z60 (qhr hf qkx)))) (W:=zi6) Try.func10 (by kernel_rfl) (show 1<=1 by decide) (show 1<=1 by decide) (λs=>by kernel_rfl) λ⟨S,(x:SV),(t:Int),v⟩=>(ze8 n S x t v).mpr ?_
  rintro⟨hmu,hS,hkS,hv⟩ ⟨p,_,hx,hvo⟩
  have hmu:SizeOf.sizeOf v<n+1:=hmu
  have xl:=GV.x_len hvo
  have yl:=GV.y_len hvo
  have sl:x.2.1=S.length:=hx.1.1
  have hvs:=hv
  rw[GV.sm_eq]at hvs
  obtain⟨hn,hs,vl,kl,hsz,_⟩:=hvs
  simp only[sbS,exists_const,forall_const,Int.toNat_natCast,xl,yl,sl]
  have hfit:PV.fits S t v.pv=if t<0\/S.length<=t then false else match S[t.toNat]? with
    |none=>false
    | some a=>if isN a.k=true then okN a v.n&&decide (v.s.size=0)&&z5g v.l.length v.ks.length v.b else
      if isT a.k=true then okT a v.s&&decide (v.n=0)&&z5g v.l.length v.ks.length v.b else
      if isQ a.k=true then okP a v.l.length v.ks v.b&&PV.fitL S (z2u a v.b) 0 (GV.pvs v.l)&&decide (v.n=0)&&decide (v.s.size=0)else false:=by
    rw[GV.pv_eq,PV.fits,GV.pvs_len]<;>rfl
  refine⟨⟨x,t⟩,rfl,sl,rfl,rfl,?_⟩
  simp only[sl]
  refine⟨λh=> ?_,λh=> ?_⟩
  · rw[hfit,if_pos]
    by_cases h1:0<=t
    · rw[decide_eq_true h1,Bool.true_and]at h;have:=of_decide_eq_false h;omega
    · omega
  rw[Bool.and_eq_true,decide_eq_true_eq,decide_eq_true_eq]at h
  obtain⟨j,rfl⟩:=Int.eq_ofNat_of_zero_le h.1
  have hj:j<S.length:=by omega
  have hae:atS S (j:Int)=S[j]:=by unfold atS;rw[Int.toNat_natCast,List.getElem?_eq_getElem hj];rfl
  rw[if_neg (by omega)]at hfit
  rw[hae]
  simp only[Int.toNat_natCast,List.getElem?_eq_getElem hj]at hfit⊢
  have hat:=λq (hq:z09 S x q/\v.ok q)=>zc1 hq.1 hj
  have hao:=λq (hq:z09 S x q/\v.ok q)=>hq.1.2 S[j] (List.getElem_mem hj)
  have hsm:=hS.2 S[j] (List.getElem_mem hj)
  have hkk:=hkS S[j] (List.getElem_mem hj)
  have syl:S[j].sy.2.1=S[j].sys.length:=(hao p ⟨hx,hvo⟩).2.1.1
  refine⟨⟨by omega,by omega⟩,(hat p ⟨hx,hvo⟩).1,S[j].k,S[j].nm,S[j].al.1,S[j].al.2.1,S[j].al.2.2,S[j].it,S[j].sy.1,S[j].sy.2.1,S[j].sy.2.2,S[j].hd,S[j].df,S[j].sz,S[j].f.1,S[j].f.2.1,S[j].f.2.2,S[j].br.1,S[j].br.2.1,S[j].br.2.2,λq hq=>(hat q hq).2,?_⟩
  have hao2:=λq (hq:z09 S x q/\v.ok q)=>hao q hq
  generalize S[j]=a at*
  clear hat hao hae
  have w64:IntKind.wrap .i64 v.n=if v.n<9223372036854775808 then v.n else v.n- 18446744073709551616:=by
    unfold IntKind.wrap;simp[IntKind.bits,IntKind.signed];omega
  have u64:IntKind.wrap .u64 (a.sys.length:Int)=a.sys.length:=by rw[zcl];omega
  simp only[syl,u64]
  have kinds:a.k=1\/a.k=2\/a.k=3\/a.k=4\/a.k=5\/a.k=6\/a.k=7\/a.k=8\/a.k=9\/a.k=10\/a.k=11\/a.k=12\/a.k=13\/a.k=14:=by omega
  have hin:isQ a.k=true->z0u S a v=inF S a v:=λh=>by
    unfold isQ at h
    have h:=of_decide_eq_true h
    unfold z0u isN isT
    rw[if_neg (by omega),if_neg (by simp;omega),if_neg (by simp;omega)]
  have hbadB:z8i a v=true↔(a.k≠13/\0<v.ks.length)\/(a.k≠14/\v.b≠0):=by
    unfold z8i;simp
  have hbadF:z8i a v=false↔¬((a.k≠13/\0<v.ks.length)\/(a.k≠14/\v.b≠0)):=by
    rw[←hbadB];simp
  have sE:(v.s=mkS [])↔v.s.size=0:=zjm
  have key:PV.fits S (j:Int) v.pv=(!z8i a v&&z0u S a v&&(nB a.k||decide (v.n=0))&&(isT a.k||decide (v.s=mkS []))&&(isQ a.k||decide (v.l.length=0))):=by
    rw[hfit,Bool.eq_iff_iff]
    by_cases hN:isN a.k=true
    · have hk1:=of_decide_eq_true hN
      have hT:isT a.k=false:=decide_eq_false (by omega)
      have hQ:isQ a.k=false:=decide_eq_false (by omega)
      rw[if_pos hN,hT,hQ]
      have hok:(z0u S a v&&(nB a.k||decide (v.n=0)))=okN a v.n:=by
        unfold z0u
        by_cases h1:a.k=1
        · rw[if_pos h1];unfold nB okN;rw[if_pos h1,decide_eq_false (by omega)];rfl
        · rw[if_neg h1,if_pos hN];unfold nB;rw[decide_eq_true (by omega)];simp
      have e:(!z8i a v&&z0u S a v&&(nB a.k||decide (v.n=0))&&(false||decide (v.s=mkS []))&&(false||decide (v.l.length=0)))=(!z8i a v&&(z0u S a v&&(nB a.k||decide (v.n=0)))&&(false||decide (v.s=mkS []))&&(false||decide (v.l.length=0))):=by simp only[Bool.and_assoc]
      rw[e,hok]
      unfold z5g
      simp only[Bool.and_eq_true,Bool.or_eq_true,Bool.not_eq_true',decide_eq_true_eq,hbadF,sE,Bool.false_eq_true,false_or]
      constructor
      · rintro⟨⟨h1,h2⟩,⟨h3,h4⟩,h5⟩;exact⟨⟨⟨by omega,h1⟩,h2⟩,h3⟩
      · rintro⟨⟨⟨h1,h2⟩,h3⟩,h4⟩;exact⟨⟨h2,h3⟩,⟨h4,by omega⟩,by omega⟩
    · rw [if_neg hN]
      have hN':isN a.k=false:=by simpa using hN
      have nn:nB a.k=false:=by
        have:=of_decide_eq_false hN'
        exact decide_eq_false (by omega)
      by_cases hT:isT a.k=true
      · have hk1:=of_decide_eq_true hT
        have hQ:isQ a.k=false:=decide_eq_false (by omega)
        have hok:z0u S a v=okT a v.s:=by unfold z0u;rw[if_neg (by omega),if_neg hN,if_pos hT]
        rw[if_pos hT,hQ,nn,hT,hok]
        unfold z5g
        simp only[Bool.and_eq_true,Bool.or_eq_true,Bool.not_eq_true',decide_eq_true_eq,hbadF,sE,Bool.false_eq_true,false_or,true_or,and_true]
        constructor
        · rintro⟨⟨h1,h2⟩,⟨h3,h4⟩,h5⟩;exact⟨⟨⟨by omega,h1⟩,h2⟩,h3⟩
        · rintro⟨⟨⟨h1,h2⟩,h3⟩,h4⟩;exact⟨⟨h2,h3⟩,⟨h4,by omega⟩,by omega⟩
      · have hT':isT a.k=false:=by simpa using hT
        have hQ:isQ a.k=true:=by
          have h1:=of_decide_eq_false hT'
          have h2:=of_decide_eq_false hN'
          exact decide_eq_true (by omega)
        have hk1:=of_decide_eq_true hQ
        rw[if_neg hT,if_pos hQ,hQ,nn,hT',hin hQ]
        have hop:okP a v.l.length v.ks v.b=(!z8i a v&&okQ a v.l.length v.ks v.b):=by
          unfold okP okQ
          by_cases hb:v.ks.length>0/\a.k≠13\/v.b≠0/\a.k≠14
          · rw[if_pos hb,hbadB.2 (by omega)];rfl
          · rw[if_neg hb,hbadF.2 (by omega)];rfl
        unfold inF
        rw[hop]
        simp only[Bool.and_eq_true,Bool.or_eq_true,Bool.not_eq_true',decide_eq_true_eq,hbadF,sE,Bool.false_eq_true,false_or,true_or,and_true]
        constructor
        · rintro⟨⟨⟨⟨h1,h2⟩,h3⟩,h4⟩,h5⟩;exact⟨⟨⟨h1,h2,h3⟩,h4⟩,h5⟩
        · rintro⟨⟨⟨h1,h2,h3⟩,h4⟩,h5⟩;exact⟨⟨⟨⟨h1,h2⟩,h3⟩,h4⟩,h5⟩
  have tri:∀k:Int,a.k=k->(isN k=true\/isT k=true)->z0u S a v=(if k=1 then true else if isN k=true then okN a v.n else okT a v.s)/\isT a.k=isT k/\nB a.k=nB k/\isQ a.k=isQ k:=λk hk hh=>by
    subst hk
    refine⟨?_,rfl,rfl,rfl⟩
    unfold z0u
    by_cases h1:a.k=1
    · rw[if_pos h1,if_pos h1]
    · rw[if_neg h1,if_neg h1]
      by_cases hN:isN a.k=true
      · rw[if_pos hN,if_pos hN]
      · rw[if_neg hN,if_neg hN,if_pos (hh.resolve_left hN)]
  have oN:∀k:Int,a.k=k->okN a v.n=(if k=1 then decide (v.n=0)else if k=2 then decide (v.n<=1)else if k=3 then decide (v.n<2147483648\/18446744071562067968<=v.n)else if k=5 then decide (v.n<4294967296)else if k=10 then decide (v.n<a.sys.length)else true):=λk hk=>by subst hk;rfl
  have oT:∀k:Int,a.k=k->okT a v.s=(if k=8 then vld v.s else if k=11 then decide ((v.s.size:Int)=a.sz)else true):=λk hk=>by subst hk;rfl
  clear hfit
  refine⟨⟨λh1=> ?_,λh1=>⟨λh2=> ?_,λh2=>⟨λh3=>⟨λh5=>⟨λ_=> ?_,λh=>absurd h5 h⟩,λh5=>⟨λh=>absurd h h5,λ_=> ?_⟩⟩,λh3=>⟨⟨trivial,λh4=> ?_,λh4=> ?_⟩,λh46=> ?_,λh46=>⟨λh5=> ?_,λh5=>⟨λh10=> ?_,λh10=>⟨λh7=> ?_,λh7=>⟨λh8=>⟨hs,?_⟩,λh8=>⟨λh11=> ?_,λh11=> ?_⟩⟩⟩⟩⟩⟩⟩⟩⟩,⟨λh13=>⟨λhk=> ?_,λhk=>⟨λh14=> ?_,λh14=> ?_⟩⟩,λh13=>⟨λh14=> ?_,λh14=> ?_⟩⟩,λhB=> ?_,λhB=>⟨λho=>⟨λhn'=>⟨λht=>⟨λhq=> ?_,λhq=> ?_⟩,λht=>⟨λhs'=>⟨λhq=> ?_,λhq=> ?_⟩,λhs'=> ?_⟩⟩,λhn'=>⟨λhn0=>⟨λht=>⟨λhq=> ?_,λhq=> ?_⟩,λht=>⟨λhs'=>⟨λhq=> ?_,λhq=> ?_⟩,λhs'=> ?_⟩⟩,λhn0=> ?_⟩⟩,λho=> ?_⟩⟩
  · have:=tri 1 h1 (.inl rfl);exact this
  · have:=tri 2 h2 (.inl rfl);rw[oN 2 h2]at this;exact this
  · have:=tri 3 h3 (.inl rfl);rw[oN 3 h3]at this
    refine⟨this.1.trans ?_,this.2⟩
    show decide (v.n<2147483648\/18446744071562067968<=v.n)=_
    rw[w64]at h5⊢
    split at h5<;>exact zag (by omega)
  · have:=tri 3 h3 (.inl rfl);rw[oN 3 h3]at this
    refine⟨this.1.trans ?_,this.2⟩
    show decide (v.n<2147483648\/18446744071562067968<=v.n)=_
    rw[w64]at h5
    split at h5<;>exact decide_eq_false (by omega)
  · unfold b46;rw[h4];rfl
  · unfold b46;rw[decide_eq_false h4];rfl
  · unfold b46 at h46
    rw[Bool.or_eq_true,decide_eq_true_eq,decide_eq_true_eq]at h46
    rcases h46 with h|h
    · have:=tri 4 h (.inl rfl);rw[oN 4 h]at this;exact this
    · have:=tri 6 h (.inl rfl);rw[oN 6 h]at this;exact this
  · have:=tri 5 h5 (.inl rfl);rw[oN 5 h5]at this;exact this
  · have:=tri 10 h10 (.inl rfl);rw[oN 10 h10]at this;exact this
  · have:=tri 7 h7 (.inr rfl);rw[oT 7 h7]at this;exact this
  · have:=tri 8 h8 (.inr rfl);rw[oT 8 h8]at this;exact this
  · have:=tri 11 h11 (.inr rfl);rw[oT 11 h11]at this;exact this
  · have hb6:¬a.k=4/\¬a.k=6:=by
      unfold b46 at h46
      rw[Bool.or_eq_false_iff,decide_eq_false_iff_not,decide_eq_false_iff_not]at h46;exact h46
    have hQ:isQ a.k=true:=decide_eq_true (by omega)
    refine⟨⟨S,x,a,v⟩,rfl,sl,rfl,rfl,rfl,rfl,rfl,rfl,rfl,rfl,syl,rfl,rfl,rfl,rfl,rfl,rfl,rfl,rfl,rfl,rfl,rfl,rfl,rfl,xl,rfl,rfl,yl,rfl,rfl,⟨hmu,hS,hkS,hsm.1,hv,hQ⟩,λq hq=>⟨hq.1,hao2 q hq,hq.2⟩,hin hQ,decide_eq_false (by unfold isQ at hQ;have:=of_decide_eq_true hQ;omega),decide_eq_false (by unfold isQ at hQ;have:=of_decide_eq_true hQ;omega),hQ⟩
  · exact hbadB.2 (.inl ⟨h13,by omega⟩)
  · by_cases hb:v.b=0
    · rw[decide_eq_true hb];exact hbadF.2 (by omega)
    · rw[decide_eq_false hb];exact hbadB.2 (.inr ⟨h14,hb⟩)
  · exact hbadF.2 (by omega)
  · by_cases hb:v.b=0
    · rw[decide_eq_true hb];exact hbadF.2 (by omega)
    · rw[decide_eq_false hb];exact hbadB.2 (.inr ⟨h14,hb⟩)
  · exact hbadF.2 (by omega)
  · rw[key,hB];rfl
  all_goals first
    | (rw[key,hB,ho,hn',ht,hq];simp[hn0,hs'];done)
    | (rw[key,hB,ho,hn',ht];simp[hn0,hs'];done)
    | (rw[key,hB,ho,hn',ht,hq];simp[hn0];done)
    | (rw[key,hB,ho,hn',ht,hq];simp[hs'];done)
    | (rw[key,hB,ho,hn',ht];simp[hs'];done)
    | (rw[key,hB,ho,hn',ht,hq];simp;done)
    | (rw[key,hB,ho,hn'];simp[hn0];done)
    | (rw[key,hB,ho];simp;done)
def zat:∀n,q3m P 10 (z3j.below zjn n)
 |0=>Ct.below_zero (by decide) (by decide) (Sen.enters_of Try.func10 (by kernel_rfl)) λs=>⟨rfl,rfl⟩
 |n+1=>ze9 n (zej n (zat n))
def zan:q3m P 10 z3j:=Ct.of_below zat
def nmO(N:List ByteArray) (r k:Nat):List (Nat×AO):=[(2, .cells 35 (some 0) false [.ssl r 0 N.length 1 k]),(r, .row 9 0 (z00 txV N))]
abbrev TrS:=SV×List Int×Int×Int×List ByteArray
abbrev TrB:=GJ×Int×List ByteArray
def zjp(L:List Int) (n:Int) (N:List ByteArray):Prop:=N.length<=n+1/\∀t∈N,t.size<100
def z0v(L:List Int) (n:Int) (N:List ByteArray):TrB->Prop:=λ⟨g,n',N'⟩=>g.wf/\n<=n'/\n'<=L.length/\N.length<=N'.length/\N'.length+n<=N.length+n'/\∀t∈N',t.size<100
def z2g(most:Int):TrS->Prop:=λ⟨x,L,n,d,N⟩=>0<=n/\n<=L.length/\z0p L/\0<=d/\d<=most/\zjp L n N
def trM:TrS->PF:=λ⟨x,L,n,d,N⟩=>byM x L
def z3z:CtR where
 σ:=TrS
 args:=λ⟨x,L,n,d,N⟩=>[.ptr 1 0, .sv (.int .i64 d), .ptr 2 0]
 h:=λ⟨x,L,n,d,N⟩=>pkO x n++nmO N 3 4
 m:=5
 pre:=z2g 4
 mem:=trM
 β:=λ_=>TrB
 post:=λ⟨x,L,n,d,N⟩ b=>z0v L n N b
 pm:=λ_ ⟨g,n',N'⟩=>gM g
 r:=λ_ ⟨g,n',N'⟩=>g.av
 h':=λ⟨x,L,n,d,N⟩ ⟨g,n',N'⟩=>pkO x n'++nmO N' 5 6
 m':=7
def z7i:CtR:={z3z with pre:=z2g 3}
def z1e:CtR where
 σ:=ByteArray×TrS
 args:=λ⟨s,x,L,n,d,N⟩=>[.ptr 1 0, .sv (.string s), .sv (.int .i64 d), .ptr 2 0]
 h:=λ⟨s,x,L,n,d,N⟩=>pkO x n++nmO N 3 4
 m:=5
 pre:=λ⟨s,t⟩=>s.size<100/\z2g 3 t
 mem:=λ⟨s,t⟩=>trM t
 β:=λ_=>TrB
 post:=λ⟨s,x,L,n,d,N⟩ b=>z0v L n N b
 pm:=λ_ ⟨g,n',N'⟩=>gM g
 r:=λ_ ⟨g,n',N'⟩=>g.av
 h':=λ⟨s,x,L,n,d,N⟩ ⟨g,n',N'⟩=>pkO x n'++nmO N' 5 6
 m':=7
def z42:TrS->Nat:=λ⟨x,L,n,d,N⟩=>(10- d).toNat
def zjo:ByteArray×TrS->Nat:=λ⟨s,t⟩=>z42 t
def zqd:TrS->WayF:=λ⟨x,L,n,d,N⟩=>{
  cut :=λi t _=>match i with
    |4=>some {σ:=Int,pre:=λk=>0<=k/\k<20/\(8<=k->d<=3/\n<L.length),t:=λk=>[(7, .sv (.int .i64 k))],h:=λ_=>pkO x (z06 L n),more:=0,μ:=λ_=>0,keep:=[0,1,2,6]}
    | 15=>match slI t 7 with
      |some k=>some {σ:=Unit,pre:=λ_=>14<=k,t:=λ_=>[],h:=λ_=>[],more:=0,μ:=λ_=>0,keep:=[0,1,2,6,7]}
      |none=>none
    |_=>none
  pub:=λi k=>match i,k with
    |8,9=>[42]
    |10,9=>[54]
    |18,9=>[113]
    |20,7=>[120]
    |24,1=>[147]
    |_,_=>[]}
def zig:TrS->WayF:=λ_=>{
 pub:=λi k=>match i,k with
  |7,1=>[40]
  |_,_=>[]}
abbrev RlS:=Int×Int×List ByteArray×List GJ
def zfc(L:List Int) (n0:Int) (N0:List ByteArray) (m:Int):RlS->Prop:=λ⟨i,n,N,fs⟩=>0<=i/\i<=m/\m<5/\(fs.length:Int)=i/\GJ.wfs fs/\n0<=n/\n<=L.length/\N0.length<=N.length/\N.length+n0<=N0.length+n/\∀t∈N,t.size<100
def fsM(fs:List GJ):PF:=⟨true,GJ.oks fs,λ_ _ h e=>GJ.oks_mono h e⟩
def z8g:ByteArray×TrS->WayF:=λ⟨s,x,L,n0,d,N0⟩=>{
 ann:=λ_ t _=>match slI t 11 with
  |some m=>some {σ:=RlS,pre:=zfc L n0 N0 m,mem:=λ⟨i,n,N,fs⟩=>fsM fs,t:=λ⟨i,n,N,fs⟩=>[(10, .sv (.int .i64 i))],h:=λ⟨i,n,N,fs⟩=>pkO x n++nmO N 9 10++[(6, .cells 48 (some 0) false [.int .i64 5, .int .i64 0, .str [], .ssl 7 0 fs.length 5 8, .nsl]),(7, .row 48 0 (z00 GJ.cells fs))],more:=4,μ:=λ⟨i,n,N,fs⟩=>(m- i).toNat,keep:=[0,1,2,3,8,9,11],del:=[3]}
  |none=>none
 pub:=λi k=>match i,k with
  |9,3=>[56]
  |_,_=>[]
 pubE:=[1000008]}
section
variable (x0:Int) (x1:SV) (x2:List Int) (x3:Int) (x4:List ByteArray) (x5:Int) (x6:Nat) (x7:ByteArray) (x8:List Int) (x9:Nat) (x10:List Int) (x11:Nat->Option Obj) (x12:TrB) (x13:TrS) (x14:Nat) (x15:Option Addr) (x16:Prop) (x17:Nat) (x18:TrB) (x19:Value)
 abbrev z1y:=x1.1=x1.1/\x1.2.1=x1.2.1/\x1.2.2=x1.2.2/\x16
 def zdk:=0<x0/\x0<1000000/\z0p x2
 def z9o:=(∀i0,True/\slP byV x1 x2 i0->slP byV (x1.1,x1.2.1,x1.2.2) x8 i0)
 def zdj:=z00 txV x4=z00 txV x4/\length x4=length x4/\(∀i0,True/\slP byV x1 x2 i0->True/\slP byV x1 x2 i0)/\x16
 def zha:=0<=x0/\x0<20/\(8<=x0->x3<=3/\x5<(↑(length x2):Int))
 def znp:=(8:Int)≠0/\∃(i0:Int),x0=x0/\i0=Int.tmod (z0r x2 x3 20) 8/\z1y x1 (z06 x8 x3=z06 x2 x3/\zdj x1 x8 x4 ((zha i0 x8 x0 x3)/\True))
 def zny:=GJ.k x12.1=4/\GJ.n x12.1=0/\GJ.s x12.1=x7/\(GJ.y x12.1).1=noA/\(GJ.y x12.1).2.1=0/\(GJ.y x12.1).2.2=0/\(GJ.x x12.1).1=noA/\(GJ.x x12.1).2.1=0/\(GJ.x x12.1).2.2=0/\x16
 def zo0:=z00 txV x12.2.2=z00 txV x4/\length x12.2.2=length x4/\z0v x2 x0 x4 x12/\(∀i0,True/\slP byV x1 x2 i0->GJ.ok x12.1 i0)/\True
 def zu9:=(0<=x0/\x0<(↑(nat_lit 8):Int))/\∃i0,(∀(i1:Nat) (i2:Value),[string i0][i1]? =some i2->[string (mkS [105,110,116]),string (mkS [108,111,110,103]),string (mkS [115,116,114,105,110,103]),string (mkS [98,121,116,101,115]),string (mkS [98,111,111,108,101,97,110]),string (mkS [110,117,108,108]),string (mkS [102,108,111,97,116]),string (mkS [100,111,117,98,108,101])][nat_lit 0+toNat x0*1+i1]? =some i2)/\i0=i0/\True/\∃(i3:TrB),zny i0 i3 (z1y x1 (i3.2.1=z06 x2 x3/\zo0 x3 x1 x2 x4 i3))
 def zo2:=True/\Jb (x0+1)/\x16
 def zh6:=x13.1.1=x1.1/\x13.1.2.1=x1.2.1/\x13.1.2.2=x1.2.2/\x13.2.2.1=z06 x2 x0/\z00 txV x13.2.2.2.2=z00 txV x4/\length x13.2.2.2.2=length x4/\x16
 def zhd:=(∀i0,True/\slP byV x1 x2 i0->slP byV x13.1 x13.2.1 i0)
 def z3v:=(True/\slP byV x1 x2 x11)/\GJ.ok x12.1 x11
 def z4c:=q6f x11 (Addr.add (Addr.mk x6 x9 none) x14)=some x19
 def zns:=((z3v x1 x2 x11 x12)/\∀(i0:Nat) (i1:Value),[int i64 4,int i64 0,string (mkS [97,114,114,97,121]),slice noA 0 0,slice noA 0 0,int i64 (GJ.k x12.1),int i64 (GJ.n x12.1),string (GJ.s x12.1),slice (GJ.y x12.1).1 (GJ.y x12.1).2.1 (GJ.y x12.1).2.2,slice (GJ.x x12.1).1 (GJ.x x12.1).2.1 (GJ.x x12.1).2.2][i0]? =some i1->z4c x6 x9 x11 i0 i1)
 abbrev z4b:=mkS [116,121,112,101]
 def zhc:=GJ.k x12.1=6/\GJ.n x12.1=0/\GJ.s x12.1=mkS []/\x16
 def zo3:=x12.2.1=x18.2.1/\z00 txV x12.2.2=z00 txV x18.2.2/\length x12.2.2=length x18.2.2/\x16
 def znz:=x1.1=x13.1.1/\x1.2.1=x13.1.2.1/\x1.2.2=x13.1.2.2/\zo3 x12 x16 x18
 def znu:=zhc x12 ((GJ.y x12.1).1=some (Addr.mk x6 (x9+nat_lit 0) none)/\(GJ.y x12.1).2.1=nat_lit 2/\(GJ.y x12.1).2.2=nat_lit 2/\(GJ.x x12.1).1=some (Addr.mk x14 (x17+nat_lit 0) none)/\(GJ.x x12.1).2.1=nat_lit 2/\(GJ.x x12.1).2.2=nat_lit 2/\znz x1 x12 x13 x16 x18)
 def zu5:=True/\∀(i0 i1 i2:Nat),(∃i3,(z3v x1 x2 i3 x12)/\q3i i3 (Addr.mk i0 i1 none) [int i64 4,int i64 0,string (mkS [97,114,114,97,121]),slice noA 0 0,slice noA 0 0,int i64 (GJ.k x12.1),int i64 (GJ.n x12.1),string (GJ.s x12.1),slice (GJ.y x12.1).1 (GJ.y x12.1).2.1 (GJ.y x12.1).2.2,slice (GJ.x x12.1).1 (GJ.x x12.1).2.1 (GJ.x x12.1).2.2])->∀(i4 i5 i6:Nat),(∃i7,zns x1 x2 i0 i1 i7 x12/\q3i i7 (Addr.mk i4 i5 none) [string (z4b),string (mkS [105,116,101,109,115])])->∃(i10:TrB),znu x1 i0 i1 i10 x13 i4 (z0v x2 x0 x4 i10/\(∀i11,(zns x1 x2 i0 i1 i11 x12/\∀(i14:Nat) (i15:Value),[string (z4b),string (mkS [105,116,101,109,115])][i14]? =some i15->z4c i4 i5 i11 i14 i15)->GJ.ok i10.1 i11)/\True) i5 x12
 def j59:=mkS [97,114,114,97,121]=mkS [97,114,114,97,121]/\zo2 x0 (∃(i0:TrS),i0.2.2.2.1=x0+1/\zh6 x3 x1 x2 x4 i0 ((z42 i0<x6/\z2g 4 i0)/\zhd x1 x2 i0/\∀(i2:TrB),z0v i0.2.1 i0.2.2.1 i0.2.2.2.2 i2->(∃i3,z3v x1 x2 i3 i2)->zu5 x3 x1 x2 x4 i2 i0))
 def znt:=((z3v x1 x2 x11 x12)/\∀(i0:Nat) (i1:Value),[int i64 4,int i64 0,string (mkS [109,97,112]),slice noA 0 0,slice noA 0 0,int i64 (GJ.k x12.1),int i64 (GJ.n x12.1),string (GJ.s x12.1),slice (GJ.y x12.1).1 (GJ.y x12.1).2.1 (GJ.y x12.1).2.2,slice (GJ.x x12.1).1 (GJ.x x12.1).2.1 (GJ.x x12.1).2.2][i0]? =some i1->z4c x6 x9 x11 i0 i1)
 abbrev zo1:=mkS [118,97,108,117,101,115]
 def zu6:=True/\∀(i0 i1 i2:Nat),(∃i3,(z3v x1 x2 i3 x12)/\q3i i3 (Addr.mk i0 i1 none) [int i64 4,int i64 0,string (mkS [109,97,112]),slice noA 0 0,slice noA 0 0,int i64 (GJ.k x12.1),int i64 (GJ.n x12.1),string (GJ.s x12.1),slice (GJ.y x12.1).1 (GJ.y x12.1).2.1 (GJ.y x12.1).2.2,slice (GJ.x x12.1).1 (GJ.x x12.1).2.1 (GJ.x x12.1).2.2])->∀(i4 i5 i6:Nat),(∃i7,znt x1 x2 i0 i1 i7 x12/\q3i i7 (Addr.mk i4 i5 none) [string (z4b),string (zo1)])->∃(i10:TrB),znu x1 i0 i1 i10 x13 i4 (z0v x2 x0 x4 i10/\(∀i11,(znt x1 x2 i0 i1 i11 x12/\∀(i14:Nat) (i15:Value),[string (z4b),string (zo1)][i14]? =some i15->z4c i4 i5 i11 i14 i15)->GJ.ok i10.1 i11)/\True) i5 x12
 def zu4:=mkS [109,97,112]=mkS [109,97,112]/\zo2 x0 (∃(i0:TrS),i0.2.2.2.1=x0+1/\zh6 x3 x1 x2 x4 i0 ((z42 i0<x6/\z2g 4 i0)/\zhd x1 x2 i0/\∀(i2:TrB),z0v i0.2.1 i0.2.2.1 i0.2.2.2.2 i2->(∃i3,z3v x1 x2 i3 i2)->zu6 x3 x1 x2 x4 i2 i0))
 def znv:=GJ.k x12.1=GJ.k x18.1/\GJ.n x12.1=GJ.n x18.1/\GJ.s x12.1=GJ.s x18.1/\(GJ.y x12.1).1=(GJ.y x18.1).1/\(GJ.y x12.1).2.1=(GJ.y x18.1).2.1/\(GJ.y x12.1).2.2=(GJ.y x18.1).2.2/\(GJ.x x12.1).1=(GJ.x x18.1).1/\(GJ.x x12.1).2.1=(GJ.x x18.1).2.1/\(GJ.x x12.1).2.2=(GJ.x x18.1).2.2/\x16
 def zhf:=0<=z06 x2 x0/\z06 x2 x0<=(↑(length x8):Int)/\x16
 def zu8:=Ji (0<(↑(length x4):Int)) (∃(i0:List Int),(↑(length x4):Int)=(↑(length x4):Int)/\z1y x1 (z06 x2 x0=z06 x2 x0/\(zhf x0 x2 i0 (0<(↑(length x4):Int)/\(↑(length x4):Int)<1000000/\z0p i0))/\z9o x1 x2 i0/\(0<=z0r i0 (z06 x2 x0) (↑(length x4):Int)/\z0r i0 (z06 x2 x0) (↑(length x4):Int)<(↑(length x4):Int))/\∃i2,(∀(i3:Nat) (i4:Value),[string i2][i3]? =some i4->(z00 txV x4)[nat_lit 0+toNat (z0r i0 (z06 x2 x0) (↑(length x4):Int))*nat_lit 1+i3]? =some i4)/\i2=i2/\True/\AV.ssl (nat_lit 3) (nat_lit 0) (length x4) (nat_lit 1) (nat_lit 4)=AV.ssl (nat_lit 3) (nat_lit 0) (length x4) (nat_lit 1) (nat_lit 4)/\∃(i5:TrB),zny i2 i5 (z1y x1 (i5.2.1=z06 i0 (z06 x2 x0)/\zo0 x0 x1 x2 x4 i5)))) (∃(i7:Unit),x3=x3/\x5=x5/\z1y x1 (z06 x2 x0=z06 x2 x0/\zdj x1 x2 x4 (14<=x5/\True)))
 def zu7:=Ji (x0=14) (zu8 x3 x1 x2 x5 x4 x0) (∃(i9:Unit),x5=x5/\x0=x0/\z1y x1 (z06 x2 x3=z06 x2 x3/\zdj x1 x2 x4 (14<=x0/\True)))
 def zu3:=Ji (x0<14) (∃(i0:TrS),i0.2.2.2.1=x3/\zh6 x5 x1 x2 x4 i0 ((z42 i0<x6+1/\z2g 3 i0)/\zhd x1 x2 i0/\∀(i2:TrB),z0v i0.2.1 i0.2.2.1 i0.2.2.2.2 i2->(∃i3,z3v x1 x2 i3 i2)->∃(i4:TrB),znv i4 (znz x1 i4 i0 (z0v x2 x5 x4 i4/\(∀i5,z3v x1 x2 i5 i2->GJ.ok i4.1 i5)/\True) i2) i2)) (zu7 x0 x1 x2 x5 x4 x3)
 def j56:=Ji (x0=10) (zu4 x3 x1 x2 x5 x4 x6) (zu3 x0 x1 x2 x3 x4 x5 x6)
 def j55:=Ji (x0<10) (j59 x3 x1 x2 x5 x4 x6) (j56 x0 x1 x2 x3 x4 x5 x6)
 def znr:=((True/\slP byV x1 x2 x11)/\∀(i0:Nat) (i1:Value),[int i64 4,int i64 0,string (mkS [102,105,120,101,100]),slice noA 0 0,slice noA 0 0,int i64 4,int i64 0,string (mkS [78]++x7),slice noA 0 0,slice noA 0 0,int i64 3,int i64 (z0r x8 (z06 x2 x0) 4),string (mkS []),slice noA 0 0,slice noA 0 0][i0]? =some i1->z4c x6 x9 x11 i0 i1)
 abbrev z9p:=mkS [110,97,109,101]
 def znx:=zhc x12 ((GJ.y x12.1).1=some (Addr.mk x6 (x9+nat_lit 0) none)/\(GJ.y x12.1).2.1=nat_lit 3/\(GJ.y x12.1).2.2=nat_lit 3/\(GJ.x x12.1).1=some (Addr.mk x14 (x17+nat_lit 0) none)/\(GJ.x x12.1).2.1=nat_lit 3/\(GJ.x x12.1).2.2=nat_lit 3/\x16)
 def zh8:=z00 txV x12.2.2=z00 txV x4++[string (mkS [78]++x7)]/\length x12.2.2=length x4+nat_lit 1/\z0v x2 x0 x4 x12/\x16
 def j58:=mkS [102,105,120,101,100]=mkS [102,105,120,101,100]/\True/\mkS [78]++x7=mkS [78]++x7/\True/\∃(i0:List Int),(4:Int)=4/\z1y x1 (z06 x2 x0=z06 x2 x0/\(zhf x0 x2 i0 (zdk 4 i0))/\z9o x1 x2 i0/\True/\∀(i2 i3 i4:Nat),(∃i5,(True/\slP byV x1 x2 i5)/\q3i i5 (Addr.mk i2 i3 none) [int i64 4,int i64 0,string (mkS [102,105,120,101,100]),slice noA 0 0,slice noA 0 0,int i64 4,int i64 0,string (mkS [78]++x7),slice noA 0 0,slice noA 0 0,int i64 3,int i64 (z0r i0 (z06 x2 x0) 4),string (mkS []),slice noA 0 0,slice noA 0 0])->∀(i6 i7 i8:Nat),(∃i9,znr x0 x1 x2 i2 x7 i0 i3 i9/\q3i i9 (Addr.mk i6 i7 none) [string (z4b),string (z9p),string (mkS [115,105,122,101])])->∃(i12:TrB),znx i2 i3 i12 i6 (z1y x1 (i12.2.1=z06 i0 (z06 x2 x0)/\zh8 x0 x2 x4 x7 i12 ((∀i13,(znr x0 x1 x2 i2 x7 i0 i3 i13/\∀(i16:Nat) (i17:Value),[string (z4b),string (z9p),string (mkS [115,105,122,101])][i16]? =some i17->z4c i6 i7 i13 i16 i17)->GJ.ok i12.1 i13)/\True))) i7)
 def zdi:=(True/\slP byV x1 x2 x11)/\∀(i0:Nat) (i1:Value),[int i64 4,int i64 0,string (mkS [88]),slice noA 0 0,slice noA 0 0,int i64 4,int i64 0,string (mkS [89]),slice noA 0 0,slice noA 0 0,int i64 4,int i64 0,string (mkS [90]),slice noA 0 0,slice noA 0 0][i0]? =some i1->z4c x6 x9 x11 i0 i1
 abbrev zhe:=mkS [101,110,117,109]
 abbrev zhb:=slA (some (Addr.mk x6 (x9+nat_lit 0) none)) (nat_lit 3) (nat_lit 0) 5
 abbrev zh7:=Int.rec (λ(i0:Nat)=>(λ(i1:Nat)=>(λ(i2:Nat)=>i2) i1) i0) (λ(i3:Nat)=>(λ(i4:Nat)=>(λ(i5:Nat)=>(0:Nat)) i4) i3) ((1:Int)+z0r x2 (z06 x8 x0) 3)- nat_lit 0
 def zh5:=(zdi x1 x2 x6 x9 x11)/\nat_lit 4<=x14/\qhu x11 x15 (take (nat_lit 4*nat_lit 5) ([int i64 4,int i64 0,string (zhe),slice noA 0 0,slice noA 0 0,int i64 4,int i64 0,string (mkS [78]++x7),slice noA 0 0,slice noA 0 0,int i64 5,int i64 0,string (mkS []),slice (zhb x6 x9) (zh7 x0 x8 x2) (nat_lit 3- nat_lit 0),slice noA 0 0]++[int i64 4,int i64 0,string (mkS [88]),slice noA 0 0,slice noA 0 0]))
 abbrev zh9:=mkS [115,121,109,98,111,108,115]
 abbrev znw:=take (nat_lit 4*nat_lit 1) ([string (z4b),string (z9p),string (zh9)]++[string (mkS [100,101,102,97,117,108,116])])
 def j57:=(nat_lit 3+1)*16<=140737488355328/\mkS [88]=mkS [88]/\True/\(nat_lit 3+1)*80<=140737488355328/\∀(i0 i1 i2:Nat) (i3:Option Addr) (i4 i5:Nat),(∃i6,zh5 x0 x1 x2 x6 x7 x8 x9 i6 i5 i3)->∀(i15 i16 i17:Nat) (i18:Option Addr) (i19 i20:Nat),(∃i21,(zh5 x0 x1 x2 x6 x7 x8 x9 i21 i5 i3)/\nat_lit 4<=i20/\qhu i21 i18 (znw))->∃(i30:TrB),zhc i30 ((GJ.y i30.1).1=i3/\(GJ.y i30.1).2.1=nat_lit 4/\(GJ.y i30.1).2.2=i5/\(GJ.x i30.1).1=i18/\(GJ.x i30.1).2.1=nat_lit 4/\(GJ.x i30.1).2.2=i20/\z1y x1 (i30.2.1=z06 x10 (z06 x8 (z06 x2 x0))/\zh8 x0 x2 x4 x7 i30 ((∀i31,(zh5 x0 x1 x2 x6 x7 x8 x9 i31 i5 i3)/\nat_lit 4<=i20/\qhu i31 i18 (znw)->GJ.ok i30.1 i31)/\True)))
 def znq:=((zdi x1 x2 x6 x9 x11)/\∀(i0:Nat) (i1:Value),[int i64 4,int i64 0,string (zhe),slice noA 0 0,slice noA 0 0,int i64 4,int i64 0,string (mkS [78]++x7),slice noA 0 0,slice noA 0 0,int i64 5,int i64 0,string (mkS []),slice (zhb x6 x9) (zh7 x0 x8 x2) (nat_lit 3- nat_lit 0),slice noA 0 0][i0]? =some i1->z4c x14 x17 x11 i0 i1)
 def j54:=nat_lit 3<=nat_lit 3/\((0:Int)<=1+z0r x2 (z06 x8 x0) 3/\(1:Int)+z0r x2 (z06 x8 x0) (3:Int)<=(↑(nat_lit 3):Int))/\mkS [101,110,117,109]=mkS [101,110,117,109]/\True/\mkS [78]++x7=mkS [78]++x7/\True/\True/\∃(i0:List Int),(2:Int)=2/\z1y x1 (z06 x2 (z06 x8 x0)=z06 x2 (z06 x8 x0)/\(0<=z06 x2 (z06 x8 x0)/\z06 x2 (z06 x8 x0)<=(↑(length i0):Int)/\zdk 2 i0)/\(∀i1,(zdi x1 x8 x6 x9 i1)->slP byV (x1.1,x1.2.1,x1.2.2) i0 i1)/\Ji (z0r i0 (z06 x2 (z06 x8 x0)) (2:Int)=0) (j57 x0 x1 x8 x4 x6 x7 x2 x9 i0) (∀(i44 i45 i46:Nat),(∃i47,(zdi x1 x8 x6 x9 i47)/\q3i i47 (Addr.mk i44 i45 none) [int i64 4,int i64 0,string (zhe),slice noA 0 0,slice noA 0 0,int i64 4,int i64 0,string (mkS [78]++x7),slice noA 0 0,slice noA 0 0,int i64 5,int i64 0,string (mkS []),slice (zhb x6 x9) (zh7 x0 x2 x8) (nat_lit 3- nat_lit 0),slice noA 0 0])->∀(i56 i57 i58:Nat),(∃i59,znq x0 x1 x8 x6 x7 x2 x9 i59 i44 i45/\q3i i59 (Addr.mk i56 i57 none) [string (z4b),string (z9p),string (zh9)])->∃(i70:TrB),znx i44 i45 i70 i56 (z1y x1 (i70.2.1=z06 i0 (z06 x2 (z06 x8 x0))/\zh8 x0 x8 x4 x7 i70 ((∀i71,(znq x0 x1 x8 x6 x7 x2 x9 i71 i44 i45/\∀(i82:Nat) (i83:Value),[string (z4b),string (z9p),string (zh9)][i82]? =some i83->z4c i56 i57 i71 i82 i83)->GJ.ok i70.1 i71)/\True))) i57))
 def j53:=mkS [88]=mkS [88]/\True/\mkS [89]=mkS [89]/\True/\mkS [90]=mkS [90]/\True/\∃(i0:List Int),(3:Int)=3/\z1y x1 (z06 x2 x0=z06 x2 x0/\(zhf x0 x2 i0 (zdk 3 i0))/\z9o x1 x2 i0/\((-9223372036854775808:Int)<=1+z0r i0 (z06 x2 x0) 3/\(1:Int)+z0r i0 (z06 x2 x0) (3:Int)<=9223372036854775807)/\∀(i2 i3 i4:Nat),(∃i5,(True/\slP byV x1 x2 i5)/\q3i i5 (Addr.mk i2 i3 none) [int i64 4,int i64 0,string (mkS [88]),slice noA 0 0,slice noA 0 0,int i64 4,int i64 0,string (mkS [89]),slice noA 0 0,slice noA 0 0,int i64 4,int i64 0,string (mkS [90]),slice noA 0 0,slice noA 0 0])->j54 x0 x1 i0 x4 i2 x7 x2 i3)
 def j52:=Ji (x0=16) (j53 x3 x1 x2 x4 x7) (∃(i90:ByteArray×TrS),i90.1=mkS [78]++x7/\i90.2.2.2.2.1=x5/\i90.2.1.1=x1.1/\i90.2.1.2.1=x1.2.1/\i90.2.1.2.2=x1.2.2/\i90.2.2.2.1=z06 x2 x3/\z00 txV i90.2.2.2.2.2=z00 txV x4++[string (mkS [78]++x7)]/\length i90.2.2.2.2.2=length x4+nat_lit 1/\(zjo i90<x6+1/\size i90.1<100/\z2g 3 i90.2)/\(∀i91,True/\slP byV x1 x2 i91->slP byV i90.2.1 i90.2.2.1 i91)/\∀(i92:TrB),z0v i90.2.2.1 i90.2.2.2.1 i90.2.2.2.2.2 i92->(∃i93,z3v x1 x2 i93 i92)->∃(i94:TrB),znv i94 (x1.1=i90.2.1.1/\x1.2.1=i90.2.1.2.1/\x1.2.2=i90.2.1.2.2/\zo3 i94 (z0v x2 x3 x4 i94/\(∀i95,z3v x1 x2 i95 i92->GJ.ok i94.1 i95)/\True) i92) i92)
 def j51:=(26:Int)≠0/\((-9223372036854775808:Int)<=97+Int.tmod (↑(length x4):Int) 26/\(97:Int)+Int.tmod (↑(length x4):Int) (26:Int)<=9223372036854775807)/\∃i0,size i0=1/\qhj [int u8 (IntKind.wrap u8 ((97:Int)+Int.tmod (↑(length x4):Int) 26))] 0 (q1c i0)/\size (mkS [78])+size i0<=9223372036854775807/\length (z00 txV x4)=length x4*1/\(length x4+nat_lit 1)*16<=140737488355328/\Ji (x0=15) (j58 x3 x1 x2 x4 i0) (j52 x0 x1 x2 x3 x4 x5 x6 i0)
 def j50:=(Ji (x0<8) (zu9 x0 x1 x2 x3 x4) (j55 x0 x1 x2 x5 x4 x3 x6))/\∀(i62:Unit),14<=x0->j51 x0 x1 x2 x3 x4 x5 x6
end
def zfq(c:Nat) (x:SV) (L:List Int) (n d:Int) (N:List ByteArray):qlb P (qgc [(51,zor),(77,zit),(54,z8n),(53,z4e)]) (qhg [(52,z3z.below z42 c),(78,z7i.below z42 (c+1)),(29,z1e.below zjo (c+1))]) Try.f52 (z3z.below z42 (c+1)) (zqd) ⟨x,L,n,d,N⟩=(z42 (x,L,n,d,N)<c+1/\z2g 4 (x,L,n,d,N)->(∃(p:Pub),True/\slP byV x L p)->∃(b:List Int),(20:Int)=20/\z1y x (n=n/\(0<=n/\n<=(↑(length b):Int)/\zdk 20 b)/\z9o x L b/\(Ji (3<d) (znp d x b n N L) (∃(b_1:List Int),z1y x (z06 b n=z06 b n/\True/\z9o x L b_1/\Ji ((↑(length b_1):Int)<=z06 b n) (znp d x b n N L) (∃(s:Int),d=d/\s=z0r b n 20/\z1y x (z06 L n=z06 b n/\zdj x L N ((zha s L d n)/\True))))))/\∀(s:Int),zha s L d n->j50 s x L n N d c)):=by kernel_rfl
def zkf:=λc x L n d N=>Eq.trans (zfq c x L n d N) (by delta Ji Jb Jt Jf z1y zdk z9o zdj zha znp zny zo0 zu9 zo2 zh6 zhd z3v z4c zns z4b zhc zo3 znz znu zu5 j59 znt zo1 zu6 zu4 znv zhf zu8 zu7 zu3 j56 j55 znr z9p znx zh8 j58 zdi zhe zhb zh7 zh5 zh9 znw j57 znq j54 j53 j52 j51 j50;exact rfl)
section
variable (x0:SV) (x1:Int) (x2:List Int) (x3:Int) (x4:List ByteArray) (x5:Nat) (x6:TrB) (x7:ByteArray) (x8:TrS) (x9:List Int) (x10:TrB) (x11:Prop) (x12:Nat->Option Obj) (x13:Option Addr)
 abbrev zo5:=(2:Int)=2/\x0.1=x0.1/\x0.2.1=x0.2.1/\x0.2.2=x0.2.2/\x11
 def zo7:=(∀i0,True/\slP byV x0 x2 i0->slP byV (x0.1,x0.2.1,x0.2.2) x9 i0)
 abbrev zo9:=Jb (x1+1)
 def zo6:=x8.2.2.2.1=x1+1/\x8.1.1=x0.1/\x8.1.2.1=x0.2.1/\x8.1.2.2=x0.2.2/\x11
 def zo4:=z00 txV x8.2.2.2.2=z00 txV x4/\length x8.2.2.2.2=length x4/\(z42 x8<x5/\z2g 4 x8)/\(∀i0,True/\slP byV x0 x2 i0->slP byV x8.1 x8.2.1 i0)/\x11
 def z5e:=(True/\slP byV x0 x2 x12)/\GJ.ok x6.1 x12
 abbrev z9q:=mkS [110,117,108,108]
 abbrev zv9:=[int i64 4,int i64 0,string (z9q),slice noA 0 0,slice noA 0 0]++[int i64 4,int i64 0,string x7,slice noA 0 0,slice noA 0 0]
 def zx0:=(z5e x0 x2 x6 x12)/\nat_lit 3<=x5/\qhu x12 x13 (take (nat_lit 3*nat_lit 5) ([int i64 4,int i64 0,string (z9q),slice noA 0 0,slice noA 0 0]++[int i64 4,int i64 0,string x7,slice noA 0 0,slice noA 0 0]++[int i64 (GJ.k x6.1),int i64 (GJ.n x6.1),string (GJ.s x6.1),slice (GJ.y x6.1).1 (GJ.y x6.1).2.1 (GJ.y x6.1).2.2,slice (GJ.x x6.1).1 (GJ.x x6.1).2.1 (GJ.x x6.1).2.2]))
 def zdl:=GJ.k x6.1=5/\GJ.n x6.1=0/\GJ.s x6.1=mkS []/\x11
 def zua:=(GJ.x x6.1).1=noA/\(GJ.x x6.1).2.1=0/\(GJ.x x6.1).2.2=0/\x0.1=x8.1.1/\x0.2.1=x8.1.2.1/\x0.2.2=x8.1.2.2/\x6.2.1=x10.2.1/\z00 txV x6.2.2=z00 txV x10.2.2/\length x6.2.2=length x10.2.2/\z0v x2 x1 x4 x6/\x11
 def j5e:=length (zv9 x7)=nat_lit 2*5/\(nat_lit 2+nat_lit 1)*80<=140737488355328/\∀(i0 i1 i2:Nat) (i3:Option Addr) (i4 i5:Nat),(∃i6,zx0 x0 x2 i5 x6 x7 i6 i3)->∃(i7:TrB),zdl i7 ((GJ.y i7.1).1=i3/\(GJ.y i7.1).2.1=nat_lit 3/\(GJ.y i7.1).2.2=i5/\zua x0 x1 x2 x4 i7 x8 x6 ((∀i8,zx0 x0 x2 i5 x6 x7 i8 i3->GJ.ok i7.1 i8)/\True))
 def zo8:=(GJ.y x6.1).1=x13/\(GJ.y x6.1).2.1=nat_lit 2/\(GJ.y x6.1).2.2=x5/\x11
 def j5b:=Ji (GJ.k x6.1=6) (j5e x0 x1 x2 x4 x6 x7 x8) (∀(i9 i10 i11:Nat) (i12:Option Addr) (i13 i14:Nat),(∃i15,(z5e x0 x2 x6 i15)/\nat_lit 2<=i14/\qhu i15 i12 (take (nat_lit 2*nat_lit 5) (zv9 x7)))->∃(i16:TrB),zdl i16 (zo8 i14 i16 (zua x0 x1 x2 x4 i16 x8 x6 ((∀i17,(z5e x0 x2 x6 i17)/\nat_lit 2<=i14/\qhu i17 i12 (take (nat_lit 2*nat_lit 5) (zv9 x7))->GJ.ok i16.1 i17)/\True)) i12))
 def zx1:=(z5e x0 x2 x6 x12)/\nat_lit 2<=x5/\qhu x12 x13 (take (nat_lit 2*nat_lit 5) ([int i64 4,int i64 0,string (z9q),slice noA 0 0,slice noA 0 0]++[int i64 (GJ.k x6.1),int i64 (GJ.n x6.1),string (GJ.s x6.1),slice (GJ.y x6.1).1 (GJ.y x6.1).2.1 (GJ.y x6.1).2.2,slice (GJ.x x6.1).1 (GJ.x x6.1).2.1 (GJ.x x6.1).2.2]))
 def j5f:=(nat_lit 1+1)*80<=140737488355328/\∀(i0 i1 i2:Nat) (i3:Option Addr) (i4 i5:Nat),(∃i6,zx1 x0 x2 i5 x6 i6 i3)->∃(i7:TrB),zdl i7 (zo8 i5 i7 (zua x0 x1 x2 x4 i7 x8 x6 ((∀i8,zx1 x0 x2 i5 x6 i8 i3->GJ.ok i7.1 i8)/\True)) i3)
 def j5d:=Ji (GJ.k x6.1=6) (j5f x0 x1 x2 x4 x6 x8) (∀(i9 i10 i11:Nat),(∃i12,(z5e x0 x2 x6 i12)/\q3i i12 (Addr.mk i9 i10 none) [int i64 4,int i64 0,string (z9q),slice noA 0 0,slice noA 0 0])->∃(i13:TrB),zdl i13 ((GJ.y i13.1).1=some (Addr.mk i9 (i10+nat_lit 0) none)/\(GJ.y i13.1).2.1=nat_lit 1/\(GJ.y i13.1).2.2=nat_lit 1/\zua x0 x1 x2 x4 i13 x8 x6 ((∀i14,((z5e x0 x2 x6 i14)/\∀(i15:Nat) (i16:Value),[int i64 4,int i64 0,string (z9q),slice noA 0 0,slice noA 0 0][i15]? =some i16->q6f i14 (Addr.add (Addr.mk i9 i10 none) i15)=some i16)->GJ.ok i13.1 i14)/\True)))
 def j5c:=zo9 x1/\∃(i0:TrS),zo6 x0 x1 i0 (i0.2.2.1=z06 x2 x3/\zo4 x0 x9 x4 x5 i0 (∀(i2:TrB),z0v i0.2.1 i0.2.2.1 i0.2.2.2.2 i2->(∃i3,z5e x0 x9 i2 i3)->j5d x0 x3 x9 x4 i2 i0))
 def j5a:=mkS [110,117,108,108]=mkS [110,117,108,108]/\True/\∃(i0:List Int),zo5 x0 (x1=x1/\(0<=x1/\x1<=(↑(length i0):Int)/\(0:Int)<2/\(2:Int)<1000000/\z0p i0)/\zo7 x0 x2 i0/\Ji (z0r i0 x1 (2:Int)=0) (∃(i2:List Int),zo5 x0 (z06 i0 x1=z06 i0 x1/\(0<=z06 i0 x1/\z06 i0 x1<=(↑(length i2):Int)/\(0:Int)<2/\(2:Int)<1000000/\z0p i2)/\zo7 x0 x2 i2/\(0<=z0r i2 (z06 i0 x1) 2/\z0r i2 (z06 i0 x1) (2:Int)<(↑(2:Nat):Int))/\∃i4,(∀(i5:Nat) (i6:Value),[string i4][i5]? =some i6->[string (mkS [105,110,116]),string (mkS [115,116,114,105,110,103])][(0:Nat)+toNat (z0r i2 (z06 i0 x1) 2)*1+i5]? =some i6)/\i4=i4/\True/\(nat_lit 1+1)*80<=140737488355328/\zo9 x3/\∃(i7:TrS),zo6 x0 x3 i7 (i7.2.2.1=z06 i2 (z06 i0 x1)/\zo4 x0 x2 x4 x5 i7 (∀(i9:TrB),z0v i7.2.1 i7.2.2.1 i7.2.2.2.2 i9->(∃i10,z5e x0 x2 i9 i10)->j5b x0 x1 x2 x4 i9 i4 i7)))) (j5c x0 x3 i0 x1 x4 x5 x2))
end
def zc4(c:Nat) (x:SV) (L:List Int) (n d:Int) (N:List ByteArray):qlb P (qgc [(51,zor),(54,z8n)]) (qhg [(52,z3z.below z42 c)]) Try.f78 (z7i.below z42 (c+1)) (zig) ⟨x,L,n,d,N⟩=(z42 (x,L,n,d,N)<c+1/\z2g 3 (x,L,n,d,N)->(∃(p:Pub),True/\slP byV x L p)->j5a x n L d N c):=by kernel_rfl
def union_eq:=λc x L n d N=>Eq.trans (zc4 c x L n d N) (by delta Ji Jb Jt Jf zo5 zo7 zo9 zo6 zo4 z5e z9q zv9 zx0 zdl zua j5e zo8 j5b zx1 j5f j5d j5c j5a;exact rfl)
section
variable (x0:RlS) (x1:List Int) (x2 x3:Int) (x4:SV) (x5:Nat) (x6:List Int) (x7:ByteArray) (x8:List ByteArray) (x9:TrB) (x10:TrS) (x11:ByteArray) (x12:List Int) (x13:List Int×GJ) (x14 x15:Option Addr) (x16 x17 x18:Nat) (x19:Nat->Option Obj) (x20:Prop) (x21:RlS)
 abbrev zhj:=x4.1=x4.1/\x4.2.1=x4.2.1/\x4.2.2=x4.2.2/\x20
 def z4d:=(True/\slP byV x4 x1 x19)/\GJ.oks x0.2.2.2 x19
 abbrev zoh:=slice (GJ.y x9.1).1 (GJ.y x9.1).2.1 (GJ.y x9.1).2.2
 abbrev zoi:=slice (GJ.x x9.1).1 (GJ.x x9.1).2.1 (GJ.x x9.1).2.2
 def zoa:=AV.agg [AV.sv (int i64 (GJ.k x9.1)),AV.sv (int i64 (GJ.n x9.1)),AV.sv (string (GJ.s x9.1)),AV.sv (zoh x9),AV.sv (zoi x9)]=AV.agg [AV.sv (int i64 (GJ.k x9.1)),AV.sv (int i64 (GJ.n x9.1)),AV.sv (string (GJ.s x9.1)),AV.sv (zoh x9),AV.sv (zoi x9)]
 def zod:=x10.1.1=x10.1.1/\x10.1.2.1=x10.1.2.1/\x10.1.2.2=x10.1.2.2/\x20
 def zub:=slP byV (x10.1.1,x10.1.2.1,x10.1.2.2) x13.1 x19/\GJ.ok x13.2 x19
 abbrev zdm:=z20 x13.2 x13.1 (z06 x1 x9.2.1)
 def zuc:=((z4d x0 x1 x4 x19)/\GJ.ok x9.1 x19)/\nat_lit 3<=x5/\qhu x19 x14 (take (nat_lit 3*nat_lit 5) ([int i64 4,int i64 0,string (mkS [102]++x7),slice noA 0 0,slice noA 0 0,int i64 (GJ.k x9.1),int i64 (GJ.n x9.1),string (GJ.s x9.1),slice (GJ.y x9.1).1 (GJ.y x9.1).2.1 (GJ.y x9.1).2.2,slice (GJ.x x9.1).1 (GJ.x x9.1).2.1 (GJ.x x9.1).2.2]++[int i64 (zdm x6 x9 x13).1,int i64 (zdm x6 x9 x13).2.1,string (zdm x6 x9 x13).2.2.1,slice noA 0 0,slice noA 0 0]))
 abbrev z9s:=mkS [110,97,109,101]
 abbrev z9r:=mkS [116,121,112,101]
 def zhh:=nat_lit 3<=x5/\qhu x19 x14 (take (nat_lit 3*nat_lit 1) ([string (z9s),string (z9r)]++[string (mkS [100,101,102,97,117,108,116])]))
 def zob:=length (z00 GJ.cells x0.2.2.2)=length x0.2.2.2*5/\(length x0.2.2.2+nat_lit 1)*80<=140737488355328/\Jb (x0.1+1)/\x20
 def zoc:=z0r x1 x2 (5:Int)=z0r x1 x2 5/\x3=x3/\x0.1=x21.1+1/\x4.1=x10.1.1/\x4.2.1=x10.1.2.1/\x4.2.2=x10.1.2.2/\x20
 def zog:=z00 txV x0.2.2.1=z00 txV x9.2.2/\length x0.2.2.1=length x9.2.2/\length x0.2.2.2=length x21.2.2.2+nat_lit 1/\x20
 def zoj:=zfc x1 x2 x8 (z0r x6 x2 5) x0/\toNat (z0r x6 x2 5- x0.1)<toNat (z0r x6 x2 5- x21.1)/\True
 def j5l:=zob x0 (∃(i0:RlS),x7=x7/\zoc i0 x1 x2 x3 x4 x10 (i0.2.1=(zdm x6 x9 x13).2.2.2/\z00 GJ.cells i0.2.2.2=z00 GJ.cells x0.2.2.2++[int i64 6,int i64 0,string (mkS []),slice x14 (nat_lit 3) x5,slice x15 (nat_lit 3) x16]/\zog i0 x9 ((∀i1,(zuc x0 x12 x4 x5 x6 x11 x9 x13 x14 i1)/\zhh x16 x15 i1->True/\slP byV x4 x12 i1)/\(∀i2,(zuc x0 x12 x4 x5 x6 x11 x9 x13 x14 i2)/\zhh x16 x15 i2->GJ.oks i0.2.2.2 i2)/\zoj i0 x12 x2 x1 x8 x0) x0) x0)
 def j5j:=(nat_lit 2+1)*16<=140737488355328/\∃(i0:List Int×GJ),GJ.k i0.2=GJ.k x9.1/\GJ.n i0.2=GJ.n x9.1/\GJ.s i0.2=GJ.s x9.1/\(GJ.y i0.2).1=(GJ.y x9.1).1/\(GJ.y i0.2).2.1=(GJ.y x9.1).2.1/\(GJ.y i0.2).2.2=(GJ.y x9.1).2.2/\(GJ.x i0.2).1=(GJ.x x9.1).1/\(GJ.x i0.2).2.1=(GJ.x x9.1).2.1/\(GJ.x i0.2).2.2=(GJ.x x9.1).2.2/\zod x10 (z06 x1 x9.2.1=z06 x1 x9.2.1/\(0<=z06 x1 x9.2.1/\z06 x1 x9.2.1<=(↑(length i0.1):Int)/\z0p i0.1/\GJ.wf i0.2)/\(∀i1,(z4d x0 x6 x4 i1)/\GJ.ok x9.1 i1->zub x10 i0 i1)/\(nat_lit 2+1)*80<=140737488355328/\zoa x9/\∀(i2 i3 i4:Nat) (i5:Option Addr) (i6 i7:Nat),(∃i8,zuc x0 x6 x4 i7 x1 x7 x9 i0 i5 i8)->∀(i9 i10 i11:Nat) (i12:Option Addr) (i13 i14:Nat),(∃i15,(zuc x0 x6 x4 i7 x1 x7 x9 i0 i5 i15)/\zhh i14 i12 i15)->j5l x0 x12 x2 x3 x4 i7 x1 x11 x8 x9 x10 x7 x6 i0 i5 i12 i14)
 def zva:=(((z4d x0 x1 x4 x19)/\GJ.ok x9.1 x19)/\∀(i0:Nat) (i1:Value),[int i64 4,int i64 0,string (mkS [102]++x7),slice noA 0 0,slice noA 0 0,int i64 (GJ.k x9.1),int i64 (GJ.n x9.1),string (GJ.s x9.1),slice (GJ.y x9.1).1 (GJ.y x9.1).2.1 (GJ.y x9.1).2.2,slice (GJ.x x9.1).1 (GJ.x x9.1).2.1 (GJ.x x9.1).2.2][i0]? =some i1->q6f x19 (Addr.add (Addr.mk x5 x16 none) i0)=some i1)
 def zof:=∀(i0:Nat) (i1:Value),[string (z9s),string (z9r)][i0]? =some i1->q6f x19 (Addr.add (Addr.mk x5 x16 none) i0)=some i1
 def j5m:=zob x0 (∃(i0:RlS),x7=x7/\zoc i0 x1 x2 x3 x4 x10 (i0.2.1=z06 x6 x9.2.1/\z00 GJ.cells i0.2.2.2=z00 GJ.cells x0.2.2.2++[int i64 6,int i64 0,string (mkS []),slice (some (Addr.mk x5 (x16+nat_lit 0) none)) (nat_lit 2) (nat_lit 2),slice (some (Addr.mk x17 (x18+nat_lit 0) none)) (nat_lit 2) (nat_lit 2)]/\zog i0 x9 ((∀i1,(zva x0 x12 x4 x5 x11 x9 x16 i1/\zof x17 x18 i1)->True/\slP byV x4 x12 i1)/\(∀i6,(zva x0 x12 x4 x5 x11 x9 x16 i6/\zof x17 x18 i6)->GJ.oks i0.2.2.2 i6)/\zoj i0 x12 x2 x1 x8 x0) x0) x0)
 def j5i:=((-9223372036854775808:Int)<=97+x0.1/\(97:Int)+x0.1<=9223372036854775807)/\∃i0,size i0=1/\qhj [int u8 (IntKind.wrap u8 ((97:Int)+x0.1))] 0 (q1c i0)/\size (mkS [102])+size i0<=9223372036854775807/\mkS [102]++i0=mkS [102]++i0/\True/\True/\zoa x9/\∃(i1:List Int),(3:Int)=3/\zod x10 (x9.2.1=x9.2.1/\(0<=x9.2.1/\x9.2.1<=(↑(length i1):Int)/\(0:Int)<3/\(3:Int)<1000000/\z0p i1)/\(∀i2,(z4d x0 x1 x4 i2)/\GJ.ok x9.1 i2->slP byV (x10.1.1,x10.1.2.1,x10.1.2.2) i1 i2)/\Ji (z0r i1 x9.2.1 (3:Int)=0) (j5j x0 i1 x2 x3 x4 x1 i0 x8 x9 x10 x7 x6) (∀(i22 i23 i24:Nat),(∃i25,((z4d x0 x1 x4 i25)/\GJ.ok x9.1 i25)/\q3i i25 (Addr.mk i22 i23 none) [int i64 4,int i64 0,string (mkS [102]++i0),slice noA 0 0,slice noA 0 0,int i64 (GJ.k x9.1),int i64 (GJ.n x9.1),string (GJ.s x9.1),slice (GJ.y x9.1).1 (GJ.y x9.1).2.1 (GJ.y x9.1).2.2,slice (GJ.x x9.1).1 (GJ.x x9.1).2.1 (GJ.x x9.1).2.2])->∀(i26 i27 i28:Nat),(∃i29,zva x0 x1 x4 i22 i0 x9 i23 i29/\q3i i29 (Addr.mk i26 i27 none) [string (z9s),string (z9r)])->j5m x0 x6 x2 x3 x4 i22 i1 x7 x8 x9 x10 i0 x1 i23 i26 i27))
 def j5h:=Jb (x2+1)/\∃(i0:TrS),i0.2.2.2.1=x2+1/\i0.1.1=x4.1/\i0.1.2.1=x4.2.1/\i0.1.2.2=x4.2.2/\i0.2.2.1=x0.2.1/\z00 txV i0.2.2.2.2=z00 txV x0.2.2.1/\length i0.2.2.2.2=length x0.2.2.1/\(z42 i0<x5/\z2g 4 i0)/\(∀i1,z4d x0 x1 x4 i1->slP byV i0.1 i0.2.1 i1)/\∀(i2:TrB),z0v i0.2.1 i0.2.2.1 i0.2.2.2.2 i2->(∃i3,(z4d x0 x1 x4 i3)/\GJ.ok i2.1 i3)->j5i x0 x1 x3 x2 x4 x6 x7 x8 i2 i0
 def zhg:=AV.agg [AV.int i64 5,AV.int i64 0,AV.str [],AV.ssl (nat_lit 7) (nat_lit 0) (length x0.2.2.2) (nat_lit 5) (nat_lit 8),AV.nsl]=AV.agg [AV.int i64 5,AV.int i64 0,AV.str [],AV.ssl (nat_lit 7) (nat_lit 0) (length x0.2.2.2) (nat_lit 5) (nat_lit 8),AV.nsl]
 def zhi:=(z4d x0 x1 x4 x19)/\length x0.2.2.2<=x5/\qhu x19 x14 (take (length x0.2.2.2*nat_lit 5) (z00 GJ.cells x0.2.2.2))
 abbrev zol:=mkS [114,101,99,111,114,100]
 def zx2:=((zhi x0 x1 x4 x5 x14 x19)/\∀(i0:Nat) (i1:Value),[int i64 4,int i64 0,string (zol),slice noA 0 0,slice noA 0 0,int i64 4,int i64 0,string x7,slice noA 0 0,slice noA 0 0,int i64 4,int i64 0,string (mkS [115]),slice noA 0 0,slice noA 0 0,int i64 5,int i64 0,string (mkS []),slice x14 (length x0.2.2.2) x5,slice noA 0 0][i0]? =some i1->q6f x19 (Addr.add (Addr.mk x16 x17 none) i0)=some i1)
 abbrev zoe:=mkS [110,97,109,101,115,112,97,99,101]
 abbrev zok:=mkS [102,105,101,108,100,115]
 def j5k:=mkS [114,101,99,111,114,100]=mkS [114,101,99,111,114,100]/\True/\x7=x7/\True/\mkS [115]=mkS [115]/\True/\True/\zhg x0/\zhg x0/\zhg x0/\∀(i0 i1 i2:Nat) (i3:Option Addr) (i4 i5:Nat),(∃i6,zhi x0 x1 x4 i5 i3 i6)->∀(i7 i8 i9:Nat),(∃i10,(zhi x0 x1 x4 i5 i3 i10)/\q3i i10 (Addr.mk i7 i8 none) [int i64 4,int i64 0,string (zol),slice noA 0 0,slice noA 0 0,int i64 4,int i64 0,string x7,slice noA 0 0,slice noA 0 0,int i64 4,int i64 0,string (mkS [115]),slice noA 0 0,slice noA 0 0,int i64 5,int i64 0,string (mkS []),slice i3 (length x0.2.2.2) i5,slice noA 0 0])->∀(i11 i12 i13:Nat),(∃i14,zx2 x0 x1 x4 i5 x7 i3 i7 i8 i14/\q3i i14 (Addr.mk i11 i12 none) [string (z9r),string (z9s),string (zoe),string (zok)])->∃(i17:TrB),GJ.k i17.1=6/\GJ.n i17.1=0/\GJ.s i17.1=mkS []/\(GJ.y i17.1).1=some (Addr.mk i7 (i8+nat_lit 0) none)/\(GJ.y i17.1).2.1=nat_lit 4/\(GJ.y i17.1).2.2=nat_lit 4/\(GJ.x i17.1).1=some (Addr.mk i11 (i12+nat_lit 0) none)/\(GJ.x i17.1).2.1=nat_lit 4/\(GJ.x i17.1).2.2=nat_lit 4/\zhj x4 (i17.2.1=x0.2.1/\z00 txV i17.2.2=z00 txV x0.2.2.1/\length i17.2.2=length x0.2.2.1/\z0v x1 x2 x8 i17/\(∀i18,(zx2 x0 x1 x4 i5 x7 i3 i7 i8 i18/\∀(i21:Nat) (i22:Value),[string (z9r),string (z9s),string (zoe),string (zok)][i21]? =some i22->q6f i18 (Addr.add (Addr.mk i11 i12 none) i21)=some i22)->GJ.ok i17.1 i18)/\True)
 def j5g:=Ji (x0.1<z0r x1 x2 5) (j5h x0 x6 x3 x2 x4 x5 x1 x7 x8) (j5k x0 x6 x2 x4 x7 x8)
end
def zf8(c:Nat) (s:ByteArray) (x:SV) (L:List Int) (n d:Int) (N:List ByteArray):qlb P (qgc [(51,zor),(54,z8n),(53,z4e),(55,z3b)]) (qhg [(52,z3z.below z42 c)]) Try.f29 (z1e.below zjo (c+1)) (z8g) ⟨s,x,L,n,d,N⟩=(zjo (s,x,L,n,d,N)<c+1/\size s<100/\z2g 3 (x,L,n,d,N)->(∃(p:Pub),True/\slP byV x L p)->∃(b:List Int),(5:Int)=5/\zhj x (n=n/\(0<=n/\n<=(↑(length b):Int)/\(0:Int)<5/\(5:Int)<1000000/\z0p b)/\(∀(p:Pub),True/\slP byV x L p->slP byV (x.1,x.2.1,x.2.2) b p)/\(∃(s_1:RlS),s=s/\z0r b n (5:Int)=z0r b n 5/\d=d/\s_1.1=0/\zhj x (s_1.2.1=z06 b n/\z00 txV s_1.2.2.1=z00 txV N/\length s_1.2.2.1=length N/\length s_1.2.2.2=0/\(∀(p:Pub),True/\slP byV x L p->True/\slP byV x L p)/\(∀(p:Pub),True/\slP byV x L p->GJ.oks s_1.2.2.2 p)/\zfc L n N (z0r b n 5) s_1/\True))/\∀(s_1:RlS),zfc L n N (z0r b n 5) s_1->(∃(p:Pub),z4d s_1 L x p)->j5g s_1 b n d x c L s N)):=by kernel_rfl
def zk1:=λc s x L n d N=>Eq.trans (zf8 c s x L n d N) (by delta Ji Jb Jt Jf zhj z4d zoh zoi zoa zod zub zdm zuc z9s z9r zhh zob zoc zog zoj j5l j5j zva zof j5m j5i j5h zhg zhi zol zx2 zoe zok j5k j5g;exact rfl)
section
def leaf(k n:Int) (s:ByteArray):GJ:= .mk k n s (none,0,0) [] (none,0,0) []
variable {s:ByteArray} {p:Pub}
def z07{k n:Int}:(leaf k n s).ok p:=by
 unfold leaf;rw[GJ.ok];exact⟨z04,z04,by rw[GJ.oks];trivial⟩
def z08{k n:Int} (h:s.size<1000) (h0: -9223372036854775808<=n) (h1:n<9223372036854775808):(leaf k n s).wf:=by
 unfold leaf;rw[GJ.wf];exact⟨h,by decide,by decide,λt ht=>(by cases ht),⟨h0,h1⟩,λ_=>rfl,by rw[GJ.wfs];trivial⟩
variable {l:List GJ}
def z02{g:GJ} (h1:g.ok p) (h2:GJ.oks l p):GJ.oks (g::l) p:=by rw[GJ.oks];exact⟨h1,h2⟩
def z0m:GJ.oks [] p:=by rw[GJ.oks];trivial
def z03{g:GJ} (h1:g.wf) (h2:GJ.wfs l):GJ.wfs (g::l):=by rw[GJ.wfs];exact⟨h1,h2⟩
def z0n:GJ.wfs []:=by rw[GJ.wfs];trivial
variable {α:Type}
def z2q{f:α->List Value} {l:List α} {a:Option Addr} {n c:Nat} (hn:n=l.length) (h:qhv p a n c (z00 f l)):slP f (a,n,c) l p:=⟨hn,h⟩
def z0k{f:α->List Value} {l:List α} {b s n c:Nat} (hn:n=l.length) (hc:n<=c) (h:q3i p ⟨b,s,none⟩ (z00 f l)):slP f (some ⟨b,s+0,none⟩,n,c) l p:=⟨hn,hc, .inr ⟨_,rfl,rfl,h⟩⟩
def lsJ(x:SV) (l:List GJ):GJ:= .mk 5 0 (mkS []) x l (none,0,0) []
variable {x:SV}
def z3m(h1:slP GJ.cells x l p) (h2:GJ.oks l p):(lsJ x l).ok p:=by
 unfold lsJ;rw[GJ.ok];exact⟨h1,z04,h2⟩
def z3n(h1:l.length<1000) (h2:GJ.wfs l):(lsJ x l).wf:=by
 unfold lsJ;rw[GJ.wf];exact⟨by decide,h1,Nat.zero_le _,λt ht=>(by cases ht),⟨by omega,by omega⟩,λh=>absurd h (by decide),h2⟩
def tbJ(x:SV) (l:List GJ) (y:SV) (nm:List ByteArray):GJ:= .mk 6 0 (mkS []) x l y nm
variable {nm:List ByteArray}
def z2r{y:SV} (h1:slP GJ.cells x l p) (h3:slP txV y nm p) (h2:GJ.oks l p):(tbJ x l y nm).ok p:=by
 unfold tbJ;rw[GJ.ok];exact⟨h1,h3,h2⟩
def z2s{y:SV} (h1:l.length<1000) (h3:nm.length=l.length) (h4:∀t∈nm,t.size<1000) (h2:GJ.wfs l):(tbJ x l y nm).wf:=by
 unfold tbJ;rw[GJ.wf];exact⟨by decide,h1,by omega,h4,⟨by omega,by omega⟩,λ_=>h3,h2⟩
variable {L:List Int}
def zeu{n:Int} (h:n<L.length):z06 L n=n+1:=by unfold z06;rw[if_neg (by omega)]
def zev{n m:Int} (h:z0r L n m≠0):n<L.length:=by
 unfold z0r at h
 split at h
 ·exact absurd rfl h
 ·omega
def zho(c:Nat) (h:c<256):q1c (mkS [c])=[.int .u8 (c:Nat)]:=by
 simp[q1c,mkS]
 omega
def zck(n:Nat):IntKind.wrap .u8 (97+(n:Int).tmod 26)=((97+n % 26:Nat):Int):=by
 rw[zg0,Int.tmod_eq_emod_of_nonneg (by omega)];omega
def z3k{α:Type} {f:α->List Value} {l:List α} {p:Pub} {x:Addr} (k:Nat) (h:q3i p x (z00 f l)):q3i p x (z00 f (l.take k)):=λj v hj=>by
 refine h j v ?_
 conv at hj=>lhs;rw[show z00 f (l.take k)=z00 f (l.take k)from rfl]
 have e:z00 f l=z00 f (l.take k)++z00 f (l.drop k):=by rw[←z05,List.take_append_drop]
 rw[e,List.getElem?_append_left (List.getElem?_eq_some_iff.mp hj).1];exact hj
def slH(b s:Nat) (r:Int):SV:=(slA (some ⟨b,s+0,none⟩) 3 0 5,(@Int.rec (λ_=>Nat) (λa=>a) (λ_=>0) (1+r))- 0,3- 0)
def syL(r:Int):List GJ:=[leaf 4 0 (mkS [88]),leaf 4 0 (mkS [89]),leaf 4 0 (mkS [90])].take (1+r).toNat
def zpy{b s:Nat} {r:Int} (h0:0<=r) (h1:r<3) (h:q3i p ⟨b,s,none⟩ (z00 GJ.cells [leaf 4 0 (mkS [88]),leaf 4 0 (mkS [89]),leaf 4 0 (mkS [90])])):slP GJ.cells (slH b s r) (syL r) p/\GJ.oks (syL r) p:=by
 have:r=0\/r=1\/r=2:=by omega
 rcases this with rfl|rfl|rfl
 ·exact⟨⟨rfl,show 1<=3 by decide, .inr ⟨⟨b,s,none⟩,rfl,rfl,z3k 1 h⟩⟩,z02 z07 z0m⟩
 ·exact⟨⟨rfl,show 2<=3 by decide, .inr ⟨⟨b,s,none⟩,rfl,rfl,z3k 2 h⟩⟩,z02 z07 (z02 z07 z0m)⟩
 ·exact⟨⟨rfl,show 3<=3 by decide, .inr ⟨⟨b,s,none⟩,rfl,rfl,h⟩⟩,z02 z07 (z02 z07 (z02 z07 z0m))⟩
def zfg{r:Int} (h0:0<=r) (h1:r<3):(syL r).length<1000/\GJ.wfs (syL r):=by
 have:r=0\/r=1\/r=2:=by omega
 rcases this with rfl|rfl|rfl
 ·exact⟨by decide,z03 (z08 (by decide) (by omega) (by omega)) z0n⟩
 ·exact⟨by decide,z03 (z08 (by decide) (by omega) (by omega)) (z03 (z08 (by decide) (by omega) (by omega)) z0n)⟩
 ·exact⟨by decide,z03 (z08 (by decide) (by omega) (by omega)) (z03 (z08 (by decide) (by omega) (by omega)) (z03 (z08 (by decide) (by omega) (by omega)) z0n))⟩
def zft(c:Nat) (ht:q1v P 52 (z3z.below z42 c)):q1v P 78 (z7i.below z42 (c+1)):=by
 refine qkh mixed (qdw (qhr z7z (qhr z4y qkx))) (qen (qhq ht qkw)) (W:=zig) Try.func78 (by kernel_rfl) (show 1<=5 by decide) (show 5<=7 by decide) (λs=>by kernel_rfl) λ⟨(x:SV),(L:List Int),(n:Int),(d:Int),N⟩=>(union_eq c x L n d N).mpr ?_
 rintro⟨hmu,hn0,hn1,hL,hd0,hd1,hN,hNs⟩ ⟨p,_,hp⟩
 have hmu:(10- d).toNat<c+1:=hmu
 simp only[sbS,Int.toNat_natCast]
 have nb:=z1g hn1
 refine⟨L,⟨hn0,hn1,by omega,by omega,hL⟩,λq hq=>hq,λh0=> ?_,λh0=> ?_⟩
 ·have nb2:=z1g nb.2.1
  have hr:=z19 (n:=z06 L n) (m:=2) hL (by omega)
  obtain⟨s,hs,hsz⟩:∃s:ByteArray,(∀(j:Nat) (v:Value),[Value.string s][j]? =some v->[Value.string (mkS [105,110,116]),Value.string (mkS [115,116,114,105,110,103])][0+(z0r L (z06 L n) 2).toNat*1+j]? =some v)/\s.size<1000:=by
   have:z0r L (z06 L n) 2=0\/z0r L (z06 L n) 2=1:=by omega
   rcases this with e|e
   ·rw[e];exact⟨mkS [105,110,116],λj v hj=>by cases j with|zero=>exact hj|succ j=>simp at hj,by decide⟩
   ·rw[e];exact⟨mkS [115,116,114,105,110,103],λj v hj=>by cases j with|zero=>exact hj|succ j=>simp at hj,by decide⟩
  refine⟨L,⟨by omega,nb.2.1,by omega,by omega,hL⟩,λq hq=>hq,hr,s,hs,by decide,by omega,⟨x,L,z06 L (z06 L n),d+1,N⟩,rfl,rfl,rfl,rfl,rfl,rfl,rfl,⟨?_,by omega,nb2.2.1,hL,by omega,by omega,by omega,hNs⟩,λq hq=>hq,?_⟩
  ·show(10- (d+1)).toNat<c;omega
  rintro⟨g,n',N'⟩ ⟨hw,p1,p2,p3,p4,p5⟩ _
  simp only at p1 p2 p3 p4
  refine⟨λhk=>⟨rfl,by decide,λ_ _ _ a m cc _=>⟨⟨lsJ (a,3,cc) [leaf 4 0 (mkS [110,117,108,108]),leaf 4 0 s,g],n',N'⟩,rfl,rfl,rfl,rfl,rfl,rfl,rfl,rfl,rfl,rfl,rfl,rfl,rfl,rfl,rfl,⟨?_,by omega,p2,p3,by omega,p5⟩,λq hq=> ?_⟩⟩,λhk _ _ _ a m cc _=>⟨⟨lsJ (a,2,cc) [leaf 4 0 (mkS [110,117,108,108]),leaf 4 0 s],n',N'⟩,rfl,rfl,rfl,rfl,rfl,rfl,rfl,rfl,rfl,rfl,rfl,rfl,rfl,rfl,rfl,⟨?_,by omega,p2,p3,by omega,p5⟩,λq hq=> ?_⟩⟩
  ·exact z3n (by simp) (z03 (z08 (by decide) (by omega) (by omega)) (z03 (z08 hsz (by omega) (by omega)) (z03 hw z0n)))
  ·exact z3m (z2q rfl hq.2) (z02 z07 (z02 z07 (z02 hq.1.2 z0m)))
  ·exact z3n (by simp) (z03 (z08 (by decide) (by omega) (by omega)) (z03 (z08 hsz (by omega) (by omega)) z0n))
  ·exact z3m (z2q rfl hq.2) (z02 z07 (z02 z07 z0m))
 ·refine⟨by omega,⟨x,L,z06 L n,d+1,N⟩,rfl,rfl,rfl,rfl,rfl,rfl,rfl,⟨?_,by omega,nb.2.1,hL,by omega,by omega,by omega,hNs⟩,λq hq=>hq,?_⟩
  ·show(10- (d+1)).toNat<c;omega
  rintro⟨g,n',N'⟩ ⟨hw,p1,p2,p3,p4,p5⟩ _
  simp only at p1 p2 p3 p4
  refine⟨λhk=>⟨by decide,λ_ _ _ a m cc _=>⟨⟨lsJ (a,2,cc) [leaf 4 0 (mkS [110,117,108,108]),g],n',N'⟩,rfl,rfl,rfl,rfl,rfl,rfl,rfl,rfl,rfl,rfl,rfl,rfl,rfl,rfl,rfl,⟨?_,by omega,p2,p3,by omega,p5⟩,λq hq=> ?_⟩⟩,λhk b2 s2 _ _=>⟨⟨lsJ (some ⟨b2,s2+0,none⟩,1,1) [leaf 4 0 (mkS [110,117,108,108])],n',N'⟩,rfl,rfl,rfl,rfl,rfl,rfl,rfl,rfl,rfl,rfl,rfl,rfl,rfl,rfl,rfl,⟨?_,by omega,p2,p3,by omega,p5⟩,λq hq=> ?_⟩⟩
  ·exact z3n (by simp) (z03 (z08 (by decide) (by omega) (by omega)) (z03 hw z0n))
  ·exact z3m (z2q rfl hq.2) (z02 z07 (z02 hq.1.2 z0m))
  ·exact z3n (by simp) (z03 (z08 (by decide) (by omega) (by omega)) z0n)
  ·exact z3m (z0k rfl (Nat.le_refl _) hq.2) (z02 z07 z0m)
def zkg(c:Nat) (ht:q1v P 52 (z3z.below z42 c)) (hu:q1v P 78 (z7i.below z42 (c+1))) (hr:q1v P 29 (z1e.below zjo (c+1))):q1v P 52 (z3z.below z42 (c+1)):=by
 refine qkh mixed (qdw (qhr z7z (qhr zjv (qhr z4y (qhr z86 qkx))))) (qen (qhq ht (qhq hu (qhq hr qkw)))) (W:=zqd) Try.func52 (by kernel_rfl) (show 1<=5 by decide) (show 5<=7 by decide) (λs=>by kernel_rfl) λ⟨(x:SV),(L:List Int),(n:Int),(d:Int),N⟩=>(zkf c x L n d N).mpr ?_
 rintro⟨hmu,hn0,hn1,hL,hd0,hd1,hN,hNs⟩ ⟨p,_,hp⟩
 have hmu:(10- d).toNat<c+1:=hmu
 simp only[sbS,Int.toNat_natCast,exists_const]
 have nb:=z1g hn1
 have hLl:=hL.1
 have hr0:=z19 (n:=n) (m:=20) hL (by omega)
 have small8:3<d->(8:Int)≠0/\∃s,s=(z0r L n 20).tmod 8/\z06 L n=z06 L n/\0<=s/\s<20/\(8<=s->d<=3/\n<L.length):=λh=>by
  have e:(z0r L n 20).tmod 8=z0r L n 20 % 8:=Int.tmod_eq_emod_of_nonneg hr0.1
  exact⟨by decide,_,rfl,rfl,by omega,by omega,λh=>by omega⟩
 have small9:(8:Int)≠0/\∃s,s=(z0r L n 20).tmod 8/\z06 L n=z06 L n/\0<=s/\s<20/\(8<=s->d<=3/\n<L.length):=by
  have e:(z0r L n 20).tmod 8=z0r L n 20 % 8:=Int.tmod_eq_emod_of_nonneg hr0.1
  exact⟨by decide,_,rfl,rfl,by omega,by omega,λh=>by omega⟩
 refine⟨L,⟨hn0,hn1,by omega,by omega,hL⟩,λq hq=>hq,⟨small8,λhd3=>⟨L,λq hq=>hq,λ_=>small9,λ_=>⟨_,rfl,rfl,hr0.1,hr0.2,λh=>⟨by omega,zev (m:=20) (by omega)⟩⟩⟩⟩,?_⟩
 rintro k ⟨hk0,hk1,hk2⟩
 refine⟨⟨λh8=> ?_,λh8=>⟨λh10=> ?_,λh10=>⟨λh1=> ?_,λh1=>⟨λh14=> ?_,λh14=>⟨λe14=>⟨λhN0=> ?_,λ_=>by omega⟩,λ_=>by omega⟩⟩⟩⟩⟩,?_⟩
 ·obtain⟨s,hs,hsz⟩:∃s:ByteArray,(∀(j:Nat) (v:Value),[Value.string s][j]? =some v->[Value.string (mkS [105,110,116]),Value.string (mkS [108,111,110,103]),Value.string (mkS [115,116,114,105,110,103]),Value.string (mkS [98,121,116,101,115]),Value.string (mkS [98,111,111,108,101,97,110]),Value.string (mkS [110,117,108,108]),Value.string (mkS [102,108,111,97,116]),Value.string (mkS [100,111,117,98,108,101])][0+k.toNat*1+j]? =some v)/\s.size<1000:=by
   have:k=0\/k=1\/k=2\/k=3\/k=4\/k=5\/k=6\/k=7:=by omega
   rcases this with rfl|rfl|rfl|rfl|rfl|rfl|rfl|rfl
   all_goals refine⟨_,λj v hj=>by cases j with|zero=>exact hj|succ j=>simp at hj,by decide⟩
  exact⟨⟨hk0,h8⟩,s,hs,⟨leaf 4 0 s,z06 L n,N⟩,rfl,rfl,rfl,rfl,rfl,rfl,rfl,rfl,rfl,rfl,rfl,rfl,⟨z08 hsz (by omega) (by omega),nb.1,nb.2.1,Nat.le_refl _,by omega,hNs⟩,λq hq=>z07⟩
 ·have hd:=hk2 (by omega)
  refine⟨by omega,⟨x,L,z06 L n,d+1,N⟩,rfl,rfl,rfl,rfl,rfl,rfl,rfl,⟨?_,by omega,nb.2.1,hL,by omega,by omega,by omega,hNs⟩,λq hq=>hq,?_⟩
  ·show(10- (d+1)).toNat<c;omega
  rintro⟨g,n',N'⟩ ⟨hw,p1,p2,p3,p4,p5⟩ _ b1 s1 u1 _ b2 s2 u2 _
  simp only at p1 p2 p3 p4
  exact⟨⟨tbJ (some ⟨b1,s1+0,none⟩,2,2) [leaf 4 0 (mkS [97,114,114,97,121]),g] (some ⟨b2,s2+0,none⟩,2,2) [mkS [116,121,112,101],mkS [105,116,101,109,115]],n',N'⟩,rfl,rfl,rfl,rfl,rfl,rfl,rfl,rfl,rfl,rfl,rfl,rfl,rfl,rfl,rfl,⟨z2s (by simp) rfl (by decide) (z03 (z08 (by decide) (by omega) (by omega)) (z03 hw z0n)),by omega,p2,p3,by omega,p5⟩,λq hq=>z2r (z0k rfl (Nat.le_refl _) hq.1.2) (z0k rfl (Nat.le_refl _) hq.2) (z02 z07 (z02 hq.1.1.2 z0m))⟩
 ·have hd:=hk2 (by omega)
  refine⟨by omega,⟨x,L,z06 L n,d+1,N⟩,rfl,rfl,rfl,rfl,rfl,rfl,rfl,⟨?_,by omega,nb.2.1,hL,by omega,by omega,by omega,hNs⟩,λq hq=>hq,?_⟩
  ·show(10- (d+1)).toNat<c;omega
  rintro⟨g,n',N'⟩ ⟨hw,p1,p2,p3,p4,p5⟩ _ b1 s1 u1 _ b2 s2 u2 _
  simp only at p1 p2 p3 p4
  exact⟨⟨tbJ (some ⟨b1,s1+0,none⟩,2,2) [leaf 4 0 (mkS [109,97,112]),g] (some ⟨b2,s2+0,none⟩,2,2) [mkS [116,121,112,101],mkS [118,97,108,117,101,115]],n',N'⟩,rfl,rfl,rfl,rfl,rfl,rfl,rfl,rfl,rfl,rfl,rfl,rfl,rfl,rfl,rfl,⟨z2s (by simp) rfl (by decide) (z03 (z08 (by decide) (by omega) (by omega)) (z03 hw z0n)),by omega,p2,p3,by omega,p5⟩,λq hq=>z2r (z0k rfl (Nat.le_refl _) hq.1.2) (z0k rfl (Nat.le_refl _) hq.2) (z02 z07 (z02 hq.1.1.2 z0m))⟩
 ·have hd:=hk2 (by omega)
  refine⟨⟨x,L,z06 L n,d,N⟩,rfl,rfl,rfl,rfl,rfl,rfl,rfl,⟨?_,by omega,nb.2.1,hL,by omega,by omega,by omega,hNs⟩,λq hq=>hq,?_⟩
  ·show(10- d).toNat<c+1;omega
  rintro⟨g,n',N'⟩ ⟨hw,p1,p2,p3,p4,p5⟩ _
  simp only at p1 p2 p3 p4
  exact⟨⟨g,n',N'⟩,rfl,rfl,rfl,rfl,rfl,rfl,rfl,rfl,rfl,rfl,rfl,rfl,rfl,rfl,rfl,⟨hw,by omega,p2,p3,by omega,p5⟩,λq hq=>hq.2⟩
 ·have hd:=hk2 (by omega)
  have hN0:0<N.length:=by omega
  have nb2:=z1g nb.2.1
  have hr:=z19 (n:=z06 L n) (m:=N.length) hL (by omega)
  obtain⟨i,hi⟩:=Int.eq_ofNat_of_zero_le hr.1
  have hil:i<N.length:=by omega
  refine⟨L,⟨by omega,nb.2.1,by omega,by omega,hL⟩,λq hq=>hq,hr,N[i],?_,⟨leaf 4 0 N[i],z06 L (z06 L n),N⟩,rfl,rfl,rfl,rfl,rfl,rfl,rfl,rfl,rfl,rfl,rfl,rfl,⟨z08 (by have:=hNs N[i] (List.getElem_mem _);omega) (by omega) (by omega),by omega,nb2.2.1,Nat.le_refl _,by omega,hNs⟩,λq hq=>z07⟩
  rw[hi,Int.toNat_natCast]
  intro j v hj
  cases j with
  |zero=>rw[Nat.zero_add,z23 z0s N i hil 0 (by decide)];exact hj
  |succ j=>simp at hj
 intro _ h14
 have hd:=hk2 (by omega)
 have e26:(N.length:Int).tmod 26=(N.length:Int) % 26:=Int.tmod_eq_emod_of_nonneg (by omega)
 have hz:(mkS [97+N.length % 26]).size=1:=rfl
 have hn2:(mkS [78]++mkS [97+N.length % 26]).size=2:=by rw[ByteArray.size_append,hz];rfl
 have hnl:n<L.length:=hd.2
 have hnn:=zeu hnl
 refine⟨by decide,by omega,mkS [97+N.length % 26],rfl,?_,by rw[hz];decide,z01 z0s N,by omega,?_⟩
 ·intro j v hj
  rw[zho _ (by omega)]at hj
  rw[zck,Nat.zero_add];exact hj
 have hN':∀t∈N++[(mkS [78]++mkS [97+N.length % 26])],t.size<100:=λt ht=>by
  rcases List.mem_append.1 ht with h|h
  ·exact hNs t h
  ·simp at h;rw[h];omega
 have hNl:(N++[(mkS [78]++mkS [97+N.length % 26])]).length=N.length+1:=by simp
 have hNr:z00 txV (N++[(mkS [78]++mkS [97+N.length % 26])])=z00 txV N++[Value.string (mkS [78]++mkS [97+N.length % 26])]:=by rw[z05];rfl
 generalize (mkS [78]++mkS [97+N.length % 26])=name at*
 generalize N++[name]=N1 at*
 have nb2:=z1g nb.2.1
 refine⟨λh15=> ?_,λh15=>⟨λh16=> ?_,λh16=> ?_⟩⟩
 ·have hr4:=z19 (n:=z06 L n) (m:=4) hL (by omega)
  refine⟨L,⟨by omega,nb.2.1,by omega,by omega,hL⟩,λq hq=>hq,λb1 s1 u1 _ b2 s2 u2 _=>⟨⟨tbJ (some ⟨b1,s1+0,none⟩,3,3) [leaf 4 0 (mkS [102,105,120,101,100]),leaf 4 0 name,leaf 3 (z0r L (z06 L n) 4) (mkS [])] (some ⟨b2,s2+0,none⟩,3,3) [mkS [116,121,112,101],mkS [110,97,109,101],mkS [115,105,122,101]],z06 L (z06 L n),N1⟩,rfl,rfl,rfl,rfl,rfl,rfl,rfl,rfl,rfl,rfl,hNr,hNl,⟨?_,by omega,nb2.2.1,by omega,by omega,hN'⟩,λq hq=> ?_⟩⟩
  ·exact z2s (by simp) rfl (by decide) (z03 (z08 (by decide) (by omega) (by omega)) (z03 (z08 (by omega) (by omega) (by omega)) (z03 (z08 (by decide) (by omega) (by omega)) z0n)))
  ·exact z2r (z0k rfl (Nat.le_refl _) hq.1.2) (z0k rfl (Nat.le_refl _) hq.2) (z02 z07 (z02 z07 (z02 z07 z0m)))
 ·have hr3:=z19 (n:=z06 L n) (m:=3) hL (by omega)
  have nb3:=z1g nb2.2.1
  generalize hrr:z0r L (z06 L n) 3=r at hr3
  refine⟨L,⟨by omega,nb.2.1,by omega,by omega,hL⟩,λq hq=>hq,?_⟩
  rw[hrr]
  refine⟨by omega,λb1 s1 u1 _=>⟨Nat.le_refl _,by omega,L,⟨by omega,nb2.2.1,by omega,by omega,hL⟩,λq hq=>hq.1,?_,?_⟩⟩
  ·refineλ_=>⟨by decide,by decide,λ_ _ _ a _ cc _ _ _ _ a2 _ cc2 _=>⟨⟨tbJ (a,4,cc) [leaf 4 0 (mkS [101,110,117,109]),leaf 4 0 name,lsJ (slH b1 s1 r) (syL r),leaf 4 0 (mkS [88])] (a2,4,cc2) [mkS [116,121,112,101],mkS [110,97,109,101],mkS [115,121,109,98,111,108,115],mkS [100,101,102,97,117,108,116]],z06 L (z06 L (z06 L n)),N1⟩,rfl,rfl,rfl,rfl,rfl,rfl,rfl,rfl,rfl,rfl,hNr,hNl,⟨?_,by omega,nb3.2.1,by omega,by omega,hN'⟩,λq hq=> ?_⟩⟩
   ·exact z2s (by simp) rfl (by decide) (z03 (z08 (by decide) (by omega) (by omega)) (z03 (z08 (by omega) (by omega) (by omega)) (z03 (z3n (zfg hr3.1 hr3.2).1 (zfg hr3.1 hr3.2).2) (z03 (z08 (by decide) (by omega) (by omega)) z0n))))
   ·have hsy:=zpy (b:=b1) (s:=s1) hr3.1 hr3.2 hq.1.1.2
    exact z2r (z2q rfl hq.1.2) (z2q rfl hq.2) (z02 z07 (z02 z07 (z02 (z3m hsy.1 hsy.2) (z02 z07 z0m))))
  ·refineλ_ b3 s3 _ _ b4 s4 _ _=>⟨⟨tbJ (some ⟨b3,s3+0,none⟩,3,3) [leaf 4 0 (mkS [101,110,117,109]),leaf 4 0 name,lsJ (slH b1 s1 r) (syL r)] (some ⟨b4,s4+0,none⟩,3,3) [mkS [116,121,112,101],mkS [110,97,109,101],mkS [115,121,109,98,111,108,115]],z06 L (z06 L (z06 L n)),N1⟩,rfl,rfl,rfl,rfl,rfl,rfl,rfl,rfl,rfl,rfl,hNr,hNl,⟨?_,by omega,nb3.2.1,by omega,by omega,hN'⟩,λq hq=> ?_⟩
   ·exact z2s (by simp) rfl (by decide) (z03 (z08 (by decide) (by omega) (by omega)) (z03 (z08 (by omega) (by omega) (by omega)) (z03 (z3n (zfg hr3.1 hr3.2).1 (zfg hr3.1 hr3.2).2) z0n)))
   ·have hsy:=zpy (b:=b1) (s:=s1) hr3.1 hr3.2 hq.1.1.2
    exact z2r (z0k rfl (Nat.le_refl _) hq.1.2) (z0k rfl (Nat.le_refl _) hq.2) (z02 z07 (z02 z07 (z02 (z3m hsy.1 hsy.2) z0m)))
 ·refine⟨⟨name,x,L,z06 L n,d,N1⟩,rfl,rfl,rfl,rfl,rfl,rfl,hNr,hNl,⟨?_,by show name.size<100;omega,by omega,nb.2.1,hL,hd0,hd.1,by omega,hN'⟩,λq hq=>hq,?_⟩
  ·show(10- d).toNat<c+1;omega
  rintro⟨g,n',N'⟩ ⟨hw,p1,p2,p3,p4,p5⟩ _
  simp only at p1 p2 p3 p4
  exact⟨⟨g,n',N'⟩,rfl,rfl,rfl,rfl,rfl,rfl,rfl,rfl,rfl,rfl,rfl,rfl,rfl,rfl,rfl,⟨hw,by omega,p2,by omega,by omega,p5⟩,λq hq=>hq.2⟩
end
end
end Go.Proofs.Ytpdddmchffpcfaa.Wd
