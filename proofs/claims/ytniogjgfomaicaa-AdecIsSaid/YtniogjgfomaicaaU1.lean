/-
  The machine with unknown values: questions reckoned out of the code. No condition but what its theorems ask.
-/
import Derived.Calls
import Derived.Orders
import Derived.LoopN
import Derived.Laws.Sem
import Derived.Laws.World
import Derived.Below
import Derived.Laws.IdiomCopy
import Derived.Laws.Entries
import Derived.Laws.Strings
import Derived.Lib.SlBytesRow
import Derived.Lib.ConvBytes
import Derived.Lib.Builder
namespace Go.Proofs.Ytniogjgfomaicaa.Eng
open Go.RowKit
set_option linter.defProp false
set_option linter.unusedVariables false
set_option linter.unusedSimpArgs false
noncomputable section
inductive T(α:Type)where
 |e:T α
 |n:T α->Option α->T α->T α
namespace T
variable {α:Type}
def getS:T α->Nat->Option α
  | .e,_=>none
  | .n l v r,k=>match k with
    |0=>v
    | k+1=>match Nat.beq (Nat.mod k 2) 0 with
      |true=>l.getS (Nat.div k 2)
      |false=>r.getS (Nat.div k 2)
def qb3:Nat->Nat->Option α->T α->Option (T α)
  |0,_,_,_=>none
  | f + 1,k,x,t=>match k with
    | 0=>match t with
      | .e=>some (.n .e x .e)
      | .n l _ r=>some (.n l x r)
    | k +1=>match t with
      | .e=>match Nat.beq (Nat.mod k 2) 0 with
        |true=>match qb3 f (Nat.div k 2) x .e with|some u=>some (.n u none .e)|none=>none
        |false=>match qb3 f (Nat.div k 2) x .e with|some u=>some (.n .e none u)|none=>none
      | .n l v r=>match Nat.beq (Nat.mod k 2) 0 with
        |true=>match qb3 f (Nat.div k 2) x l with|some u=>some (.n u v r)|none=>none
        |false=>match qb3 f (Nat.div k 2) x r with|some u=>some (.n l v u)|none=>none
def parity(k:Nat):(Nat.beq (Nat.mod k 2) 0=true->k % 2=0)/\(Nat.beq (Nat.mod k 2) 0=false->k % 2=1):=by
 constructor
 ·intro h;exact Nat.eq_of_beq_eq_true h
 ·intro h
  have:=Nat.ne_of_beq_eq_false h
  have h2:k % 2≠0:=this
  omega
def div2(k:Nat):Nat.div k 2=k / 2:=rfl
def qeq:∀(f k:Nat) (x:Option α) (t u:T α),qb3 f k x t=some u->∀j,u.getS j=if j=k then x else t.getS j:=by
  intro f
  induction f with
  |zero=>intro k x t u h;cases h
  | succ f ih =>
    intro k x t u h j
    cases k with
    | zero=>
      cases t with
      | e=>
        simp[qb3]at h;subst h
        cases j with
        |zero=>simp[getS]
        |succ j=>simp only[getS];split<;>simp
      |n l v r=>simp[qb3]at h;subst h;cases j<;>simp[getS]
    | succ k=>
      have step:∀(l r:T α) (v:Option α) (p:T α),(Nat.beq (Nat.mod k 2) 0=true->qb3 f (Nat.div k 2) x l=some p->u= .n p v r->u.getS j=if j=k+1 then x else(T.n l v r).getS j)/\(Nat.beq (Nat.mod k 2) 0=false->qb3 f (Nat.div k 2) x r=some p->u= .n l v p->u.getS j=if j=k+1 then x else(T.n l v r).getS j):=by
        intro l r v p
        constructor
        · intro hb hp hu
          subst hu
          have hk:=(parity k).1 hb
          cases j with
          |zero=>simp[getS]
          | succ j=>
            simp only[getS]
            cases hj:Nat.beq (Nat.mod j 2) 0 with
            | true=>
              have hj2:=(parity j).1 hj
              simp only[ih _ _ _ _ hp,div2]
              by_cases e:j=k
              · subst e;simp
              · rw[if_neg (by omega),if_neg (by omega)]
            | false=>
              have hj2:=(parity j).2 hj
              simp only
              rw[if_neg (by omega)]
        · intro hb hp hu
          subst hu
          have hk:=(parity k).2 hb
          cases j with
          |zero=>simp[getS]
          | succ j=>
            simp only[getS]
            cases hj:Nat.beq (Nat.mod j 2) 0 with
            | true=>
              have hj2:=(parity j).1 hj
              simp only
              rw[if_neg (by omega)]
            | false=>
              have hj2:=(parity j).2 hj
              simp only[ih _ _ _ _ hp,div2]
              by_cases e:j=k
              · subst e;simp
              · rw[if_neg (by omega),if_neg (by omega)]
      cases t with
      | e =>
        simp only[qb3]at h
        have e0:∀i,(T.e:T α).getS i=(T.n T.e none T.e:T α).getS i:=λi=>by
          cases i with
          |zero=>simp[getS]
          |succ i=>simp only[getS];split<;>rfl
        rw[e0 j]
        split at h
        · rename_i hb
          split at h
          · rename_i p hp;cases h;exact(step .e .e none p).1 hb hp rfl
          · cases h
        · rename_i hb
          split at h
          · rename_i p hp;cases h;exact(step .e .e none p).2 hb hp rfl
          · cases h
      | n l v r=>
        simp only[qb3]at h
        split at h
        · rename_i hb
          split at h
          · rename_i p hp;cases h;exact(step l r v p).1 hb hp rfl
          · cases h
        · rename_i hb
          split at h
          · rename_i p hp;cases h;exact(step l r v p).2 hb hp rfl
          · cases h
def get(t:T α):Nat->Option α:=
 T.rec (motive:=λ_=>Nat->Option α) (λ_=>none)
  (λ_ v _ gl gr k=>Nat.rec (motive:=λ_=>Option α) v (λk _=>Bool.rec (motive:=λ_=>Option α) (gr (Nat.div k 2)) (gl (Nat.div k 2)) (Nat.beq (Nat.mod k 2) 0)) k) t
def q7v(x:Option α) (t:T α):Nat->Option (T α):=
 T.rec (motive:=λ_=>Nat->Option (T α)) (λk=>qb3 64 k x .e)
  (λl v r pl pr k=>Nat.rec (motive:=λ_=>Option (T α)) (some (.n l x r)) (λk _=>Bool.rec (motive:=λ_=>Option (T α))
   (Option.rec (motive:=λ_=>Option (T α)) none (λu=>some (.n l v u)) (pr (Nat.div k 2)))
   (Option.rec (motive:=λ_=>Option (T α)) none (λu=>some (.n u v r)) (pl (Nat.div k 2)))
   (Nat.beq (Nat.mod k 2) 0)) k) t
def put(f k:Nat) (x:Option α) (t:T α):Option (T α):=q7v x t k
def q8t(l r:T α) (v:Option α) (k:Nat):(T.n l v r).get (k+1)=match Nat.beq (Nat.mod k 2) 0 with
   |true=>l.get (Nat.div k 2)
   |false=>r.get (Nat.div k 2):=by
 show Bool.rec (motive:=λ_=>Option α) (r.get (Nat.div k 2)) (l.get (Nat.div k 2)) (Nat.beq (Nat.mod k 2) 0)=_
 cases Nat.beq (Nat.mod k 2) 0<;>rfl
def get_eq:∀(t:T α) (k:Nat),t.get k=t.getS k
  | .e,k=>rfl
  | .n l v r,0=>rfl
  | .n l v r,k+1=>by
    rw[q8t]
    simp only[getS]
    split<;>exact get_eq _ _
def qju(x:Option α) (l r:T α) (v:Option α) (k:Nat):q7v x (T.n l v r) (k+1)=match Nat.beq (Nat.mod k 2) 0 with
   |true=>match q7v x l (Nat.div k 2)with|some u=>some (.n u v r)|none=>none
   |false=>match q7v x r (Nat.div k 2)with|some u=>some (.n l v u)|none=>none:=by
 show Bool.rec (motive:=λ_=>Option (T α))
   (Option.rec (motive:=λ_=>Option (T α)) none (λu=>some (.n l v u)) (q7v x r (Nat.div k 2)))
   (Option.rec (motive:=λ_=>Option (T α)) none (λu=>some (.n u v r)) (q7v x l (Nat.div k 2)))
   (Nat.beq (Nat.mod k 2) 0)=_
 cases Nat.beq (Nat.mod k 2) 0
 ·cases q7v x r (Nat.div k 2)<;>rfl
 ·cases q7v x l (Nat.div k 2)<;>rfl
def get_e(k:Nat):(T.e:T α).get k=none:=rfl
def q6w(x:Option α):∀(t:T α) (k:Nat) (u:T α),q7v x t k=some u->∀j,u.get j=if j=k then x else t.get j
  | .e,k,u,h,j=>by
    have:=qeq 64 k x .e u h j
    rw[get_eq,this];rfl
  | .n l v r,0,u,h,j=>by
    have h2:some (T.n l x r)=some u:=h
    cases h2
    cases j with
    |zero=>rfl
    |succ j=>rw[if_neg (by omega),q8t,q8t]
  | .n l v r,k+1,u,h,j=>by
    rw[qju]at h
    cases hb:Nat.beq (Nat.mod k 2) 0 with
    | true=>
      rw[hb]at h
      have hk:=(parity k).1 hb
      simp only at h
      split at h
      · rename_i p hp
        cases h
        have ih:=q6w x l _ p hp
        cases j with
        |zero=>rw[if_neg (by omega)];rfl
        | succ j=>
          rw[q8t,q8t]
          cases hj:Nat.beq (Nat.mod j 2) 0 with
          | true=>
            have hj2:=(parity j).1 hj
            simp only[ih,div2]
            by_cases e:j=k
            · subst e;simp
            · rw[if_neg (by omega),if_neg (by omega)]
          | false=>
            have hj2:=(parity j).2 hj
            simp only
            rw[if_neg (by omega)]
      · cases h
    | false =>
      rw[hb]at h
      have hk:=(parity k).2 hb
      simp only at h
      split at h
      · rename_i p hp
        cases h
        have ih:=q6w x r _ p hp
        cases j with
        |zero=>rw[if_neg (by omega)];rfl
        | succ j=>
          rw[q8t,q8t]
          cases hj:Nat.beq (Nat.mod j 2) 0 with
          | true=>
            have hj2:=(parity j).1 hj
            simp only
            rw[if_neg (by omega)]
          | false=>
            have hj2:=(parity j).2 hj
            simp only[ih,div2]
            by_cases e:j=k
            · subst e;simp
            · rw[if_neg (by omega),if_neg (by omega)]
      · cases h
def get_put(f k:Nat) (x:Option α) (t u:T α) (h:put f k x t=some u):∀j,u.get j=if j=k then x else t.get j:=q6w x t k u h
end T
inductive AV where
 |bool (b:Bool)
 |int (k:IntKind) (n:Int)
 |str (s:List Nat)
 |nilp
 |ptr (id off:Nat)
 |nsl
 |sl (id off len cap:Nat)
 |gsl (id off len esz:Nat)
 |nmap
 |map (id:Nat)
 |fn (f:Nat) (caps:List AV)
 |nilf
 |nili
 |ifc (t:TypeId) (a:AV)
 |ifo
 |anyi (k:IntKind)
 |lin (k:IntKind) (c:Int) (l:List (Int×Nat×Int×Int))
 |bfn (f:Nat) (first caps:List AV)
 |agg (l:List AV)
 |tup (l:List AV)
 |sv (v:Value)
 |tsl (k:Nat)
 |ssl (id off len esz k:Nat)
 |msl (id len esz:Nat)
 |usl (id off len esz:Nat)
 |sptr (id off:Nat)
 |tpt (k:Nat)
 |tmap (k:Nat)
abbrev In:=Nat->Option (Nat×Nat×Nat)
def In.le(I J:In):Prop:=∀id x,I id=some x->J id=some x
def In.le_refl(I:In):I.le I:=λ_ _ h=>h
def In.le_trans{I J K:In} (h:I.le J) (g:J.le K):I.le K:=λi x e=>g i x (h i x e)
def qjr(I:In) (id:Nat):Option Int:=match I id with
 |some (b,s,_)=>some (Int.ofNat b- Int.ofNat s)
 |none=>none
def qd2{I J:In} (hl:I.le J) {id:Nat} {v:Int} (h:qjr I id=some v):qjr J id=some v:=by
 unfold qjr at h⊢
 cases hI:I id with
 |none=>rw[hI]at h;cases h
 |some x=>rw[hI]at h;rw[hl _ _ hI];exact h
inductive LR(I:In):List (Int×Nat×Int×Int)->Int->Prop
 |nil:LR I [] 0
 |cons {c id lo hi v l n} (h:qjr I id=some v) (h1:lo<=v) (h2:v<=hi) (t:LR I l n):LR I ((c,id,lo,hi)::l) (c*v+n)
def LR.mono{I J:In} (hl:I.le J) {l n} (h:LR I l n):LR J l n:=by
 induction h with
 |nil=>exact .nil
 |cons h h1 h2 t ih=>exact .cons (qd2 hl h) h1 h2 ih
def mkS(l:List Nat):ByteArray:=⟨⟨l.map UInt8.ofNat⟩⟩
def unp:Nat->Nat->Nat×Nat
 |0,_=>(0,0)
 |f+1,m=>if m % 2=1 then(0,m / 2)else((unp f (m / 2)).1+1,(unp f (m / 2)).2)
def q3o(c:Nat):∀(n f:Nat),n<f->unp f (2 ^ n*(2*c+1))=(n,c)
  | 0,f,h=>by
    obtain⟨f,rfl⟩:∃g,f=g+1:=⟨f- 1,by omega⟩
    simp only[unp,Nat.pow_zero,Nat.one_mul]
    rw[if_pos (by omega)]
    congr 1;omega
  | n+1,f,h=>by
    obtain⟨f,rfl⟩:∃g,f=g+1:=⟨f- 1,by omega⟩
    have e:2 ^ (n+1)*(2*c+1)=2*(2 ^ n*(2*c+1)):=by rw[Nat.pow_succ,Nat.mul_comm (2 ^ n) 2,Nat.mul_assoc]
    simp only[unp,e]
    rw[if_neg (by omega),show 2*(2 ^ n*(2*c+1)) / 2=2 ^ n*(2*c+1)by omega,q3o c n f (by omega)]
abbrev SV:=Option Addr×Nat×Nat
def q0j(x:Nat×Nat×Nat):SV:=(if x.2.2 % 2=0 then none else some ⟨x.1,(unp x.2.1 x.2.1).1,if(unp x.2.1 x.2.1).2=0 then none else some ((unp x.2.1 x.2.1).2- 1)⟩,(unp (x.2.2 / 2) (x.2.2 / 2)).1,(unp (x.2.2 / 2) (x.2.2 / 2)).2)
def qaq(b o:Nat) (p:Option Nat) (n c:Nat):∃x,q0j x=(some ⟨b,o,p⟩,n,c):=by
  have h:n<2 ^ n*(2*c+1):=Nat.lt_of_lt_of_le Nat.lt_two_pow_self (Nat.le_mul_of_pos_right _ (by omega))
  have g:∀q,o<2 ^ o*(2*q+1):=λq=>Nat.lt_of_lt_of_le Nat.lt_two_pow_self (Nat.le_mul_of_pos_right _ (by omega))
  cases p with
  | none=>
    refine⟨(b,2 ^ o*(2*0+1),2*(2 ^ n*(2*c+1))+1),?_⟩
    unfold q0j
    rw[if_neg (by simp only;omega),show(2*(2 ^ n*(2*c+1))+1) / 2=2 ^ n*(2*c+1)by omega,q3o c n _ h]
    simp only[q3o 0 o _ (g 0),if_true]
  | some p=>
    refine⟨(b,2 ^ o*(2*(p+1)+1),2*(2 ^ n*(2*c+1))+1),?_⟩
    unfold q0j
    rw[if_neg (by simp only;omega),show(2*(2 ^ n*(2*c+1))+1) / 2=2 ^ n*(2*c+1)by omega,q3o c n _ h]
    simp only[q3o (p+1) o _ (g (p+1)),Nat.add_sub_cancel,if_neg (Nat.succ_ne_zero p)]
def qap(n c:Nat):∃x,q0j x=(none,n,c):=by
 have h:n<2 ^ n*(2*c+1):=Nat.lt_of_lt_of_le Nat.lt_two_pow_self (Nat.le_mul_of_pos_right _ (by omega))
 refine⟨(0,0,2*(2 ^ n*(2*c+1))),?_⟩
 unfold q0j
 rw[if_pos (by simp only;omega),show(2*(2 ^ n*(2*c+1))) / 2=2 ^ n*(2*c+1)by omega,q3o c n _ h]
def slV(x:SV):Value:= .slice x.1 x.2.1 x.2.2
mutual
inductive VR(I:In):AV->Value->Prop
 |bool (b):VR I (.bool b) (.bool b)
 |int (k n):VR I (.int k n) (.int k n)
 |str (l):VR I (.str l) (.string (mkS l))
 |nilp:VR I .nilp (.pointer none)
 |ptr {id off b s t} (h:I id=some (b,s,t)):VR I (.ptr id off) (.pointer (some ⟨b,s+off,none⟩))
 |nsl:VR I .nsl (.slice none 0 0)
 |sl {id off len cap b s t} (h:I id=some (b,s,t)):VR I (.sl id off len cap) (.slice (some ⟨b,s+off,none⟩) len cap)
 |gsl {id off len esz b s t c o} (h:I id=some (b,s,t)) (h1:len<=c) (h2:off+c*esz<=t) (h3:o=s+off\/c=0):VR I (.gsl id off len esz) (.slice (some ⟨b,o,none⟩) len c)
 |nmap:VR I .nmap (.map none)
 |map {id b t} (h:I id=some (b,t)):VR I (.map id) (.map (some b))
 |fn {f caps vs} (h:VRs I caps vs):VR I (.fn f caps) (.func (.func f) #[] ⟨vs⟩)
 |nilf:VR I .nilf .nilFunc
 |nili:VR I .nili .nilIface
 |ifc {t a v} (h:VR I a v):VR I (.ifc t a) (.iface t v)
 |ifo {t v}:VR I .ifo (.iface t v)
 |anyi {k n}:VR I (.anyi k) (.int k n)
 |lin {k c l n} (h:LR I l n):VR I (.lin k c l) (.int k (c+n))
 |bfn {f first caps fs vs} (h1:VRs I first fs) (h:VRs I caps vs):VR I (.bfn f first caps) (.func (.func f) ⟨fs⟩ ⟨vs⟩)
 |agg {l vs} (h:VRs I l vs):VR I (.agg l) (.agg ⟨vs⟩)
 |tup {l vs} (h:VRs I l vs):VR I (.tup l) (.tuple ⟨vs⟩)
 |sv (v):VR I (.sv v) v
 |tsl {k x} (h:I k=some x):VR I (.tsl k) (slV (q0j x))
 |ssl {id off len esz k b s t c o x} (h:I id=some (b,s,t)) (h1:len<=c) (h2:off+c*esz<=t) (h3:o=s+off\/c=0) (hk:I k=some x) (hx:q0j x=(some ⟨b,o,none⟩,len,c)):VR I (.ssl id off len esz k) (.slice (some ⟨b,o,none⟩) len c)
 |msl {id len esz b s t} (h:I id=some (b,s,t)) (h2:len*esz<=t) (h3:0<esz):VR I (.msl id len esz) (.slice (some ⟨b,s,none⟩) len (t / esz))
 |usl {id off len esz b s t c o} (h:I id=some (b,s,t)) (h1:len<=c) (h2:off+c*esz<=t) (h3:o=s+off\/c=0):VR I (.usl id off len esz) (.slice (some ⟨b,o,none⟩) len c)
 |usl0 {id off len esz} (h:len=0):VR I (.usl id off len esz) (.slice none 0 0)
 |sptr {id off b s t} (h:I id=some (b,s,t)):VR I (.sptr id off) (.pointer (some ⟨b,s+off,none⟩))
 |tpt {k x} (h:I k=some x):VR I (.tpt k) (.pointer (q0j x).1)
 |tmap {k x} (h:I k=some x):VR I (.tmap k) (.map ((q0j x).1.map (·.block)))
 |ssl0 {id off len esz k x} (h:len=0) (hk:I k=some x) (hx:q0j x=(none,0,0)):VR I (.ssl id off len esz k) (.slice none 0 0)
inductive VRs(I:In):List AV->List Value->Prop
 |nil:VRs I [] []
 |cons {a l v vs} (h:VR I a v) (t:VRs I l vs):VRs I (a::l) (v::vs)
end
mutual
def VR.mono{I J:In} (hl:I.le J):∀{a v},VR I a v->VR J a v
 |_,_, .bool b=> .bool b
 |_,_, .int k n=> .int k n
 |_,_, .str l=> .str l
 |_,_, .nilp=> .nilp
 |_,_, .ptr h=> .ptr (hl _ _ h)
 |_,_, .nsl=> .nsl
 |_,_, .sl h=> .sl (hl _ _ h)
 |_,_, .gsl h h1 h2 h3=> .gsl (hl _ _ h) h1 h2 h3
 |_,_, .nmap=> .nmap
 |_,_, .map h=> .map (hl _ _ h)
 |_,_, .fn h=> .fn (VRs.mono hl h)
 |_,_, .nilf=> .nilf
 |_,_, .nili=> .nili
 |_,_, .ifc h=> .ifc (VR.mono hl h)
 |_,_, .ifo=> .ifo
 |_,_, .anyi=> .anyi
 |_,_, .lin h=> .lin (h.mono hl)
 |_,_, .bfn h1 h=> .bfn (VRs.mono hl h1) (VRs.mono hl h)
 |_,_, .agg h=> .agg (VRs.mono hl h)
 |_,_, .tup h=> .tup (VRs.mono hl h)
 |_,_, .sv v=> .sv v
 |_,_, .tsl h=> .tsl (hl _ _ h)
 |_,_, .ssl h h1 h2 h3 hk hx=> .ssl (hl _ _ h) h1 h2 h3 (hl _ _ hk) hx
 |_,_, .msl h h2 h3=> .msl (hl _ _ h) h2 h3
 |_,_, .usl h h1 h2 h3=> .usl (hl _ _ h) h1 h2 h3
 |_,_, .usl0 h=> .usl0 h
 |_,_, .sptr h=> .sptr (hl _ _ h)
 |_,_, .tpt h=> .tpt (hl _ _ h)
 |_,_, .tmap h=> .tmap (hl _ _ h)
 |_,_, .ssl0 h hk hx=> .ssl0 h (hl _ _ hk) hx
def VRs.mono{I J:In} (hl:I.le J):∀{a v},VRs I a v->VRs J a v
 |_,_, .nil=> .nil
 |_,_, .cons h t=> .cons (VR.mono hl h) (VRs.mono hl t)
end
variable {I:In}
def VR.ptr'{id off b s t o:Nat} (h:I id=some (b,s,t)) (e:o=s+off):VR I (.ptr id off) (.pointer (some ⟨b,o,none⟩)):=by subst e;exact .ptr h
def VR.sl'{id off len cap b s t o:Nat} (h:I id=some (b,s,t)) (e:o=s+off):VR I (.sl id off len cap) (.slice (some ⟨b,o,none⟩) len cap):=by subst e;exact .sl h
def VRs.len{I:In}:∀{l vs},VRs I l vs->l.length=vs.length
 |_,_, .nil=>rfl
 |_,_, .cons _ t=>by simp[VRs.len t]
def VRs.get{I:In}:∀{l:List AV} {vs:List Value},VRs I l vs->∀(i:Nat) (a:AV),l[i]? =some a->∃v,vs[i]? =some v/\VR I a v
  |_,_, .nil=>λi a h=>by simp at h
  | _,_, .cons h t=>λi a e=>by
    cases i with
    |zero=>simp at e;subst e;exact⟨_,rfl,h⟩
    |succ i=>exact VRs.get t i a (by simpa using e)
def VRs.take{I:In}:∀{l vs},VRs I l vs->∀n,VRs I (l.take n) (vs.take n)
  |_,_, .nil=>λn=>by simp;exact .nil
  | _,_, .cons h t=>λn=>by
    cases n with
    |zero=>exact .nil
    |succ n=>exact .cons h (VRs.take t n)
def VRs.drop{I:In}:∀{l vs},VRs I l vs->∀n,VRs I (l.drop n) (vs.drop n)
  |_,_, .nil=>λn=>by simp;exact .nil
  | _,_, .cons h t=>λn=>by
    cases n with
    |zero=>exact .cons h t
    |succ n=>exact VRs.drop t n
def VRs.append{I:In}:∀{l vs},VRs I l vs->∀{m us},VRs I m us->VRs I (l++m) (vs++us)
 |_,_, .nil=>λh=>h
 |_,_, .cons h t=>λg=> .cons h (VRs.append t g)
def VRs.set{I:In}:∀{l vs},VRs I l vs->∀(i:Nat) {a v},VR I a v->VRs I (l.set i a) (vs.set i v)
  |_,_, .nil=>λi _ _ _=>by simp;exact .nil
  | _,_, .cons h t=>λi _ _ g=>by
    cases i with
    |zero=>exact .cons g t
    |succ i=>exact .cons h (VRs.set t i g)
def q2j{α:Type} (P:Program):Sem α->Option α
 | .pure a=>some a
 | .program k=>q2j P (k P)
 | .mark _ k=>q2j P k
 |_=>none
def q0v{α:Type} (P:Program):∀(s:Sem α) (a:α),q2j P s=some a->∀w,s.run P w= .ok a w:=by
 intro s
 induction s with
 |pure b=>intro a h w;simp[q2j]at h;subst h;rfl
 |program k ih=>intro a h w;exact ih P a h w
 |mark m k ih=>intro a h w;exact ih a h w
 |_=>intro a h w;simp[q2j]at h
def qc4:AV->Option Value
 | .bool b=>some (.bool b)
 | .int k n=>some (.int k n)
 | .str l=>some (.string (mkS l))
 | .nilp=>some (.pointer none)
 | .nsl=>some (.slice none 0 0)
 | .nmap=>some (.map none)
 | .nilf=>some .nilFunc
 |_=>none
def q2e{a:AV} {v u:Value} (h:qc4 a=some v) (r:VR I a u):u=v:=by
 cases r<;>simp[qc4]at h<;>exact h
def q9u{a:AV} {v:Value} (h:qc4 a=some v):VR I a v:=by
 cases a<;>simp[qc4]at h<;>subst h<;>constructor
mutual
def q0s:Value->Option AV
 | .bool b=>some (.bool b)
 | .int k n=>some (.int k n)
 | .string s=>some (.str (s.data.toList.map UInt8.toNat))
 | .pointer none=>some .nilp
 | .slice none 0 0=>some .nsl
 | .map none=>some .nmap
 | .nilFunc=>some .nilf
 | .nilIface=>some .nili
 | .agg ⟨l⟩=>match ofVals l with|some x=>some (.agg x)|none=>none
 | .tuple ⟨l⟩=>match ofVals l with|some x=>some (.tup x)|none=>none
 |_=>none
def ofVals:List Value->Option (List AV)
  | []=>some []
  | v ::l=>match q0s v with
    | some a=>match ofVals l with
      |some x=>some (a::x)
      |none=>none
    |none=>none
end
def qjk(s:ByteArray):mkS (s.data.toList.map UInt8.toNat)=s:=by
 obtain⟨⟨l⟩⟩:=s
 simp only[mkS,List.map_map]
 congr 2
 exact(List.map_congr_left λx _=>by simp).trans (List.map_id l)
mutual
def q2a(I:In):∀(v:Value) (a:AV),q0s v=some a->VR I a v
  | .bool b,a,h=>by simp[q0s]at h;subst h;exact .bool b
  | .int k n,a,h=>by simp[q0s]at h;subst h;exact .int k n
  | .string s,a,h=>by
    simp only[q0s,Option.some.injEq]at h;subst h
    have:=VR.str (I:=I) (s.data.toList.map UInt8.toNat)
    rw[qjk]at this;exact this
  | .pointer none,a,h=>by simp[q0s]at h;subst h;exact .nilp
  | .pointer (some x),a,h=>by simp[q0s]at h
  | .slice none 0 0,a,h=>by simp[q0s]at h;subst h;exact .nsl
  | .slice none 0 (n+1),a,h=>by simp[q0s]at h
  | .slice none (n+1) m,a,h=>by simp[q0s]at h
  | .slice (some x) n m,a,h=>by simp[q0s]at h
  | .map none,a,h=>by simp[q0s]at h;subst h;exact .nmap
  | .map (some x),a,h=>by simp[q0s]at h
  | .nilFunc,a,h=>by simp[q0s]at h;subst h;exact .nilf
  | .agg ⟨l⟩,a,h=>by
    simp only[q0s]at h
    split at h
    · rename_i x hx;cases h;exact .agg (ofVals_rel I l _ hx)
    · cases h
  | .tuple ⟨l⟩,a,h=>by
    simp only[q0s]at h
    split at h
    · rename_i x hx;cases h;exact .tup (ofVals_rel I l _ hx)
    · cases h
  | .float ..,a,h=>by simp[q0s]at h
  | .complex ..,a,h=>by simp[q0s]at h
  | .chan ..,a,h=>by simp[q0s]at h
  | .func ..,a,h=>by simp[q0s]at h
  | .iface ..,a,h=>by simp[q0s]at h
  | .nilIface,a,h=>by simp[q0s]at h;subst h;exact .nili
def ofVals_rel(I:In):∀(v:List Value) (a:List AV),ofVals v=some a->VRs I a v
  | [],a,h=>by simp[ofVals]at h;subst h;exact .nil
  | v ::l,a,h=>by
    simp only[ofVals]at h
    split at h
    · rename_i x hx
      split at h
      · rename_i y hy;cases h;exact .cons (q2a I v _ hx) (ofVals_rel I l _ hy)
      · cases h
    · cases h
end
def ofC(v:Value):Option AV:=
 match v with
 | .bool b=>some (.bool b)
 | .int k n=>some (.int k n)
 | .string s=>some (.str (s.data.toList.map UInt8.toNat))
 | .nilFunc=>some .nilf
 | .nilIface=>some .nili
 |v=>q0s v
def qg3(v:Value):ofC v=q0s v:=by cases v<;>first|rfl|simp[ofC,q0s]
def q16:Nat:=1000000
def slot(tmps:Array Value) (n:Nat):Value:=if n<q16 then tmps.getD n undef else .pointer (some ⟨n- q16,0,none⟩)
def TR(I:In) (t:T AV) (tmps:Array Value):Prop:=∀n a,t.get n=some a->VR I a (slot tmps n)
def q1d{x:Array Value} {n:Nat} (h:n<q16):slot x n=x.getD n undef:=if_pos h
def TR.mono{I J:In} (hl:I.le J) {t:T AV} {x:Array Value} (h:TR I t x):TR J t x:=λn a e=>(h n a e).mono hl
def ev(t:T AV):Operand->Option AV
  | .tmp n=>match Nat.blt n q16 with
    |true=>t.get n
    |false=>none
  | .const v=>ofC v
  | .global g=>t.get (q16+g)
  | .func f=>some (.fn f [])
def q00{I:In} {t:T AV} {a:Act} (h:TR I t a.tmps) {x:Operand} {v:AV} (e:ev t x=some v):VR I v (a.eval x):=by
  cases x with
  | tmp n=>
    simp only[ev]at e
    split at e
    · rename_i hn
      have hn:n<q16:=by simpa[Nat.blt_eq]using hn
      have:=h n v e
      rw[q1d hn]at this;exact this
    · cases e
  |const c=>exact q2a I c v ((qg3 c).symm.trans e)
  | global g=>
    have:=h _ v e
    unfold slot at this
    rw[if_neg (by omega),Nat.add_sub_cancel_left]at this
    exact this
  |func f=>simp[ev]at e;subst e;exact .fn .nil
inductive AO where
 |cells (elem:TypeId) (fz:Option Nat) (grown:Bool) (l:List AV)
 |map (es:List (Value×AV×Nat)) (clock:Nat)
 |row (elem:TypeId) (fz:Nat) (vs:List Value)
 |mrow (es:List MapEntry) (clock:Nat)
 |iter (m since:Nat) (seen:List Nat) (c:Nat)
inductive MR(I:In):List (Value×AV×Nat)->List MapEntry->Prop
 |nil:MR I [] []
 |cons {k a n l v ms} (h:VR I a v) (t:MR I l ms):MR I ((k,a,n)::l) (⟨k,v,n⟩::ms)
def MR.mono{I J:In} (hl:I.le J) {l ms} (h:MR I l ms):MR J l ms:=by
 induction h with
 |nil=>exact .nil
 |cons h t ih=>exact .cons (h.mono hl) ih
inductive OR(I:In) (t:Nat×Nat):AO->Obj->Prop
 |cells {elem elem' fz g l pre vs rest fr} (h:VRs I l vs) (hg:g=false->rest=[]/\pre=[]) (hp:pre.length=t.1) (ht:(vs++rest).length=t.2) (hf:∀f,fz=some f->∀o,f<=o->o<t.2->¬(fr.1<=t.1+o/\t.1+o<fr.2)) (hE:elem'=elem\/fz=none/\g=true):OR I t (.cells elem fz g l) (.cells ⟨pre++(vs++rest)⟩ elem' fr)
 |map {es ms clock} (h:MR I es ms):OR I t (.map es clock) (.map ⟨ms⟩ clock)
 |row {elem fz pre vs rest fr} (hp:pre.length=t.1) (ht:(vs++rest).length=t.2) (hf:∀o,fz<=o->o<t.2->¬(fr.1<=t.1+o/\t.1+o<fr.2)):OR I t (.row elem fz vs) (.cells ⟨pre++(vs++rest)⟩ elem fr)
 |mrow {es clock}:OR I t (.mrow es clock) (.map ⟨es⟩ clock)
 |iter {m since seen c b t'} (h:I m=some (b,t')) (hp:t.1=0):OR I t (.iter m since seen c) (.mapIter (some b) since ⟨seen⟩ c)
def AO.rw:AO->Bool
 | .cells _ none _ _=>false
 |_=>true
def OR.mono{I J:In} (hl:I.le J) {t o ob} (h:OR I t o ob):OR J t o ob:=by
 cases h with
 |cells h hg hp ht hf hE=>exact .cells (VRs.mono hl h) hg hp ht hf hE
 |map h=>exact .map (h.mono hl)
 |row hp ht hf=>exact .row hp ht hf
 |mrow=>exact .mrow
 |iter h hp=>exact .iter (hl _ _ h) hp
structure Sim(F:Bool->Nat->Prop) (I:In) (h:T AO) (w:World):Prop where
 obj:∀id o b t,h.get id=some o->I id=some (b,t)->∃ob,w.heap[b]? =some ob/\OR I t o ob
 inj:∀id id' o o' b t t',h.get id=some o->h.get id'=some o'->I id=some (b,t)->I id'=some (b,t')->id=id'
 fr:∀id o b t,h.get id=some o->I id=some (b,t)->F true b->o.rw=false/\F false b
structure Same(w w':World):Prop where
 os:w'.os=w.os
 tape:w'.tape=w.tape
 output:w'.output=w.output
def Same.refl(w:World):Same w w:=⟨rfl,rfl,rfl⟩
def Same.trans{a b c:World} (h:Same a b) (g:Same b c):Same a c:=⟨g.os.trans h.os,g.tape.trans h.tape,g.output.trans h.output⟩
def q03(b o n:Nat):(⟨b,o,none⟩:Addr).add n=⟨b,o+n,none⟩:=by unfold Addr.add;split<;>simp_all
variable {w:World}
def cell_of{b:Nat} {c:Array Value} {e fr} (h:w.heap[b]? =some (.cells c e fr)) (o:Nat):w.cell? ⟨b,o,none⟩=c[o]? :=by
 simp[World.cell?,h]
def q66{P:Program} {w:World} {b o:Nat} {c:Array Value} {e fr} (h:w.heap[b]? =some (.cells c e fr)) (cs:List Value) (hc:∀(j:Nat) v,cs[j]? =some v->c[o+j]? =some v):
  (loadCells ⟨b,o,none⟩ cs.length).run P w= .ok ⟨cs⟩ w:=
 run_loadCells_list w ⟨b,o,none⟩ cs λj v hj=>by rw[q03,cell_of h];exact hc j v hj
def shapeOf(P:Program) (t:TypeId):Option (Option Nat):=
 match P.underlying t with
 |some (.struct _)|some (.array _ _)=>match P.info? t with|some i=>some (some i.size)|none=>none
 |some _=>some none
 |none=>none
def takeN(l:List AV) (o n:Nat):Option (List AV):=
 let x:=(l.drop o).take n
 if x.length=n then some x else none
def q76{I:In} {l:List AV} {pre vs rest:List Value} (h:VRs I l vs) {o n s:Nat} (hs:pre.length=s) {x:List AV} (e:takeN l o n=some x):
  ∃ys,VRs I x ys/\ys.length=n/\∀(j:Nat) v,ys[j]? =some v->(⟨pre++(vs++rest)⟩:Array Value)[s+o+j]? =some v:=by
 unfold takeN at e
 simp only at e
 split at e
 ·rename_i hl
  cases e
  have hr:=VRs.take (VRs.drop h o) n
  refine⟨_,hr,by rw[←hr.len];exact hl,λj v hj=> ?_⟩
  have h1:((vs.drop o).take n)[j]? =some v:=hj
  rw[List.getElem?_take]at h1
  split at h1
  ·rw[List.getElem?_drop]at h1
   simp only[List.getElem?_toArray]
   rw[List.getElem?_append_right (by omega),show s+o+j- pre.length=o+j by omega,List.getElem?_append_left (by have:=(List.getElem?_eq_some_iff.1 h1).1;exact this)]
   exact h1
  ·cases h1
 ·cases e
def qbk(P:Program) (h:T AO) (t:TypeId) (id off:Nat):Option AV:=
  match h.get id with
  | some (.cells _ _ _ l)=>match shapeOf P t with
    |some (some n)=>match takeN l off n with|some x=>some (.agg x)|none=>none
    |some none=>match l.drop off with|x::_=>some x| []=>none
    |none=>none
  |_=>none
def q1m{P:Program} {t:TypeId} {s} (h:shapeOf P t=some s):(isAgg t).run P w= .ok s.isSome w/\(∀n,s=some n->(sizeOf t).run P w= .ok n w):=by
  unfold shapeOf at h
  have hu:∀d,P.underlying t=some d->(underlying t).run P w= .ok d w:=λd hd=>run_underlying (P:=P) hd w
  cases hd:P.underlying t with
  |none=>rw[hd]at h;cases h
  | some d=>
    rw[hd]at h
    have:=hu d hd
    have key:∀n,(match P.info? t with|some i=>some (some i.size)|none=>none)=some (some n)->(sizeOf t).run P w= .ok n w:=λn hn=>by
      cases hi:P.info? t with
      |none=>rw[hi]at hn;cases hn
      | some i=>
        rw[hi]at hn;cases hn
        simp[sizeOf,typeInfo,program,Sem.run,hi,bind,Sem.bind,pure]
    cases d<;>simp only at h
    case struct fs=>
      cases hi:P.info? t with
      |none=>rw[hi]at h;cases h
      | some i=>
        rw[hi]at h;cases h
        refine⟨by simp[isAgg,this,Result.andThen],λn hn=>key n (by rw[hi];exact congrArg some hn)⟩
    case array k e=>
      cases hi:P.info? t with
      |none=>rw[hi]at h;cases h
      | some i=>
        rw[hi]at h;cases h
        refine⟨by simp[isAgg,this,Result.andThen],λn hn=>key n (by rw[hi];exact congrArg some hn)⟩
    all_goals
      cases h
      exact⟨by simp[isAgg,this,Result.andThen],λn hn=>by cases hn⟩
variable {w:World}
def q6o {P :Program} {F:Bool->Nat->Prop} {I:In} {h:T AO} (hs:Sim F I h w) {t:TypeId} {id off b s k:Nat} {a:AV} (e:qbk P h t id off=some a) (hi:I id=some (b,s,k)):
    ∃v,(loadVar t ⟨b,s+off,none⟩).run P w= .ok v w/\VR I a v:=by
  unfold qbk at e
  split at e
  · rename_i el fz g l hg
    obtain⟨ob,hb,ho⟩:=hs.obj _ _ _ _ hg hi
    cases ho with
    | @cells _ _ _ _ _ pre vs rest fr h hg' hp ht hf hE=>
      split at e
      · rename_i n hsh
        split at e
        · rename_i x hx
          cases e
          obtain⟨ys,hy,hl,hc⟩:=q76 (rest:=rest) h hp hx
          have hr:=q66 (P:=P) hb ys hc
          rw[hl]at hr
          obtain⟨h1,h2⟩:=q1m (P:=P) (w:=w) hsh
          refine⟨.agg ⟨ys⟩,?_, .agg hy⟩
          simp[loadVar,h1,h2 n rfl,hr,Result.andThen]
        · cases e
      · rename_i hsh
        split at e
        · rename_i x r hx
          cases e
          have hd:=VRs.drop h off
          rw[hx]at hd
          obtain⟨h1,h2⟩:=q1m (P:=P) (w:=w) hsh
          cases hvs:vs.drop off with
          |nil=>rw[hvs]at hd;cases hd
          | cons v vr=>
            rw[hvs]at hd
            cases hd with
            | cons hv _=>
              refine⟨v,?_,hv⟩
              have hvo:vs[off]? =some v:=by
                have:(vs.drop off)[0]? =some v:=by rw[hvs];rfl
                rw[List.getElem?_drop]at this;simpa using this
              have hcell:w.cell? ⟨b,s+off,none⟩=some v:=by
                rw[cell_of hb]
                simp only[List.getElem?_toArray]
                simp only at hp
                rw[List.getElem?_append_right (by omega),show s+off- pre.length=off by omega,List.getElem?_append_left (List.getElem?_eq_some_iff.1 hvo).1]
                exact hvo
              have hld:(load ⟨b,s+off,none⟩).run P w= .ok v w:=by simp[load,Sem.run,hcell]
              simp[loadVar,h1,hld,Result.andThen]
        · cases e
      · cases e
  · cases e
def q09(w:World) (b:Nat) (o:Obj):World:={w with heap:=w.heap.setIfInBounds b o}
variable {b:Nat}
def q0r{o o':Obj} (h:w.heap[b]? =some o'):(q09 w b o).heap[b]? =some o:=by
 have:=(Array.getElem?_eq_some_iff.1 h).1
 simp[q09,this]
variable {o:Obj}
def q0b{b c:Nat} (h:c≠b):(q09 w b o).heap[c]? =w.heap[c]? :=by
 simp[q09,Array.getElem?_setIfInBounds_ne (Ne.symm h)]
def q0h:(q09 w b o).heap.size=w.heap.size:=by simp[q09]
def q0g:Same w (q09 w b o):=⟨rfl,rfl,rfl⟩
def spl{α:Type} (l:List α) (k:Nat):List α->List α
 | []=>l
 |x::xs=>spl (l.set k x) (k+1) xs
def q92{α:Type}:∀(xs:List α) (l:List α) (k:Nat),(spl l k xs).length=l.length
 | [],_,_=>rfl
 |x::xs,l,k=>by rw[spl,q92 xs];simp
def q3l{α:Type}:∀(xs l r:List α) (k:Nat),k+xs.length<=l.length->spl (l++r) k xs=spl l k xs++r
  | [],_,_,_,_=>rfl
  | x::xs,l,r,k,h=>by
    simp only[List.length_cons]at h
    rw[spl,spl,List.set_append_left _ _ (by omega),q3l xs _ r (k+1) (by simp;omega)]
def q93{I:In}:∀{xs:List AV} {us:List Value},VRs I xs us->∀{l vs} (k:Nat),VRs I l vs->VRs I (spl l k xs) (spl vs k us)
 |_,_, .nil=>λ_ h=>h
 |_,_, .cons h t=>λk g=>q93 t (k+1) (VRs.set g k h)
def q5h{α:Type}:∀(xs p l:List α) (k:Nat),spl (p++l) (p.length+k) xs=p++spl l k xs
  | [],_,_,_=>rfl
  | x::xs,p,l,k=>by
    rw[spl,spl,List.set_append_right _ _ (by omega),Nat.add_sub_cancel_left,Nat.add_assoc,q5h xs p _ (k+1)]
def atom:AV->Bool
 | .agg _| .tup _=>false
 | .sv v=>v.oneCell'
 |_=>true
def qeb{I:In} {a:AV} {v:Value} (h:VR I a v) (ha:atom a=true):v.oneCell'=true:=by
 cases h<;>first|rfl|exact ha|simp[atom]at ha
def q26{I:In}:∀{xs:List AV} {us:List Value},VRs I xs us->xs.all atom=true->∀v∈us,v.oneCell'=true
  |_,_, .nil=>λ_ v hv=>by cases hv
  | _,_, .cons h t=>λha v hv=>by
    simp only[List.all_cons,Bool.and_eq_true]at ha
    cases hv with
    |head=>exact qeb h ha.1
    |tail _ hm=>exact q26 t ha.2 v hm
def q17{P:Program} {b o:Nat} {e:TypeId} {fr:Nat×Nat}:∀(vs:List Value) (i:Nat) (cur:List Value) (w:World),w.heap[b]? =some (.cells ⟨cur⟩ e fr)->o+i+vs.length<=cur.length->
    (∀j,o+i<=j->j<o+i+vs.length->¬(fr.1<=j/\j<fr.2))->(∀v∈vs,v.oneCell'=true)->
    ∃w',(storeCells ⟨b,o,none⟩ vs i).run P w= .ok () w'/\w'.heap[b]? =some (.cells ⟨spl cur (o+i) vs⟩ e fr)/\(∀c,c≠b->w'.heap[c]? =w.heap[c]?)/\w'.heap.size=w.heap.size/\Same w w'
  | [],i,cur,w,h,_,_,_=>⟨w,rfl,h,λ_ _=>rfl,rfl, .refl w⟩
  | v ::r,i,cur,w,h,hl,hf,h1=>by
    simp only[List.length_cons]at hl hf
    have hcell:∃u,w.cell? ⟨b,o+i,none⟩=some u:=by
      rw[cell_of h]
      exact⟨_,by simp only[List.getElem?_toArray];exact List.getElem?_eq_getElem (by omega)⟩
    obtain⟨u,hu⟩:=hcell
    have hfz:w.frozen? ⟨b,o+i,none⟩=false:=by
      have:=hf (o+i) (Nat.le_refl _) (by omega)
      simp only[World.frozen?,h]
      simp only[Bool.and_eq_false_iff,decide_eq_false_iff_not]
      omega
    have hst:(store ((⟨b,o,none⟩:Addr).add i) v).run P w= .ok () (w.setCell ⟨b,o+i,none⟩ v):=by
      rw[q03,run_store P w _ v _ (h1 v (by simp))]
      simp[hu,hfz]
    have hat:(w.setCell ⟨b,o+i,none⟩ v).heap[b]? =some (.cells ⟨cur.set (o+i) v⟩ e fr):=by
      simp only[World.setCell,Array.getElem?_modify,if_true,h,Option.map_some]
      simp
    have hf2:∀j,o+(i+1)<=j->j<o+(i+1)+r.length->¬(fr.1<=j/\j<fr.2):=λj a1 a2=>hf j (by omega) (by omega)
    obtain⟨w',h2,h3,h4,h5,h6⟩:=q17 r (i+1) (cur.set (o+i) v) (w.setCell ⟨b,o+i,none⟩ v) hat (by rw[List.length_set];omega) hf2 (λv hv=>h1 v (by simp[hv]))
    refine⟨w',?_,?_,?_,?_,?_⟩
    · simp only[storeCells,Sem.run_bind,hst,Result.andThen]
      exact h2
    · rw[h3,spl];rfl
    · intro c hc
      rw[h4 c hc,Below.heap_setCell _ _ _ _ hc]
    · rw[h5];simp
    · exact Same.trans (b:=w.setCell ⟨b,o+i,none⟩ v) ⟨rfl,rfl,rfl⟩ h6
structure Grow(F:Bool->Nat->Prop) (I:In) (nx:Nat) (w:World) (I':In) (nx':Nat) (h':T AO) (w':World):Prop where
 le:I.le I'
 new:∀i x,I' i=some x->I i=some x\/nx<=i/\i<nx'
 sim:Sim F I' h' w'
 fr:∀b,F true b->w'.heap[b]? =w.heap[b]?
 size:w.heap.size<=w'.heap.size
 same:Same w w'
def Sim.grow{F I h w} (s:Sim F I h w) (nx:Nat):Grow F I nx w I nx h w:=⟨In.le_refl I,λ_ _ h=> .inl h,s,λ_ _=>rfl,Nat.le_refl _, .refl w⟩
def Sim.upd{F I h w} (s:Sim F I h w) {id b t o o' h'} (hg:h.get id=some o) (hrw:o.rw=true) (hi:I id=some (b,t)) (hp:T.put 64 id (some o') h=some h') {w' ob'} (hb:w'.heap[b]? =some ob') (ho:OR I t o' ob') (hoth:∀c,c≠b->w'.heap[c]? =w.heap[c]?) (hsz:w'.heap.size=w.heap.size) (hsame:Same w w') (nx:Nat):
  Grow F I nx w I nx h' w':=by
 have hget:=T.get_put _ _ _ _ _ hp
 refine⟨In.le_refl I,λ_ _ h=> .inl h,⟨?_,?_,?_⟩,λc hc=> ?_,Nat.le_of_eq hsz.symm,hsame⟩
 ·intro id1 o1 b1 t1 h1 h2
  rw[hget]at h1
  split at h1
  ·rename_i e;subst e;cases h1
   rw[hi]at h2;cases h2
   exact⟨_,hb,ho⟩
  ·rename_i e
   obtain⟨ob,h3,h4⟩:=s.obj _ _ _ _ h1 h2
   have:b1≠b:=λeb=>e (s.inj id1 id o1 o b t1 t h1 hg (eb ▸ h2) hi)
   exact⟨ob,(hoth b1 this).trans h3,h4⟩
 ·intro id1 id2 o1 o2 b1 t1 t2 h1 h2 i1 i2
  have live:∀k ok,h'.get k=some ok->∃o,h.get k=some o:=λk ok hk=>by
   rw[hget]at hk
   split at hk
   ·rename_i e;subst e;exact⟨_,hg⟩
   ·exact⟨_,hk⟩
  obtain⟨p1,q1⟩:=live _ _ h1
  obtain⟨p2,q2⟩:=live _ _ h2
  exact s.inj _ _ _ _ _ _ _ q1 q2 i1 i2
 ·intro id1 o1 b1 t1 h1 h2 hf
  rw[hget]at h1
  split at h1
  ·rename_i e;subst e
   have:=(s.fr _ _ _ _ hg h2 hf).1
   rw[hrw]at this;cases this
  ·exact s.fr _ _ _ _ h1 h2 hf
 ·exact hoth c λe=>by
   have:=(s.fr _ _ _ _ hg hi (e ▸ hc)).1
   rw[hrw]at this;cases this
def ext(I:In) (nx:Nat) (x:Nat×Nat×Nat):In:=λi=>if i=nx then some x else I i
def q06(I:In) (nx:Nat) (x:Nat×Nat×Nat):ext I nx x nx=some x:=by simp[ext]
variable {nx:Nat}
def q1l{I:In} (x:Nat×Nat×Nat) (h:I nx=none):I.le (ext I nx x):=λi y hi=>by
 unfold ext;split
 ·rename_i e;subst e;rw[h]at hi;cases hi
 ·exact hi
def qcb{I:In} {x:Nat×Nat×Nat}:∀i y,ext I nx x i=some y->I i=some y\/nx<=i/\i<nx+1:=λi y h=>by
 unfold ext at h;split at h
 ·rename_i e;subst e;exact .inr ⟨Nat.le_refl _,Nat.lt_succ_self _⟩
 ·exact .inl h
def Sim.push{F I h w} (s:Sim F I h w) {nx t o h'} (hi:I nx=none) (hF:∀b,F true b->b<w.heap.size) (hp:T.put 64 nx (some o) h=some h') {w' ob} (hb:w'.heap=w.heap.push ob) (ho:OR (ext I nx (w.heap.size,t)) t o ob) (hsame:Same w w'):
  Grow F I nx w (ext I nx (w.heap.size,t)) (nx+1) h' w':=by
 have hget:=T.get_put _ _ _ _ _ hp
 have hle:=q1l (w.heap.size,t) hi
 have old:∀c,c<w.heap.size->w'.heap[c]? =w.heap[c]? :=λc hc=>by rw[hb,Array.getElem?_push,if_neg (by omega)]
 refine⟨hle,qcb,⟨?_,?_,?_⟩,λc hc=>old c (hF c hc),by rw[hb];simp,hsame⟩
 ·intro id1 o1 b1 t1 h1 h2
  rw[hget]at h1
  split at h1
  ·rename_i e;subst e;cases h1
   rw[q06]at h2;cases h2
   exact⟨ob,by rw[hb];simp,ho⟩
  ·rename_i e
   simp only[ext,if_neg e]at h2
   obtain⟨ob1,h3,h4⟩:=s.obj _ _ _ _ h1 h2
   exact⟨ob1,(old b1 (Array.getElem?_eq_some_iff.1 h3).1).trans h3,h4.mono hle⟩
 ·intro id1 id2 o1 o2 b1 t1 t2 h1 h2 i1 i2
  rw[hget]at h1 h2
  have low:∀k ok b t,h.get k=some ok->I k=some (b,t)->b≠w.heap.size:=λk ok b t hk hi=>by
   obtain⟨ob1,h3,_⟩:=s.obj _ _ _ _ hk hi
   have:=(Array.getElem?_eq_some_iff.1 h3).1
   omega
  split at h1<;>split at h2<;>rename_i e1 e2
  ·rw[e1,e2]
  ·subst e1;rw[q06]at i1;cases i1
   simp only[ext,if_neg e2]at i2
   exact absurd rfl (low _ _ _ _ h2 i2)
  ·subst e2;rw[q06]at i2;cases i2
   simp only[ext,if_neg e1]at i1
   exact absurd rfl (low _ _ _ _ h1 i1)
  ·simp only[ext,if_neg e1]at i1
   simp only[ext,if_neg e2]at i2
   exact s.inj _ _ _ _ _ _ _ h1 h2 i1 i2
 ·intro id1 o1 b1 t1 h1 h2 hf
  rw[hget]at h1
  split at h1
  ·rename_i e;subst e
   rw[q06]at h2;cases h2
   have:=hF _ hf;omega
  ·rename_i e
   simp only[ext,if_neg e]at h2
   exact s.fr _ _ _ _ h1 h2 hf
def Sim.over{F I h w} (s:Sim F I h w) {id b t o0 nx o h1 h'} (hg:h.get id=some o0) (hrw:o0.rw=true) (hid:I id=some (b,t)) {t':Nat×Nat} (hi:I nx=none) (hp1:T.put 64 id none h=some h1) (hp:T.put 64 nx (some o) h1=some h') {w' ob} (hb:w'.heap[b]? =some ob) (ho:OR (ext I nx (b,t')) t' o ob) (hoth:∀c,c≠b->w'.heap[c]? =w.heap[c]?) (hsz:w'.heap.size=w.heap.size) (hsame:Same w w'):
  Grow F I nx w (ext I nx (b,t')) (nx+1) h' w':=by
 have hget1:=T.get_put _ _ _ _ _ hp1
 have hget:∀j,h'.get j=if j=nx then some o else if j=id then none else h.get j:=λj=>by rw[T.get_put _ _ _ _ _ hp j,hget1]
 have hle:=q1l (b,t') hi
 refine⟨hle,qcb,⟨?_,?_,?_⟩,λc hc=>hoth c λe=>(by
   have:=(s.fr _ _ _ _ hg hid (e ▸ hc)).1
   rw[hrw]at this;cases this),by omega,hsame⟩
 ·intro id1 o1 b1 t1 h1 h2
  rw[hget]at h1
  split at h1
  ·rename_i e;subst e;cases h1
   rw[q06]at h2;cases h2
   exact⟨ob,hb,ho⟩
  ·rename_i e
   split at h1
   ·cases h1
   ·rename_i e'
    simp only[ext,if_neg e]at h2
    obtain⟨ob1,h3,h4⟩:=s.obj _ _ _ _ h1 h2
    have:b1≠b:=λeb=>e' (s.inj id1 id o1 o0 b t1 t h1 hg (eb ▸ h2) hid)
    exact⟨ob1,(hoth b1 this).trans h3,h4.mono hle⟩
 ·intro id1 id2 o1 o2 b1 t1 t2 h1 h2 i1 i2
  rw[hget]at h1 h2
  have low:∀k ok t',k≠id->h.get k=some ok->I k=some (b,t')->False:=λk ok t' hne hk hi=>hne (s.inj k id ok o0 b t' t hk hg hi hid)
  split at h1<;>split at h2<;>rename_i e1 e2
  ·rw[e1,e2]
  ·subst e1;rw[q06]at i1;cases i1
   split at h2
   ·cases h2
   ·rename_i e'
    simp only[ext,if_neg e2]at i2
    exact(low _ _ _ e' h2 i2).elim
  ·subst e2;rw[q06]at i2;cases i2
   split at h1
   ·cases h1
   ·rename_i e'
    simp only[ext,if_neg e1]at i1
    exact(low _ _ _ e' h1 i1).elim
  ·simp only[ext,if_neg e1]at i1
   simp only[ext,if_neg e2]at i2
   split at h1
   ·cases h1
   ·split at h2
    ·cases h2
    ·exact s.inj _ _ _ _ _ _ _ h1 h2 i1 i2
 ·intro id1 o1 b1 t1 h1 h2 hf
  rw[hget]at h1
  split at h1
  ·rename_i e;subst e
   rw[q06]at h2;cases h2
   have:=(s.fr _ _ _ _ hg hid hf).1
   rw[hrw]at this;cases this
  ·rename_i e
   split at h1
   ·cases h1
   ·simp only[ext,if_neg e]at h2
    exact s.fr _ _ _ _ h1 h2 hf
def qe3(P:Program) (s:Sem Next) (I:In) (a:AV):Prop:=∃v,(∀w,s.run P w= .ok (.value v) w)/\VR I a v
def q05(P:Program) (s:Sem Value) (I:In) (a:AV):Prop:=∃v,(∀w,s.run P w= .ok v w)/\VR I a v
variable {s:Sem Value} {I:In}
def q05.next{P:Program} {a:AV} (h:q05 P s I a):qe3 P (do pure (.value (←s))) I a:=by
 obtain⟨v,h1,h2⟩:=h
 exact⟨v,λw=>by simp[h1 w,Result.andThen],h2⟩
def q4w{P:Program} {a:AV} {v:Value} (h:q2j P s=some v) (g:q0s v=some a):q05 P s I a:=
 ⟨v,q0v P s v h,q2a I v a g⟩
def nth{α:Type}:List α->Nat->Option α
  | [],_=>none
  | x::l,n=>match n with
    |0=>some x
    |n+1=>nth l n
def q0q{α:Type}:∀(l:List α) (n:Nat),nth l n=l[n]?
 | [],_=>by simp[nth]
 |x::l,0=>by simp[nth]
 |x::l,n+1=>by simp[nth,q0q l n]
def eqS:List Nat->List Nat->Bool
 | [],[]=>true
 |a::x,b::y=>if a % 256=b % 256 then eqS x y else false
 |_,_=>false
def q68(l:List Nat):(mkS l).toList=l.map UInt8.ofNat:=by
 rw[ByteArray.toList_eq];rfl
def q0l(l:List Nat):(mkS l).size=l.length:=by simp[mkS,ByteArray.size]
def q56(l:List Nat) (a b:Nat):(mkS l).extract a b=mkS ((l.drop a).take (b- a)):=by
 unfold mkS
 apply ByteArray.ext
 simp
def qaf(l m:List Nat):mkS l++mkS m=mkS (l++m):=by
 unfold mkS
 apply ByteArray.ext
 simp
def qcw(l:List Nat) (i:Nat):(mkS l)[i]? =(l[i]?).map UInt8.ofNat:=by
 by_cases h:i<l.length
 ·have h2:i<(mkS l).size:=by rw[q0l];exact h
  rw[ByteArray.getElem?_lt' _ _ h2,List.getElem?_eq_getElem h]
  simp only[Option.map_some,Option.some.injEq]
  show(mkS l).data[i]=_
  simp[mkS]
 ·rw[ByteArray.getElem?_ge' _ _ (by rw[q0l];exact h),List.getElem?_eq_none (by omega)]
  rfl
def ofNat_eq(a b:Nat):(UInt8.ofNat a=UInt8.ofNat b)↔a % 256=b % 256:=by
 constructor
 ·intro h
  have:=congrArg UInt8.toNat h
  simpa[UInt8.toNat_ofNat']using this
 ·intro h
  apply UInt8.toNat_inj.1
  simpa[UInt8.toNat_ofNat']using h
def qft:∀(a b:List Nat),eqS a b=(a.map UInt8.ofNat==b.map UInt8.ofNat)
  | [],[]=>rfl
  | [],_::_=>rfl
  |_::_,[]=>rfl
  | a ::x,b::y=>by
    rw[eqS]
    split
    · rename_i h
      rw[qft x y,List.map_cons,List.map_cons,List.cons_beq_cons,(ofNat_eq a b).2 h];simp
    · rename_i h
      rw[List.map_cons,List.map_cons,List.cons_beq_cons]
      have:(UInt8.ofNat a==UInt8.ofNat b)=false:=by
        rw[beq_eq_false_iff_ne];exactλe=>h ((ofNat_eq a b).1 e)
      rw[this];rfl
def ltS:List Nat->List Nat->Bool
 |_,[]=>false
 | [],_::_=>true
 |a::x,b::y=>if a % 256<b % 256 then true else if a % 256=b % 256 then ltS x y else false
def qg2:∀(a b:List Nat),ltS a b=Op.bytesLess (a.map UInt8.ofNat) (b.map UInt8.ofNat)
  | [],[]=>rfl
  | [],_::_=>rfl
  |_::_,[]=>rfl
  | a ::x,b::y=>by
    rw[ltS,List.map_cons,List.map_cons,Op.bytesLess,←qg2 x y]
    have h1:decide (UInt8.ofNat a<UInt8.ofNat b)=decide (a % 256<b % 256):=by
      simp[UInt8.lt_iff_toNat_lt,UInt8.toNat_ofNat']
    have h2:(UInt8.ofNat a==UInt8.ofNat b)=decide (a % 256=b % 256):=by
      by_cases h:a % 256=b % 256
      · rw[(ofNat_eq a b).2 h];simp[h]
      · rw[decide_eq_false h,beq_eq_false_iff_ne];exactλe=>h ((ofNat_eq a b).1 e)
    rw[h1,h2]
    by_cases h:a % 256<b % 256
    · simp[h]
    · by_cases g:a % 256=b % 256<;>simp[h,g]
def qi7(op:BinOp) (a b:List Nat):Option AV:=
 match op with
 | .add=>if a.length+b.length<9223372036854775808 then some (.str (a++b))else none
 | .eql=>some (.bool (eqS a b))
 | .neq=>some (.bool (!eqS a b))
 | .lss=>some (.bool (ltS a b))
 | .leq=>some (.bool (ltS a b||eqS a b))
 | .gtr=>some (.bool (!(ltS a b||eqS a b)))
 | .geq=>some (.bool (!ltS a b))
 |_=>none
variable {op:BinOp}
def qff{P:Program} {a b:List Nat} {r:AV} (h:qi7 op a b=some r):q05 P (Op.stringOp op (mkS a) (mkS b)) I r:=by
 unfold Op.stringOp
 rw[q68,q68,←qft,←qg2]
 cases op<;>simp only[qi7]at h
 case add=>
  split at h
  ·rename_i hl
   cases h
   refine⟨.string (mkS (a++b)),λw=> ?_, .str _⟩
   have hn:¬(((mkS a).size+(mkS b).size:Nat):Int)>IntKind.i64.max:=by
    rw[q0l,q0l];simp[IntKind.max,IntKind.signed,IntKind.bits];omega
   simp only[if_neg hn,qaf];rfl
  ·cases h
 all_goals (first| (cases h;done)| (cases h;exact⟨_,λw=>rfl, .bool _⟩))
def fits:IntKind->Int->Bool
 | .i64, .ofNat n=>Nat.ble n 9223372036854775807
 | .i64, .negSucc n=>Nat.ble n 9223372036854775807
 | .u64, .ofNat n=>Nat.ble n 18446744073709551615
 | .i32, .ofNat n=>Nat.ble n 2147483647
 | .i32, .negSucc n=>Nat.ble n 2147483647
 | .u32, .ofNat n=>Nat.ble n 4294967295
 | .u8, .ofNat n=>Nat.ble n 255
 |_,_=>false
variable {k:IntKind}
def q4v{n:Int} (h:fits k n=true):k.wrap n=n:=by
 unfold fits at h
 split at h
 all_goals (try (cases h;done))
 all_goals
  have h:=Nat.le_of_ble_eq_true h
  simp only[IntKind.wrap,IntKind.bits,IntKind.signed,Int.negSucc_eq,Int.ofNat_eq_natCast]
  simp
  try omega
def ltI:Int->Int->Bool
 | .ofNat a, .ofNat b=>Nat.blt a b
 | .ofNat _, .negSucc _=>false
 | .negSucc _, .ofNat _=>true
 | .negSucc a, .negSucc b=>Nat.blt b a
def eqI:Int->Int->Bool
 | .ofNat a, .ofNat b=>Nat.beq a b
 | .negSucc a, .negSucc b=>Nat.beq a b
 |_,_=>false
def blt_eq(a b:Nat):Nat.blt a b=decide (a<b):=by
 by_cases h:a<b
 ·rw[decide_eq_true h];simpa[Nat.blt_eq]using h
 ·rw[decide_eq_false h];rw[Bool.eq_false_iff];simpa[Nat.blt_eq]using h
def qgw(a b:Nat):Nat.beq a b=decide (a=b):=by
 by_cases h:a=b
 ·subst h;simp
 ·rw[decide_eq_false h];cases hb:Nat.beq a b with
  |true=>exact absurd (Nat.eq_of_beq_eq_true hb) h
  |false=>rfl
def q67(a b:Int):ltI a b=decide (a<b):=by
 cases a<;>cases b<;>simp only[ltI,blt_eq,Int.ofNat_eq_natCast,Int.negSucc_eq]<;>first| (apply decide_eq_decide.2;omega)| (symm;apply decide_eq_true;omega)| (symm;apply decide_eq_false;omega)
def q9d(a b:Int):eqI a b=decide (a=b):=by
 cases a<;>cases b<;>simp only[eqI,qgw,Int.ofNat_eq_natCast,Int.negSucc_eq]<;>first| (apply decide_eq_decide.2;omega)| (symm;apply decide_eq_false;omega)
def qhc(op:BinOp) (k:IntKind) (x y:Int):Option AV:=
 match op with
 | .add=>let r:=Int.add x y;match fits k r with|true=>some (.int k r)|false=>none
 | .sub=>let r:=Int.sub x y;match fits k r with|true=>some (.int k r)|false=>none
 | .eql=>some (.bool (eqI x y))
 | .neq=>some (.bool (!eqI x y))
 | .lss=>some (.bool (ltI x y))
 | .gtr=>some (.bool (ltI y x))
 | .leq=>some (.bool (!ltI y x))
 | .geq=>some (.bool (!ltI x y))
 |_=>none
def qan:IntKind->IntKind->Bool
 | .i64, .i64| .u64, .u64| .i32, .i32| .u32, .u32| .u8, .u8=>true
 |_,_=>false
def q74{k k':IntKind} (h:qan k k'=true):k=k':=by
 cases k<;>cases k'<;>first|rfl|cases h
def qem{P:Program} {t:TypeId} {x y:Int} {r:AV} (h:qhc op k x y=some r):q05 P (binOp op t (.int k x) (.int k y)) I r:=by
 cases op<;>simp only[qhc]at h
 case add=>
  split at h
  ·rename_i hf;cases h
   exact⟨_,λw=>by simp only[binOp,ne_eq,not_true,if_false,Op.intArith,Sem.run_pure];rw[show x+y=Int.add x y from rfl,q4v hf], .int _ _⟩
  ·cases h
 case sub=>
  split at h
  ·rename_i hf;cases h
   exact⟨_,λw=>by simp only[binOp,ne_eq,not_true,if_false,Op.intArith,Sem.run_pure];rw[show x- y=Int.sub x y from rfl,q4v hf], .int _ _⟩
  ·cases h
 case eql=>cases h;exact⟨.bool (x==y),λw=>by simp only[binOp,ne_eq,not_true,if_false,Op.intCmp,Sem.run_pure],by rw[show(x==y)=decide (x=y)from rfl,←q9d];exact .bool _⟩
 case neq=>cases h;exact⟨.bool (x !=y),λw=>by simp only[binOp,ne_eq,not_true,if_false,Op.intCmp,Sem.run_pure],by rw[show(x !=y)= !decide (x=y)from rfl,←q9d];exact .bool _⟩
 case lss=>cases h;exact⟨.bool (decide (x<y)),λw=>by simp only[binOp,ne_eq,not_true,if_false,Op.intCmp,Sem.run_pure],by rw[←q67];exact .bool _⟩
 case gtr=>cases h;exact⟨.bool (decide (x>y)),λw=>by simp only[binOp,ne_eq,not_true,if_false,Op.intCmp,Sem.run_pure],by rw[show decide (x>y)=decide (y<x)from rfl,←q67];exact .bool _⟩
 case leq=>cases h;exact⟨.bool (decide (x<=y)),λw=>by simp only[binOp,ne_eq,not_true,if_false,Op.intCmp,Sem.run_pure],by
  have:decide (x<=y)= !ltI y x:=by rw[q67];by_cases h:y<x<;>simp[h]<;>omega
  rw[this];exact .bool _⟩
 case geq=>cases h;exact⟨.bool (decide (x>=y)),λw=>by simp only[binOp,ne_eq,not_true,if_false,Op.intCmp,Sem.run_pure],by
  have:decide (x>=y)= !ltI x y:=by rw[q67];by_cases h:x<y<;>simp[h]<;>omega
  rw[this];exact .bool _⟩
 all_goals cases h
def qav(P:Program) (op:BinOp) (t:TypeId) (a b:AV):Option AV:=
  match a,b with
  | .int k x, .int k' y=>match(match qan k k' with|true=>qhc op k x y|false=>none)with
    |some r=>some r
    |none=>match q2j P (binOp op t (.int k x) (.int k' y))with|some v=>ofC v|none=>none
  | .str x, .str y=>qi7 op x y
  | .bool x, .bool y=>match q2j P (binOp op t (.bool x) (.bool y))with|some v=>q0s v|none=>none
  | a,b=>
    match op with
    | .eql| .neq=>match aeq P t a b with|some r=>some (.bool (if op matches .eql then r else !r))|none=>none
    |_=>none
where
  aeq (P:Program) (t:TypeId) (a b:AV):Option Bool:=
    match P.underlying t,a,b with
    |some (.pointer _), .nilp, .nilp=>some true
    |some (.pointer _), .nilp, .ptr .. =>some false
    |some (.pointer _), .ptr .., .nilp=>some false
    |some (.pointer e), .ptr i f, .ptr j g=>if i=j then(match P.info? e with|some k=>if k.size=0 then none else some (f==g)|none=>none)else none
    |some (.slice _), .nsl, .nsl=>some true
    |some (.slice _), .nsl, .sl .. |some (.slice _), .nsl, .gsl .. =>some false
    |some (.slice _), .sl .., .nsl|some (.slice _), .gsl .., .nsl=>some false
    |some (.map ..), .nmap, .nmap=>some true
    |some (.map ..), .nmap, .map .. |some (.map ..), .map .., .nmap=>some false
    |some (.func ..), .nilf, .nilf=>some true
    |some (.func ..), .nilf, .fn .. |some (.func ..), .fn .., .nilf=>some false
    | _, .agg x, .agg y=>match concs x,concs y with
      |some u,some v=>q2j P (do (if(←program).eqGuardType (←program).depth t then stuck "" else pure ());Op.equal t (.agg ⟨u⟩) (.agg ⟨v⟩))
      |_,_=>none
    |_,_,_=>none
  concs:List AV->Option (List Value)
    | []=>some []
    | a::l=>match qc4 a,concs l with
      |some v,some x=>some (v::x)
      |_,_=>none
def q1k{I:In}:∀{l:List AV} {x:List Value},qav.concs l=some x->∀{u},VRs I l u->u=x
  | [],x,h,u,r=>by simp[qav.concs]at h;subst h;cases r;rfl
  | a ::l,x,h,u,r=>by
    simp only[qav.concs]at h
    split at h
    · rename_i v y h1 h2
      cases h
      cases r with
      |cons r1 r2=>rw[q2e h1 r1,q1k h2 r2]
    · cases h
variable {op:BinOp} {t:TypeId}
def q08{P:Program} {x y:Operand} {a b:Value} (h1:a= .nilIface->False) (h2:∀c,a= .agg c->False) (w:World):(eqGuard op t x y a b).run P w= .ok () w:=by
 cases a<;>first|exact(h1 rfl).elim|exact(h2 _ rfl).elim| (unfold eqGuard;cases op<;>rfl)
def q8q{P:Program} {x y:Operand} {a b:Array Value} (h:P.eqGuardType P.depth t=false) (w:World):(eqGuard op t x y (.agg a) (.agg b)).run P w= .ok () w:=by
 unfold eqGuard;cases op<;>first|rfl|simp[program,Sem.run,bind,Sem.bind,pure,h]
def binOp_eql{a b:Value} (ha:∀k n,a≠ .int k n) (hf:∀k n,a≠ .float k n) (hc:∀k n m,a≠ .complex k n m) (hs:∀s,a≠ .string s):binOp .eql t a b=(do pure (.bool (←Op.equal t a b)))/\binOp .neq t a b=(do pure (.bool (!(←Op.equal t a b)))):=by
 constructor
 ·unfold binOp
  cases a<;>first|rfl|exact absurd rfl (ha _ _)|exact absurd rfl (hf _ _)|exact absurd rfl (hc _ _ _)|exact absurd rfl (hs _)
 ·unfold binOp
  cases a<;>first|rfl|exact absurd rfl (ha _ _)|exact absurd rfl (hf _ _)|exact absurd rfl (hc _ _ _)|exact absurd rfl (hs _)
def q12{P:Program} {a b:Value} {d:TypeDesc} (h:P.underlying t=some d) (w:World) (r:Bool)
  (hr:∀n,(Op.equalIn (n+1) t a b).run P w= .ok r w):(Op.equal t a b).run P w= .ok r w:=hr 9999
variable {I:In}
def qio {P : Program} {a b:AV} {u v:Value} {r:Bool} (h:qav.aeq P t a b=some r) (ha:VR I a u) (hb:VR I b v):
    (∀w,(Op.equal t u v).run P w= .ok r w)/\(∀k n,u≠ .int k n)/\(∀k n,u≠ .float k n)/\(∀k n m,u≠ .complex k n m)/\(∀s,u≠ .string s)/\(u= .nilIface->False)/\((∀c,u≠ .agg c)\/(∃c d,u= .agg c/\v= .agg d/\P.eqGuardType P.depth t=false)):=by
  unfold qav.aeq at h
  split at h
  case h_4=>
    rename_i e i f j g hd
    split at h
    · rename_i hij
      subst hij
      split at h
      · rename_i k hk
        split at h
        · cases h
        · rename_i hz
          cases h
          cases ha with
          | @ptr _ _ bb ss tt hI=>
            cases hb with
            | ptr hJ=>
              rw[hI]at hJ;cases hJ
              refine⟨λw=>q12 hd w _ λn=> ?_,by simp,by simp,by simp,by simp,by simp, .inl (by simp)⟩
              have hsz:(sizeOf e).run P w= .ok k.size w:=by simp[sizeOf,typeInfo,program,Sem.run,hk,bind,Sem.bind,pure]
              simp only[Op.equalIn,Sem.run_bind,run_underlying hd,Result.andThen,hsz]
              rw[if_pos hz]
              have:((⟨bb,ss+f,none⟩:Addr)==⟨bb,ss+g,none⟩)=(f==g):=by
                by_cases hfg:f=g
                · subst hfg;simp
                · rw[beq_eq_false_iff_ne.2 hfg,beq_eq_false_iff_ne];intro he;injection he;omega
              simp[sameAddr,this]
      · cases h
    · cases h
  case h_16 =>
    rename_i x y hd
    split at h
    · rename_i p q hp hq
      cases ha with
      | agg ha=>
        cases hb with
        | agg hb=>
          have e1:=q1k hp ha
          have e2:=q1k hq hb
          subst e1 e2
          cases hg:P.eqGuardType P.depth t with
          |true=>simp[program,q2j,bind,Sem.bind,hg,stuck]at h
          | false=>
            simp[program,q2j,bind,Sem.bind,hg,pure]at h
            exact⟨λw=>q0v P _ _ h w,by simp,by simp,by simp,by simp,by simp, .inr ⟨_,_,rfl,rfl,rfl⟩⟩
    · cases h
  case h_17=>cases h
  all_goals
    rename_i hd
    cases h
    cases ha
    cases hb
    refine⟨λw=>q12 hd w _ λn=> ?_,by simp,by simp,by simp,by simp,by simp, .inl (by simp)⟩
    simp[Op.equalIn,run_underlying hd,Result.andThen]
def qgh{P:Program} {x y:Operand} {a b r:AV} {u v:Value} (h:qav P op t a b=some r) (ha:VR I a u) (hb:VR I b v):
  q05 P (do eqGuard op t x y u v;binOp op t u v) I r:=by
 have run2:∀{s:Sem Value},(∀w,(eqGuard op t x y u v).run P w= .ok () w)->q05 P s I r->q05 P (do eqGuard op t x y u v;s) I r:=λhg ⟨z,h1,h2⟩=>
  ⟨z,λw=>by simp[hg w,h1 w,Result.andThen],h2⟩
 unfold qav at h
 split at h
 ·cases ha;cases hb
  split at h
  ·rename_i z hz
   cases h
   split at hz
   ·rename_i hk
    have:=q74 hk;subst this
    exact run2 (q08 (by simp) (by simp)) (qem hz)
   ·cases hz
  ·split at h
   ·rename_i z hz
    rw[qg3]at h
    exact run2 (q08 (by simp) (by simp)) (q4w hz h)
   ·cases h
 ·rename_i p q
  cases ha;cases hb
  exact run2 (q08 (by simp) (by simp)) (by
   have:binOp op t (.string (mkS p)) (.string (mkS q))=Op.stringOp op (mkS p) (mkS q):=by unfold binOp;cases op<;>rfl
   rw[this]
   exact qff h)
 ·cases ha;cases hb
  split at h
  ·rename_i z hz
   exact run2 (q08 (by simp) (by simp)) (q4w hz h)
  ·cases h
 ·have key:∀q,qav.aeq P t a b=some q->q05 P (do eqGuard .eql t x y u v;binOp .eql t u v) I (.bool q)/\q05 P (do eqGuard .neq t x y u v;binOp .neq t u v) I (.bool !q):=λq hq=>by
   obtain⟨h1,h2,h3,h4,h5,h6,h7⟩:=qio hq ha hb
   obtain⟨e1,e2⟩:=binOp_eql (t:=t) (b:=v) h2 h3 h4 h5
   have hg:∀o w,(eqGuard o t x y u v).run P w= .ok () w:=λo w=>by
    rcases h7 with h7|⟨c,d,rfl,rfl,hgd⟩
    ·exact q08 h6 (λc e=>h7 c e) w
    ·exact q8q hgd w
   constructor
   ·exact⟨_,λw=>by rw[e1];simp[hg .eql w,h1 w,Result.andThen], .bool _⟩
   ·exact⟨_,λw=>by rw[e2];simp[hg .neq w,h1 w,Result.andThen], .bool _⟩
  cases op<;>simp only at h<;>try (cases h;done)
  all_goals
   split at h
   ·rename_i q hq
    cases h
    first|exact(key q hq).1|exact(key q hq).2
   ·cases h
def isC:Operand->Bool
 | .const _=>true
 |_=>false
def qhh (P:Program) (t:TypeId) (a b:AV):Option Bool:=
  match P.underlying t with
  | some (.interface _)=>match a,b with
    | .ifc t1 a1, .ifc t2 a2=>match Nat.beq t1 t2 with
      |false=>some false
      | true => match P.info? t1 with
        | some i=>match i.comparable with
          | true=>match P.underlying t1 with
            | some (.int _)=>match a1,a2 with
              | .int k x, .int k' y=>match qan k k' with
                |true=>some (x==y)
                |false=>none
              |_,_=>none
            |_=>none
          |false=>none
        |none=>none
    |_,_=>none
  |_=>none
def qes {P : Program} {a b:AV} {u v:Value} {q:Bool} (h:qhh P t a b=some q) (ha:VR I a u) (hb:VR I b v):
    (∀w,(Op.equal t u v).run P w= .ok q w)/\∃t1 u1 t2 u2,u= .iface t1 u1/\v= .iface t2 u2:=by
  unfold qhh at h
  split at h
  · rename_i ms hd
    split at h
    · rename_i t1 a1 t2 a2
      cases ha with
      | ifc h1=>
        cases hb with
        | ifc h2=>
          refine⟨?_,_,_,_,_,rfl,rfl⟩
          split at h
          · rename_i hne
            have hne:t1≠t2:=λe=>by rw[e]at hne;simp at hne
            cases h
            exactλw=>q12 hd w _ λn=>by
              simp[Op.equalIn,run_underlying hd,Result.andThen,hne]
          · rename_i heq
            have heq:t1=t2:=Nat.eq_of_beq_eq_true heq
            subst heq
            split at h
            · rename_i i hi
              split at h
              · rename_i hc
                split at h
                · rename_i k0 hu
                  split at h
                  · rename_i k x k' y
                    cases h1;cases h2
                    split at h
                    · rename_i hk
                      have:=q74 hk;subst this
                      cases h
                      intro w
                      have hti:(typeInfo t1).run P w= .ok i w:=by simp[typeInfo,program,Sem.run,hi,bind,Sem.bind,pure]
                      have gen:∀n,(Op.equalIn (n+1+1) t (.iface t1 (.int k x)) (.iface t1 (.int k y))).run P w= .ok (x==y) w:=λn=>by
                        simp[Op.equalIn,run_underlying hd,run_underlying hu,hti,Result.andThen,hc]
                      exact gen 9998
                    · cases h
                  · cases h
                · cases h
              · cases h
            · cases h
    · cases h
  · cases h
def qcm(P:Program) (op:BinOp) (t:TypeId) (a b:AV):Option AV:=
  match qhh P t a b with
  | some q=>match op with
    | .eql=>some (.bool q)
    | .neq=>some (.bool !q)
    |_=>none
  |none=>none
def qcn{P:Program} {x y:Operand} {a b r:AV} {u v:Value} (h:qcm P op t a b=some r) (ha:VR I a u) (hb:VR I b v):
  q05 P (do eqGuard op t x y u v;binOp op t u v) I r:=by
 unfold qcm at h
 split at h
 ·rename_i q hq
  obtain⟨h1,t1,u1,t2,u2,rfl,rfl⟩:=qes hq ha hb
  have hg:∀o w,(eqGuard o t x y (.iface t1 u1) (.iface t2 u2)).run P w= .ok () w:=λo w=>by
   unfold eqGuard
   cases o<;>rfl
  obtain⟨e1,e2⟩:=binOp_eql (t:=t) (a:= .iface t1 u1) (b:= .iface t2 u2) (by simp) (by simp) (by simp) (by simp)
  cases op<;>simp only at h<;>try (cases h;done)
  ·cases h;exact⟨_,λw=>by rw[e1];simp[hg .eql w,h1 w,Result.andThen], .bool _⟩
  ·cases h;exact⟨_,λw=>by rw[e2];simp[hg .neq w,h1 w,Result.andThen], .bool _⟩
 ·cases h
def q6j (P:Program) (op:BinOp) (t:TypeId) (y:Operand) (a b:AV):Option AV:=
  match a with
  | .nili =>match b with
    | .nili=>match isC y with
      | true=>match P.underlying t with
        | some (.interface _)=>match op with
          | .eql=>some (.bool true)
          | .neq=>some (.bool false)
          |_=>none
        |_=>none
      |false=>none
    |_=>none
  | .ifc _ _=>match b with
    | .nili=>match P.underlying t with
      | some (.interface _)=>match op with
        | .eql=>some (.bool false)
        | .neq=>some (.bool true)
        |_=>none
      |_=>none
    | .ifc _ _=>qcm P op t a b
    |_=>none
  |a=>qav P op t a b
def q6k{P:Program} {x y:Operand} {a b r:AV} {u v:Value} (h:q6j P op t y a b=some r) (ha:VR I a u) (hb:VR I b v):
  q05 P (do eqGuard op t x y u v;binOp op t u v) I r:=by
 unfold q6j at h
 split at h
 ·split at h
  ·split at h
   ·rename_i hy
    split at h
    ·rename_i ms hd
     cases ha;cases hb
     obtain⟨c,rfl⟩:∃c,y= .const c:=by cases y<;>first|exact⟨_,rfl⟩|cases hy
     have hg:∀o w,(eqGuard o t x (.const c) .nilIface .nilIface).run P w= .ok () w:=λo w=>by
      unfold eqGuard
      cases o<;>cases x<;>rfl
     obtain⟨e1,e2⟩:=binOp_eql (t:=t) (a:= .nilIface) (b:= .nilIface) (by simp) (by simp) (by simp) (by simp)
     have q:∀w,(Op.equal t .nilIface .nilIface).run P w= .ok true w:=λw=>q12 hd w _ λn=>by
      simp[Op.equalIn,run_underlying hd,Result.andThen]
     cases op<;>simp only at h<;>try (cases h;done)
     ·cases h;exact⟨_,λw=>by rw[e1];simp[hg .eql w,q w,Result.andThen], .bool _⟩
     ·cases h;exact⟨_,λw=>by rw[e2];simp[hg .neq w,q w,Result.andThen], .bool _⟩
    ·cases h
   ·cases h
  ·cases h
 ·split at h
  ·split at h
   ·rename_i ms hd
    have main:∀tt vv,q05 P (do eqGuard op t x y (.iface tt vv) .nilIface;binOp op t (.iface tt vv) .nilIface) I r:=by
     intro tt vv
     have hg:∀o w,(eqGuard o t x y (.iface tt vv) .nilIface).run P w= .ok () w:=λo w=>by
      unfold eqGuard
      cases o<;>rfl
     obtain⟨e1,e2⟩:=binOp_eql (t:=t) (a:= .iface tt vv) (b:= .nilIface) (by simp) (by simp) (by simp) (by simp)
     have q:∀w,(Op.equal t (.iface tt vv) .nilIface).run P w= .ok false w:=λw=>q12 hd w _ λn=>by
      simp[Op.equalIn,run_underlying hd,Result.andThen]
     cases op<;>simp only at h<;>try (cases h;done)
     ·cases h;exact⟨_,λw=>by rw[e1];simp[hg .eql w,q w,Result.andThen], .bool _⟩
     ·cases h;exact⟨_,λw=>by rw[e2];simp[hg .neq w,q w,Result.andThen], .bool _⟩
    cases hb
    cases ha with
    |ifc hz=>exact main _ _
   ·cases h
  ·exact qcn h ha hb
  ·cases h
 ·exact qgh h ha hb
def lbT:List (Int×Nat×Int×Int)->Int
 | []=>0
 | (c,_,lo,hi)::l=>Int.add (match ltI c 0 with|true=>Int.mul c hi|false=>Int.mul c lo) (lbT l)
def ubT:List (Int×Nat×Int×Int)->Int
 | []=>0
 | (c,_,lo,hi)::l=>Int.add (match ltI c 0 with|true=>Int.mul c lo|false=>Int.mul c hi) (ubT l)
def qjh{a b:Int} (h:ltI a b=true):a<b:=by rw[q67]at h;exact of_decide_eq_true h
def qjg{a b:Int} (h:ltI a b=false):b<=a:=by rw[q67]at h;have:=of_decide_eq_false h;omega
def LR.bounds{l n} (h:LR I l n):lbT l<=n/\n<=ubT l:=by
  induction h with
  |nil=>exact⟨Int.le_refl _,Int.le_refl _⟩
  | @cons c id lo hi v l n h h1 h2 t ih=>
    simp only[lbT,ubT]
    cases hc:ltI c 0 with
    | true=>
      have:=qjh hc
      have a1:c*hi<=c*v:=Int.mul_le_mul_of_nonpos_left (by omega) h2
      have a2:c*v<=c*lo:=Int.mul_le_mul_of_nonpos_left (by omega) h1
      exact⟨Int.add_le_add a1 ih.1,Int.add_le_add a2 ih.2⟩
    | false=>
      have:=qjg hc
      have a1:c*lo<=c*v:=Int.mul_le_mul_of_nonneg_left h1 this
      have a2:c*v<=c*hi:=Int.mul_le_mul_of_nonneg_left h2 this
      exact⟨Int.add_le_add a1 ih.1,Int.add_le_add a2 ih.2⟩
def qkj(c:Int) (id:Nat) (lo hi:Int):List (Int×Nat×Int×Int)->List (Int×Nat×Int×Int)
  | []=>[(c,id,lo,hi)]
  | (c',id',lo',hi')::l=>match Nat.beq id id' with
    | true=>match eqI (Int.add c c') 0 with
      |true=>l
      |false=>(Int.add c c',id',lo',hi')::l
    |false=>(c',id',lo',hi')::qkj c id lo hi l
def q5q{a b:Int} (h:eqI a b=true):a=b:=by rw[q9d]at h;exact of_decide_eq_true h
variable {c:Int}
def qhj{id:Nat} {lo hi v:Int} (h:qjr I id=some v) (h1:lo<=v) (h2:v<=hi) {l n} (hl:LR I l n):LR I (qkj c id lo hi l) (c*v+n):=by
  induction hl with
  |nil=>exact .cons h h1 h2 .nil
  | @cons c' id' lo' hi' v' l n h' h1' h2' t ih=>
    simp only[qkj]
    cases hb:Nat.beq id id' with
    | true=>
      have:=Nat.eq_of_beq_eq_true hb
      subst this
      rw[h]at h';cases h'
      simp only
      have e:c*v+(c'*v+n)=(c+c')*v+n:=by rw[Int.add_mul];omega
      rw[e]
      cases hz:eqI (Int.add c c') 0 with
      | true=>
        have hz:c+c'=0:=q5q hz
        rw[hz,Int.zero_mul,Int.zero_add];exact t
      |false=>exact .cons h h1' h2' t
    | false=>
      simp only
      have e:c*v+(c'*v'+n)=c'*v'+(c*v+n):=by omega
      rw[e]
      exact .cons h' h1' h2' ih
def q6m(s:Int) (a:List (Int×Nat×Int×Int)):List (Int×Nat×Int×Int)->List (Int×Nat×Int×Int)
 | []=>a
 | (c,id,lo,hi)::l=>qkj (Int.mul s c) id lo hi (q6m s a l)
def q8f{s:Int} {a n} (ha:LR I a n) {l m} (hl:LR I l m):LR I (q6m s a l) (n+s*m):=by
  induction hl with
  |nil=>simp only[q6m];rw[Int.mul_zero,Int.add_zero];exact ha
  | @cons c id lo hi v l m h h1 h2 t ih=>
    have:=qhj (c:=Int.mul s c) h h1 h2 ih
    have e:Int.mul s c*v+(n+s*m)=n+s*(c*v+m):=by
      show s*c*v+(n+s*m)=_
      rw[Int.mul_add,Int.mul_assoc];omega
    rw[e]at this
    exact this
def scT(s:Int):List (Int×Nat×Int×Int)->List (Int×Nat×Int×Int)
 | []=>[]
 | (c,id,lo,hi)::l=>(Int.mul s c,id,lo,hi)::scT s l
def qdk{s:Int} {l n} (h:LR I l n):LR I (scT s l) (s*n):=by
  induction h with
  |nil=>rw[Int.mul_zero];exact .nil
  | @cons c id lo hi v l n h h1 h2 t ih=>
    have:=LR.cons (c:=Int.mul s c) h h1 h2 ih
    have e:Int.mul s c*v+s*n=s*(c*v+n):=by
      show s*c*v+s*n=_
      rw[Int.mul_add,Int.mul_assoc]
    rw[e]at this
    exact this
def q5m(p:Int):List (Int×Nat×Int×Int)->List (Int×Nat×Int×Int)×List (Int×Nat×Int×Int)
  | []=>([],[])
  | (c,id,lo,hi)::l=>match eqI (Int.emod c p) 0 with
    |true=>((Int.ediv c p,id,lo,hi)::(q5m p l).1,(q5m p l).2)
    |false=>((q5m p l).1,(c,id,lo,hi)::(q5m p l).2)
def q8n{p:Int} {l n} (h:LR I l n):∃a b,LR I (q5m p l).1 a/\LR I (q5m p l).2 b/\n=p*a+b:=by
  induction h with
  |nil=>exact⟨0,0, .nil, .nil,by rw[Int.mul_zero,Int.add_zero]⟩
  | @cons c id lo hi v l n h h1 h2 t ih=>
    obtain⟨a,b,g1,g2,rfl⟩:=ih
    simp only[q5m]
    cases hz:eqI (Int.emod c p) 0 with
    | true=>
      have hz:c % p=0:=q5q hz
      refine⟨_,_, .cons (c:=Int.ediv c p) h h1 h2 g1,g2,?_⟩
      have hc:p*Int.ediv c p=c:=by have:=Int.mul_ediv_add_emod c p;rw[hz,Int.add_zero]at this;exact this
      rw[Int.mul_add,←Int.mul_assoc,hc,Int.add_assoc]
    | false=>
      refine⟨_,_,g1, .cons h h1 h2 g2,?_⟩
      omega
def mkL(k:IntKind) (c:Int):List (Int×Nat×Int×Int)->AV
 | []=> .int k c
 |l=> .lin k c l
variable {k:IntKind}
def qcv{l n} (h:LR I l n):VR I (mkL k c l) (.int k (c+n)):=by
 cases h with
 |nil=>rw[Int.add_zero];exact .int _ _
 |cons h h1 h2 t=>exact .lin (.cons h h1 h2 t)
def q8v:IntKind->Option (Int×Int)
 | .i64=>some (18446744073709551616, -9223372036854775808)
 | .u64=>some (18446744073709551616,0)
 | .i32=>some (4294967296, -2147483648)
 | .u32=>some (4294967296,0)
 | .u8=>some (256,0)
 |_=>none
def qdx{w m n q:Int} (h:q8v k=some (w,m)) (h1:m<=n- q*w) (h2:n- q*w<m+w):k.wrap n=n- q*w:=by
 cases k<;>simp only[q8v,Option.some.injEq,Prod.mk.injEq,reduceCtorEq]at h
 all_goals
  obtain⟨rfl,rfl⟩:=h
  simp only[IntKind.wrap,IntKind.bits,IntKind.signed]
  simp
  omega
def qfi{w m n q:Int} (h:q8v k=some (w,m)):k.wrap (n+w*q)=k.wrap n:=by
 cases k<;>simp only[q8v,Option.some.injEq,Prod.mk.injEq,reduceCtorEq]at h
 all_goals
  obtain⟨rfl,rfl⟩:=h
  simp only[IntKind.wrap,IntKind.bits,IntKind.signed]
  simp
  try omega
def qkn(w m c:Int) (l:List (Int×Nat×Int×Int)):Option Int:=
 match eqI (Int.ediv (Int.sub (Int.add c (lbT l)) m) w) (Int.ediv (Int.sub (Int.add c (ubT l)) m) w)with
 |true=>some (Int.sub c (Int.mul (Int.ediv (Int.sub (Int.add c (lbT l)) m) w) w))
 |false=>none
def qd1{w m c d:Int} {l n} (hk:q8v k=some (w,m)) (h:LR I l n) (e:qkn w m c l=some d):k.wrap (c+n)=d+n:=by
 unfold qkn at e
 split at e
 ·rename_i hq
  have hq:(c+lbT l- m) / w=(c+ubT l- m) / w:=q5q hq
  cases e
  have hb:=h.bounds
  have hw:0<w:=by cases k<;>simp[q8v]at hk<;>omega
  have e:c- (c+lbT l- m) / w*w+n=c+n- (c+lbT l- m) / w*w:=by omega
  show k.wrap (c+n)=c- (c+lbT l- m) / w*w+n
  rw[e]
  have a1:(c+lbT l- m) / w*w<=c+lbT l- m:=Int.ediv_mul_le _ (by omega)
  have a2:c+ubT l- m<((c+ubT l- m) / w+1)*w:=Int.lt_ediv_add_one_mul_self _ hw
  rw[←hq,Int.add_mul,Int.one_mul]at a2
  exact qdx hk (by omega) (by omega)
 ·cases e
def q7a(k:IntKind) (c:Int) (l:List (Int×Nat×Int×Int)):Option AV:=
  match q8v k with
  | some (w,m)=>match qkn w m c l with
    |some d=>some (mkL k d l)
    | none=>match qkn w m c (q5m w l).2 with
      |some d=>some (mkL k d (q5m w l).2)
      |none=>none
  |none=>none
variable {r:AV}
def q1y{l n} (h:LR I l n) (e:q7a k c l=some r):VR I r (.int k (k.wrap (c+n))):=by
 unfold q7a at e
 split at e
 ·rename_i w m hk
  split at e
  ·rename_i d hd;cases e
   rw[qd1 hk h hd]
   exact qcv h
  ·split at e
   ·rename_i d hd;cases e
    obtain⟨a,b,g1,g2,rfl⟩:=q8n (p:=w) h
    have:c+(w*a+b)=(c+b)+w*a:=by omega
    rw[this,qfi hk,qd1 hk g2 hd]
    exact qcv g2
   ·cases e
 ·cases e
def q1b(c:Int) (l:List (Int×Nat×Int×Int)):Option Bool:=
  match ltI (Int.add c (ubT l)) 0 with
  |true=>some true
  | false=>match ltI (Int.add c (lbT l)) 0 with
    |false=>some false
    |true=>none
variable {b:Bool}
def q30{l n} (h:LR I l n) (e:q1b c l=some b):b=decide (c+n<0):=by
 have hb:=h.bounds
 unfold q1b at e
 split at e
 ·rename_i hl
  have:c+ubT l<0:=qjh hl
  cases e;symm;apply decide_eq_true;omega
 ·split at e
  ·rename_i hl
   have:0<=c+lbT l:=qjg hl
   cases e;symm;apply decide_eq_false;omega
  ·cases e
def qet:AV->Option (IntKind×Int×List (Int×Nat×Int×Int))
 | .int k c=>some (k,c,[])
 | .lin k c l=>some (k,c,l)
 |_=>none
variable {u:Value}
def q9k{a:AV} {k c l} (e:qet a=some (k,c,l)) (h:VR I a u):∃n,u= .int k (c+n)/\LR I l n:=by
 cases a<;>simp only[qet,Option.some.injEq,Prod.mk.injEq,reduceCtorEq]at e
 ·obtain⟨rfl,rfl,rfl⟩:=e;cases h;exact⟨0,by rw[Int.add_zero], .nil⟩
 ·obtain⟨rfl,rfl,rfl⟩:=e;cases h with|lin h=>exact⟨_,rfl,h⟩
def qjq:Option Bool->Option AV
 |some b=>some (.bool !b)
 |none=>none
def isO:Option Bool->Option AV
 |some b=>some (.bool b)
 |none=>none
def qj4:Option Bool->Option Bool->Option Bool
 |some true,_=>some false
 |_,some true=>some false
 |some false,some false=>some true
 |_,_=>none
def qlr:IntKind->Int->Bool
 | .u64, .ofNat n=>Nat.beq n 18446744073709551615
 | .u32, .ofNat n=>Nat.beq n 4294967295
 | .i64, .negSucc n=>Nat.beq n 0
 | .i32, .negSucc n=>Nat.beq n 0
 |_,_=>false
def qkr(k:IntKind) (s:Nat):Option Int:=match Nat.ble s k.bits with
 |true=>some (Int.ofNat (Nat.pow 2 s))
 |false=>none
def qjd (op:BinOp) (a b:AV):Option AV:=
  match qet a with
  | some (k, c, l)=>match qet b with
    | some (k', c',l')=>match op with
      | .shl=>match l',c' with
        | [], .ofNat s=>match qkr k s with|some p=>q7a k (Int.mul p c) (scT p l)|none=>none
        |_,_=>none
      | .shr=>match l',c' with
        | [], .ofNat s=>match qkr k s with
          | some p=>match eqI (Int.ediv (Int.add c (lbT (q5m p l).2)) p) (Int.ediv (Int.add c (ubT (q5m p l).2)) p)with
            |true=>some (mkL k (Int.ediv (Int.add c (lbT (q5m p l).2)) p) (q5m p l).1)
            |false=>none
          |none=>none
        |_,_=>none
      | op => match qan k k' with
        |false=>none
        | true=>match op with
          | .add=>q7a k (Int.add c c') (q6m 1 l l')
          | .sub=>q7a k (Int.sub c c') (q6m (-1) l l')
          | .lss=>isO (q1b (Int.sub c c') (q6m (-1) l l'))
          | .gtr=>isO (q1b (Int.sub c' c) (q6m (-1) l' l))
          | .geq=>qjq (q1b (Int.sub c c') (q6m (-1) l l'))
          | .leq=>qjq (q1b (Int.sub c' c) (q6m (-1) l' l))
          | .eql=>isO (qj4 (q1b (Int.sub c c') (q6m (-1) l l')) (q1b (Int.sub c' c) (q6m (-1) l' l)))
          | .neq=>qjq (qj4 (q1b (Int.sub c c') (q6m (-1) l l')) (q1b (Int.sub c' c) (q6m (-1) l' l)))
          | .xor=>match l' with
            | []=>match eqI c' 0 with
              |true=>q7a k c l
              | false=>match qlr k c' with
                |true=>q7a k (Int.sub (-1) c) (scT (-1) l)
                |false=>none
            |_=>none
          | .and=>match l' with
            | []=>match eqI c' 1 with
              | true=>match(q5m 2 l).2 with
                | []=>some (.int k (Int.emod c 2))
                |_=>none
              |false=>none
            |_=>none
          |_=>none
    |none=>none
  |none=>none
variable {x:Option Bool}
def qco(h:isO x=some r) (hx:∀c,x=some c->c=b):VR I r (.bool b):=by
 unfold isO at h
 split at h
 ·rename_i c;cases h;rw[hx c rfl];exact .bool _
 ·cases h
def q8x(h:qjq x=some r) (hx:∀c,x=some c->(!c)=b):VR I r (.bool b):=by
 unfold qjq at h
 split at h
 ·rename_i c;cases h;rw[hx c rfl];exact .bool _
 ·cases h
def qh9{x y:Option Bool} {d:Int} {e:Int} (h:qj4 x y=some b) (hx:∀c,x=some c->c=decide (d<0)) (hy:∀c,y=some c->c=decide (e<0)) (hd:e= -d):b=decide (d=0):=by
 unfold qj4 at h
 split at h
 ·cases h
  have:=of_decide_eq_true (hx _ rfl).symm
  symm;apply decide_eq_false;omega
 ·cases h
  have:=of_decide_eq_true (hy _ rfl).symm
  symm;apply decide_eq_false;omega
 ·cases h
  have h1:=of_decide_eq_false (hx _ rfl).symm
  have h2:=of_decide_eq_false (hy _ rfl).symm
  symm;apply decide_eq_true;omega
 ·cases h
def qa1(k:IntKind) (x y:Int) (h:x % (2 ^ k.bits:Int)=y % (2 ^ k.bits:Int)):k.wrap x=k.wrap y:=by
 unfold IntKind.wrap
 rw[h]
def qbz(n:Nat) (x:Int):(((BitVec.ofInt n x).toNat:Nat):Int)=x % (2 ^ n:Int):=by
  rw[BitVec.toNat_ofInt]
  have h : (0 : Int) ≤ x % (2 ^ n : Int) := Int.emod_nonneg _ (by have:(0:Int)<2 ^ n:=Int.pow_pos (by decide)
                                                                  omega)
  have e:((2 ^ n:Nat):Int)=(2 ^ n:Int):=by simp
  rw[e,Int.toNat_of_nonneg h]
def q82(k:IntKind) (x:Int):k.wrap ((BitVec.ofInt k.bits x ^^^ BitVec.ofInt k.bits 0).toNat:Int)=k.wrap x:=by
 have:BitVec.ofInt k.bits 0=0#k.bits:=by simp
 rw[this,BitVec.xor_zero]
 refine qa1 _ _ _ ?_
 rw[qbz,Int.emod_emod]
def q81(k:IntKind) (x y:Int) (hy:BitVec.ofInt k.bits y=BitVec.allOnes k.bits):k.wrap ((BitVec.ofInt k.bits x ^^^ BitVec.ofInt k.bits y).toNat:Int)=k.wrap (-1- x):=by
 rw[hy,BitVec.xor_allOnes]
 refine qa1 _ _ _ ?_
 have h1:(~~~ BitVec.ofInt k.bits x)=BitVec.ofInt k.bits (-1- x):=by
  apply BitVec.eq_of_toNat_eq
  rw[BitVec.toNat_not,BitVec.toNat_ofInt,BitVec.toNat_ofInt]
  have e:((2 ^ k.bits:Nat):Int)=(2 ^ k.bits:Int):=by simp
  have hp:(0:Int)<2 ^ k.bits:=Int.pow_pos (by decide)
  have h:(0:Int)<=x % (2 ^ k.bits:Int):=Int.emod_nonneg _ (by omega)
  have hl:x % (2 ^ k.bits:Int)<(2 ^ k.bits:Int):=Int.emod_lt_of_pos _ hp
  have hd:=Int.mul_ediv_add_emod x (2 ^ k.bits:Int)
  have e3:(-1- x) % (2 ^ k.bits:Int)=(2 ^ k.bits:Int)- 1- x % (2 ^ k.bits:Int):=by
   have e2: -1- x=((2 ^ k.bits:Int)- 1- x % (2 ^ k.bits:Int))+(2 ^ k.bits:Int)*(-(x / (2 ^ k.bits:Int))- 1):=by
    rw[Int.mul_sub,Int.mul_neg,Int.mul_one];omega
   rw[e2,Int.add_mul_emod_self_left]
   exact Int.emod_eq_of_lt (by omega) (by omega)
  rw[e,e3]
  omega
 rw[h1,qbz,Int.emod_emod]
def qhp{y:Int} (h:qlr k y=true):BitVec.ofInt k.bits y=BitVec.allOnes k.bits:=by
 unfold qlr at h
 split at h
 all_goals (try (cases h;done))
 all_goals
  have h:=Nat.eq_of_beq_eq_true h
  subst h
  decide
def q8l(k:IntKind) (x:Int) (hk:0<k.bits):((BitVec.ofInt k.bits x&&&BitVec.ofInt k.bits 1).toNat:Int)=x % 2:=by
 have e:((2 ^ k.bits:Nat):Int)=(2 ^ k.bits:Int):=by simp
 rw[BitVec.toNat_and]
 have h1:(BitVec.ofInt k.bits 1).toNat=1:=by
  have h2:BitVec.ofInt k.bits 1=1#k.bits:=by simp
  rw[h2]
  rw[BitVec.toNat_ofNat]
  exact Nat.mod_eq_of_lt (Nat.one_lt_two_pow (by omega))
 rw[h1,Nat.and_one_is_mod]
 have h2:=qbz k.bits x
 push_cast
 rw[h2]
 obtain⟨m,hm⟩:∃m,k.bits=m+1:=⟨k.bits- 1,by omega⟩
 have h3:(2 ^ k.bits:Int)=2*2 ^ m:=by rw[hm,Int.pow_succ,Int.mul_comm]
 rw[h3]
 exact Int.emod_emod_of_dvd x ⟨_,rfl⟩
def qhl {P:Program} {a b r:AV} {u v:Value} (h:qjd op a b=some r) (ha:VR I a u) (hb:VR I b v):
  q05 P (binOp op t u v) I r/\∃k n,u= .int k n:=by
 unfold qjd at h
 split at h
 case h_2=>cases h
 rename_i k c l e1
 split at h
 case h_2=>cases h
 rename_i k' c' l' e2
 obtain⟨n,rfl,hn⟩:=q9k e1 ha
 obtain⟨n',rfl,hn'⟩:=q9k e2 hb
 refine⟨?_,_,_,rfl⟩
 have dif:LR I (q6m (-1) l l') (n- n'):=by have:=q8f (s:= -1) hn hn';rw[show n+ -1*n'=n- n' by omega]at this;exact this
 have fid:LR I (q6m (-1) l' l) (n'- n):=by have:=q8f (s:= -1) hn' hn;rw[show n'+ -1*n=n'- n by omega]at this;exact this
 have b1:∀q,q1b (Int.sub c c') (q6m (-1) l l')=some q->q=decide (c+n<c'+n'):=λq hq=>by
  rw[q30 dif hq];apply decide_eq_decide.2;show c- c'+(n- n')<0↔_;omega
 have b2:∀q,q1b (Int.sub c' c) (q6m (-1) l' l)=some q->q=decide (c'+n'<c+n):=λq hq=>by
  rw[q30 fid hq];apply decide_eq_decide.2;show c'- c+(n'- n)<0↔_;omega
 have b3:∀q,qj4 (q1b (Int.sub c c') (q6m (-1) l l')) (q1b (Int.sub c' c) (q6m (-1) l' l))=some q->q=decide (c+n=c'+n'):=λq hq=>by
  have:=qh9 (d:=c- c'+(n- n')) (e:=c'- c+(n'- n)) hq (λ_ h=>q30 dif h) (λ_ h=>q30 fid h) (by omega)
  rw[this];apply decide_eq_decide.2;omega
 split at h
 ·
  split at h
  ·rename_i s
   split at h
   ·rename_i p hp
    unfold qkr at hp
    split at hp
    case h_2=>cases hp
    rename_i hs
    cases hp
    have hs:=Nat.le_of_ble_eq_true hs
    cases hn'
    have:=q1y (qdk (s:=Int.ofNat (Nat.pow 2 s)) hn) h
    refine⟨_,λw=> ?_,this⟩
    have hm:min s k.bits=s:=by omega
    have e:Int.mul (Int.ofNat (Nat.pow 2 s)) c+Int.ofNat (Nat.pow 2 s)*n=(c+n)*2 ^ s:=by
     show Int.ofNat (Nat.pow 2 s)*c+Int.ofNat (Nat.pow 2 s)*n=_
     rw[←Int.mul_add,Int.mul_comm];congr 1
    rw[e]
    simp[binOp,Op.shift,hm]
    intro hlt;omega
   ·cases h
  ·cases h
 ·
  split at h
  ·rename_i s
   split at h
   ·rename_i p hp
    unfold qkr at hp
    split at hp
    case h_2=>cases hp
    rename_i hs
    cases hp
    have hs:=Nat.le_of_ble_eq_true hs
    cases hn'
    split at h
    ·rename_i hq
     cases h
     obtain⟨x,y,g1,g2,rfl⟩:=q8n (p:=Int.ofNat (Nat.pow 2 s)) hn
     have hq:=q5q hq
     have hb:=g2.bounds
     have hp0:(0:Int)<Int.ofNat (Nat.pow 2 s):=by
      have:0<2 ^ s:=Nat.two_pow_pos s
      show(0:Int)<((2 ^ s:Nat):Int);omega
     generalize hP:Int.ofNat (Nat.pow 2 s)=p at*
     have hfd:(c+(p*x+y)) / p=x+(c+lbT (q5m p l).2) / p:=by
      have e1:c+(p*x+y)=(c+y)+p*x:=by omega
      rw[e1,Int.add_mul_ediv_left _ _ (by omega)]
      have m1:(c+lbT (q5m p l).2) / p<=(c+y) / p:=Int.ediv_le_ediv hp0 (by omega)
      have m2:(c+y) / p<=(c+ubT (q5m p l).2) / p:=Int.ediv_le_ediv hp0 (by omega)
      have hq:(c+lbT (q5m p l).2) / p=(c+ubT (q5m p l).2) / p:=hq
      omega
     have:=qcv (k:=k) (c:=Int.ediv (Int.add c (lbT (q5m p l).2)) p) g1
     refine⟨_,λw=> ?_,this⟩
     have hm:min s k.bits=s:=by omega
     have e2:Int.ediv (Int.add c (lbT (q5m p l).2)) p+x=(c+(p*x+y)).fdiv (2 ^ s):=by
      have:(2 ^ s:Int)=p:=by rw[←hP];simp
      rw[this,Int.fdiv_eq_ediv_of_nonneg _ (by omega),hfd]
      show(c+lbT (q5m p l).2) / p+x=_
      omega
     rw[e2]
     simp[binOp,Op.shift,hm]
     try (intro hlt;omega)
    ·cases h
   ·cases h
  ·cases h
 ·rename_i op hop1 hop2
  split at h
  ·cases h
  ·rename_i hk
   have:=q74 hk
   subst this
   split at h
   ·have:=q1y (q8f (s:=1) hn hn') h
    refine⟨_,λw=> ?_,this⟩
    have e:Int.add c c'+(n+1*n')=c+n+(c'+n'):=by show c+c'+(n+1*n')=_;omega
    rw[e];simp only[binOp,ne_eq,not_true,if_false,Op.intArith,Sem.run_pure]
   ·have:=q1y dif h
    refine⟨_,λw=> ?_,this⟩
    have e:Int.sub c c'+(n- n')=c+n- (c'+n'):=by show c- c'+(n- n')=_;omega
    rw[e];simp only[binOp,ne_eq,not_true,if_false,Op.intArith,Sem.run_pure]
   ·exact⟨.bool (decide (c+n<c'+n')),λw=>by simp only[binOp,ne_eq,not_true,if_false,Op.intCmp,Sem.run_pure],qco h b1⟩
   ·exact⟨.bool (decide (c+n>c'+n')),λw=>by simp only[binOp,ne_eq,not_true,if_false,Op.intCmp,Sem.run_pure],qco h b2⟩
   ·exact⟨.bool (decide (c+n>=c'+n')),λw=>by simp only[binOp,ne_eq,not_true,if_false,Op.intCmp,Sem.run_pure],q8x h λq hq=>by rw[b1 q hq,←decide_not];apply decide_eq_decide.2;omega⟩
   ·exact⟨.bool (decide (c+n<=c'+n')),λw=>by simp only[binOp,ne_eq,not_true,if_false,Op.intCmp,Sem.run_pure],q8x h λq hq=>by rw[b2 q hq,←decide_not];apply decide_eq_decide.2;omega⟩
   ·exact⟨.bool (c+n==c'+n'),λw=>by simp only[binOp,ne_eq,not_true,if_false,Op.intCmp,Sem.run_pure],qco h λq hq=>by rw[b3 q hq];rfl⟩
   ·exact⟨.bool (c+n !=c'+n'),λw=>by simp only[binOp,ne_eq,not_true,if_false,Op.intCmp,Sem.run_pure],q8x h λq hq=>by rw[b3 q hq];rfl⟩
   ·split at h
    ·cases hn'
     split at h
     ·rename_i hz
      have hz:=q5q hz
      subst hz
      refine⟨_,λw=> ?_,q1y hn h⟩
      rw[←q82 k (c+n)]
      simp[binOp,Op.intBits]
     ·split at h
      ·rename_i hone
       have:=q1y (qdk (s:= -1) hn) h
       refine⟨_,λw=> ?_,this⟩
       have e:Int.sub (-1) c+ -1*n= -1- (c+n):=by show -1- c+ -1*n=_;omega
       rw[e,←q81 k (c+n) c' (qhp hone)]
       simp[binOp,Op.intBits]
      ·cases h
    ·cases h
   ·split at h
    ·cases hn'
     split at h
     ·rename_i hz
      have hz:=q5q hz
      subst hz
      split at h
      ·rename_i hd
       cases h
       obtain⟨x,y,g1,g2,rfl⟩:=q8n (p:=2) hn
       rw[hd]at g2
       cases g2
       have hkb:0<k.bits:=by cases k<;>simp[qan]at hk<;>decide
       have hv:k.wrap (Int.emod c 2)=Int.emod c 2:=by
        have h1:0<=c % 2:=by omega
        have h2:c % 2<2:=by omega
        show k.wrap (c % 2)=c % 2
        cases k<;>simp[qan]at hk<;>simp[IntKind.wrap,IntKind.bits,IntKind.signed]<;>omega
       refine⟨.int k (Int.emod c 2),λw=> ?_, .int _ _⟩
       have e:=q8l k (c+(2*x+0)) hkb
       have e2:(c+(2*x+0)) % 2=Int.emod c 2:=by show _=c % 2;omega
       rw[e2]at e
       simp only[binOp,Op.intBits,Int.add_zero,ne_eq,not_true,if_false,Sem.run_pure]at e⊢
       rw[e,hv]
      ·cases h
     ·cases h
    ·cases h
   ·cases h
def qgg(P:Program) (op:BinOp) (t:TypeId) (y:Operand) (a b:AV):Option AV:=
  match a with
  | .lin _ _ _=>qjd op a b
  | _=>match b with
    | .lin _ _ _=>qjd op a b
    |_=>q6j P op t y a b
def qe5{P:Program} {x y:Operand} {a b r:AV} {u v:Value} (h:qgg P op t y a b=some r) (ha:VR I a u) (hb:VR I b v):
  q05 P (do eqGuard op t x y u v;binOp op t u v) I r:=by
 have main:qjd op a b=some r->q05 P (do eqGuard op t x y u v;binOp op t u v) I r:=λh=>by
  obtain⟨⟨z,h1,h2⟩,k,n,rfl⟩:=qhl (P:=P) (t:=t) h ha hb
  refine⟨z,λw=> ?_,h2⟩
  have hg:=q08 (P:=P) (op:=op) (t:=t) (x:=x) (y:=y) (a:= .int k n) (b:=v) (by simp) (by simp) w
  simp[hg,h1 w,Result.andThen]
 unfold qgg at h
 split at h
 ·exact main h
 ·split at h
  ·exact main h
  ·exact q6k h ha hb
def qln(op:UnOp) (k:IntKind) (c:Int) (l:List (Int×Nat×Int×Int)):Option AV:=
 match op with
 | .neg=>q7a k (Int.sub 0 c) (scT (-1) l)
 |_=>none
def qhm{P:Program} {op:UnOp} {k c l r} (h:qln op k c l=some r) (ha:VR I (.lin k c l) u):q05 P (Op.unary op u) I r:=by
  unfold qln at h
  split at h
  · cases ha with
    | @lin _ _ _ n hl=>
      refine⟨_,λw=> ?_,q1y (qdk (s:= -1) hl) h⟩
      have e:Int.sub 0 c+ -1*n=0- (c+n):=by show 0- c+ -1*n=_;omega
      rw[e];simp only[Op.unary,Op.intArith,Sem.run_pure]
  · cases h
def qk9(P:Program) (f:Value->Sem Value) (a:AV):Option AV:=
  match qc4 a with
  | some v=>match q2j P (f v)with
    |some u=>q0s u
    |none=>none
  |none=>none
variable {I:In} {u:Value}
def q95{P:Program} {f:Value->Sem Value} {a r:AV} (h:qk9 P f a=some r) (ha:VR I a u):q05 P (f u) I r:=by
 unfold qk9 at h
 split at h
 ·rename_i v hv
  rw[q2e hv ha]
  split at h
  ·rename_i z hz;exact q4w hz h
  ·cases h
 ·cases h
def qgi(P:Program) (s d:TypeId) (a:AV):Option AV:=
  match a with
  | .int _ n=>match P.underlying s,P.underlying d with
    | some _,some (.int k)=>(match fits k n with
      |true=>some (.int k n)
      |false=>qk9 P (convert s d) a)
    |_,_=>qk9 P (convert s d) a
  | .str l=>match P.underlying s,P.underlying d with
    |some _,some .string=>some (.str l)
    |_,_=>none
  | .lin _ c l=>match P.underlying s,P.underlying d with
    |some _,some (.int k)=>q7a k c l
    |_,_=>none
  |_=>none
def aun(P:Program) (op:UnOp) (a:AV):Option AV:=
 match a with
 | .lin k c l=>qln op k c l
 |_=>qk9 P (Op.unary op) a
def qis{P:Program} {op:UnOp} {a r:AV} (h:aun P op a=some r) (ha:VR I a u):q05 P (Op.unary op u) I r:=by
 unfold aun at h
 split at h
 ·exact qhm h ha
 ·exact q95 h ha
def qe6{P:Program} {s d:TypeId} {a r:AV} (h:qgi P s d a=some r) (ha:VR I a u):q05 P (convert s d u) I r:=by
 unfold qgi at h
 split at h
 ·split at h
  ·rename_i x k hs hd
   split at h
   ·rename_i hf
    cases h
    cases ha
    exact⟨_,λw=>by simp[convert,run_underlying hs,run_underlying hd,Result.andThen,Conv.intToInt,q4v hf], .int _ _⟩
   ·exact q95 h ha
  ·exact q95 h ha
 ·split at h
  ·rename_i l x hs hd
   cases h
   cases ha
   refine⟨_,λw=> ?_, .str _⟩
   unfold convert
   simp[run_underlying hs,run_underlying hd,Result.andThen]
  ·cases h
 ·split at h
  ·rename_i x k hs hd
   cases ha with
   |lin hl=>exact⟨_,λw=>by simp[convert,run_underlying hs,run_underlying hd,Result.andThen,Conv.intToInt],q1y hl h⟩
  ·cases h
 ·cases h
def evs(t:T AV):List Operand->Option (List AV)
  | []=>some []
  | x ::l=>match ev t x with
    | some a=>match evs t l with
      |some r=>some (a::r)
      |none=>none
    |none=>none
def q0z{I:In} {t:T AV} {a:Act} (h:TR I t a.tmps):∀{l:List Operand} {r},evs t l=some r->VRs I r (l.map a.eval)
  | [],r,e=>by simp[evs]at e;subst e;exact .nil
  | x ::l,r,e=>by
    simp only[evs]at e
    split at e
    · rename_i v hv
      split at e
      · rename_i y hy;cases e;exact .cons (q00 h hv) (q0z h hy)
      · cases e
    · cases e
def amk(t:T AV) (fn:Fn) (first caps:List Operand):Option AV:=
 match fn,first with
 | .func f,[]=>match evs t caps with|some l=>some (.fn f l)|none=>none
 | .func f,x::xs=>match evs t (x::xs),evs t caps with|some a,some l=>some (.bfn f a l)|_,_=>none
 |_,_=>none
def qbe(P:Program) (s:TypeId) (a:AV) (f:Nat):Option AV:=
  match a,P.underlying s with
  | .ptr id off,some (.struct fs)=>match fs.toList[f]? with
    | some fd=>match P.info? fd.type with
      |some i=>if i.size=0 then none else some (.ptr id (off+fd.offset))
      |none=>none
    |none=>none
  |_,_=>none
variable {t:TypeId}
def run_sizeOf{P:Program} {i:TypeInfo} (h:P.info? t=some i) (w:World):(sizeOf t).run P w= .ok i.size w:=by
 simp[sizeOf,typeInfo,program,Sem.run,h,bind,Sem.bind,pure]
def qbf{P:Program} {s:TypeId} {a r:AV} {f:Nat} (h:qbe P s a f=some r) (ha:VR I a u):q05 P (Instr.fieldAt s u f) I r:=by
  unfold qbe at h
  split at h
  · rename_i id off fs hs
    split at h
    · rename_i fd hf
      split at h
      · rename_i i hi
        split at h
        · cases h
        · rename_i hz
          cases h
          cases ha with
          | @ptr _ _ bb ss tt hI=>
            refine⟨.pointer (some ⟨bb,ss+off+fd.offset,none⟩),λw=> ?_, .ptr' hI (by omega)⟩
            have hf':fs[f]? =some fd:=by simpa using hf
            simp[Instr.fieldAt,run_underlying hs,hf',Instr.sureAddr,fieldPlace,run_sizeOf hi,hz,Result.andThen,q03]
      · cases h
    · cases h
  · cases h
def q39(P:Program) (t:TypeId) (x i:AV):Option AV:=
  match i with
  | .int k (.ofNat n)=>
    match P.underlying t,x with
    |some (.array len e), .ptr id off=>if n<len then(match P.info? e with|some j=>some (.ptr id (off+n*j.size))|none=>none)else none
    |some (.slice e), .sl id off len _|some (.slice e), .gsl id off len _=>if n<len then(match P.info? e with|some j=>some (.ptr id (off+n*j.size))|none=>none)else none
    |_,_=>none
  |_=>none
def q6n{P:Program} {x i r:AV} {u v:Value} (h:q39 P t x i=some r) (hx:VR I x u) (hi:VR I i v):q05 P (Instr.indexAt t u v) I r:=by
  unfold q39 at h
  split at h
  · rename_i k n
    cases hi
    split at h
    · rename_i len e id off ht
      split at h
      · rename_i hl
        split at h
        · rename_i j hj
          cases h
          cases hx with
          | @ptr _ _ bb ss tt hI=>
            refine⟨.pointer (some ⟨bb,ss+off+n*j.size,none⟩),λw=> ?_, .ptr' hI (by omega)⟩
            have h1:(0:Int)<=(n:Int)/\(n:Int)<len:=by omega
            simp[Instr.indexAt,asIntOf,run_underlying ht,Instr.sureAddr,run_sizeOf hj,Result.andThen,q03]
            intro hc;omega
        · cases h
      · cases h
    · rename_i e id off len cap ht
      split at h
      · rename_i hl
        split at h
        · rename_i j hj
          cases h
          cases hx with
          | @sl _ _ _ _ bb ss tt hI=>
            refine⟨.pointer (some ⟨bb,ss+off+n*j.size,none⟩),λw=> ?_, .ptr' hI (by omega)⟩
            have h1:(0:Int)<=(n:Int)/\(n:Int)<len:=by omega
            simp[Instr.indexAt,asIntOf,run_underlying ht,Instr.sureAddr,run_sizeOf hj,Result.andThen,q03]
            intro hc;omega
        · cases h
      · cases h
    · rename_i e id off len esz ht
      split at h
      · rename_i hl
        split at h
        · rename_i j hj
          cases h
          cases hx with
          | @gsl _ _ _ _ bb ss tt c o hI g1 g2 g3=>
            have ho:o=ss+off:=by
              rcases g3 with g3|g3
              · exact g3
              · omega
            subst ho
            refine⟨.pointer (some ⟨bb,ss+off+n*j.size,none⟩),λw=> ?_, .ptr' hI (by omega)⟩
            have h1:(0:Int)<=(n:Int)/\(n:Int)<len:=by omega
            simp[Instr.indexAt,asIntOf,run_underlying ht,Instr.sureAddr,run_sizeOf hj,Result.andThen,q03]
            intro hc;omega
        · cases h
      · cases h
    · cases h
  · cases h
def apart(P:Program) (t:TypeId) (l:List AV) (off:Nat):Option AV:=
 match shapeOf P t with
 |some (some n)=>match takeN l off n with|some x=>some (.agg x)|none=>none
 |some none=>match l.drop off with|x::_=>some x| []=>none
 |none=>none
def q3w{P:Program} {l:List AV} {vs:List Value} {off:Nat} {r:AV} (h:apart P t l off=some r) (hl:VRs I l vs):q05 P (part t ⟨vs⟩ off) I r:=by
  unfold apart at h
  split at h
  · rename_i n hs
    split at h
    · rename_i x hx
      cases h
      unfold takeN at hx
      simp only at hx
      split at hx
      · rename_i hn
        cases hx
        have hr:=VRs.take (VRs.drop hl off) n
        refine⟨.agg ⟨(vs.drop off).take n⟩,λw=> ?_, .agg hr⟩
        obtain⟨h1,h2⟩:=q1m (P:=P) (w:=w) hs
        simp[part,h1,h2 n rfl,Result.andThen]
      · cases hx
    · cases h
  · rename_i hs
    split at h
    · rename_i x r hx
      cases h
      have hd:=VRs.drop hl off
      rw[hx]at hd
      cases hvs:vs.drop off with
      |nil=>rw[hvs]at hd;cases hd
      | cons v vr=>
        rw[hvs]at hd
        cases hd with
        | cons hv _=>
          refine⟨v,λw=> ?_,hv⟩
          obtain⟨h1,h2⟩:=q1m (P:=P) (w:=w) hs
          have hvo:vs[off]? =some v:=by
            have:(vs.drop off)[0]? =some v:=by rw[hvs];rfl
            rw[List.getElem?_drop]at this;simpa using this
          simp[part,h1,Result.andThen,hvo]
    · cases h
  · cases h
def ql3(P:Program) (t:TypeId) (a:AV) (f:Nat):Option AV:=
  match a,P.underlying t with
  | .agg l,some (.struct fs)=>match fs.toList[f]? with
    |some fd=>apart P fd.type l fd.offset
    |none=>none
  |_,_=>none
def qgm{P:Program} {a r:AV} {f:Nat} (h:ql3 P t a f=some r) (ha:VR I a u):q05 P (Instr.field t u f) I r:=by
  unfold ql3 at h
  split at h
  · rename_i l fs ht
    split at h
    · rename_i fd hf
      cases ha with
      | agg hl=>
        obtain⟨v,h1,h2⟩:=q3w h hl
        have hf':fs[f]? =some fd:=by simpa using hf
        exact⟨v,λw=>by simp[Instr.field,run_underlying ht,hf',asAgg,h1 w,Result.andThen],h2⟩
    · cases h
  · cases h
def qbh(P:Program) (t:TypeId) (x i:AV):Option AV:=
  match i with
  | .int k (.ofNat n)=>
    match P.underlying t,x with
    |some .string, .str l=>match nth l n with|some b=>some (.int .u8 (.ofNat (b % 256)))|none=>none
    |some (.array len e), .agg l=>if n<len then(match P.info? e with|some j=>apart P e l (n*j.size)|none=>none)else none
    |_,_=>none
  |_=>none
def qbi{P:Program} {x i r:AV} {u v:Value} (h:qbh P t x i=some r) (hx:VR I x u) (hi:VR I i v):q05 P (Instr.index t u v) I r:=by
  unfold qbh at h
  split at h
  · rename_i k n
    cases hi
    split at h
    · rename_i l ht
      split at h
      · rename_i b hb
        cases h
        cases hx
        refine⟨_,λw=> ?_, .int _ _⟩
        have hg:(mkS l)[n]? =some (UInt8.ofNat b):=by rw[qcw,←q0q,hb];rfl
        have h0:(if(0:Int)<=(n:Int)then(mkS l)[(n:Int).toNat]? else none)=some (UInt8.ofNat b):=by rw[if_pos (by omega)];exact hg
        simp only[Instr.index,asIntOf,Sem.run_bind,Sem.run_pure,Result.andThen,run_underlying ht,Int.ofNat_eq_natCast,h0,UInt8.toNat_ofNat']
      · cases h
    · rename_i len e l ht
      split at h
      · rename_i hl
        split at h
        · rename_i j hj
          cases hx with
          | agg hl'=>
            obtain⟨z,h1,h2⟩:=q3w h hl'
            refine⟨z,λw=> ?_,h2⟩
            simp[Instr.index,asIntOf,run_underlying ht,run_sizeOf hj,h1 w,Result.andThen]
            intro hc;omega
        · cases h
      · cases h
    · cases h
  · cases h
def ql2(x:AV) (i:Nat):Option AV:=
 match x with
 | .tup l=>nth l i
 |_=>none
def qgl{P:Program} {x r:AV} {i:Nat} (h:ql2 x i=some r) (hx:VR I x u):q05 P (Instr.extract u i) I r:=by
  unfold ql2 at h
  split at h
  · cases hx with
    | tup hl=>
      rw[q0q]at h
      obtain⟨v,h1,h2⟩:=VRs.get hl _ _ h
      exact⟨v,λw=>by simp[Instr.extract,h1],h2⟩
  · cases h
def q4e(len mx:Nat) (lo hi:Option AV):Option (Nat×Nat):=
  match hi with
  | none=>match lo with
    |none=>some (0,len)
    |some (.int _ (.ofNat l))=>if l<=len then some (l,len)else none
    |_=>none
  | some (.int _ (.ofNat h))=>if h<=mx then(match lo with
    |none=>some (0,h)
    |some (.int _ (.ofNat l))=>if l<=h then some (l,h)else none
    |_=>none)else none
  |_=>none
inductive VO(I:In):Option AV->Option Value->Prop
 |none:VO I none none
 |some {a v} (h:VR I a v):VO I (some a) (some v)
def q31{P:Program} {k:IntKind} {n y:Nat} (h:n<=y) (c:BoundsCode) (w:World):(Instr.sliceBound (.int k (.ofNat n)) y c).run P w= .ok n w:=by
 simp[Instr.sliceBound,asIntOf]
 intro hc;omega
def q25{P:Program} {len mx cap:Nat} {lo hi:Option AV} {u v:Option Value} {l h:Nat} {b:Bool} (e:q4e len mx lo hi=some (l,h)) (hlen:len<=mx) (hc:mx<=cap) (hl:VO I lo u) (hh:VO I hi v):
    (∀w,(Instr.sliceBounds b len cap u v none).run P w= .ok (l,h,cap) w)/\l<=h/\h<=mx:=by
  unfold q4e at e
  split at e
  · cases hh
    split at e
    · cases hl;cases e
      exact⟨λw=>by simp[Instr.sliceBounds],by omega,by omega⟩
    · split at e
      · rename_i k n hn
        cases e
        cases hl with
        |some hv=>cases hv;exact⟨λw=>by simp only[Instr.sliceBounds,Sem.run_bind,Sem.run_pure,Result.andThen,q31 hn],hn,hlen⟩
      · cases e
    · cases e
  · split at e
    · rename_i k n hn
      cases hh with
      | some hv=>
        cases hv
        split at e
        · cases hl;cases e
          exact⟨λw=>by simp only[Instr.sliceBounds,Sem.run_bind,Sem.run_pure,Result.andThen,q31 (Nat.le_trans hn hc)],by omega,hn⟩
        · split at e
          · rename_i k2 m hm
            cases e
            cases hl with
            |some hv2=>cases hv2;exact⟨λw=>by simp only[Instr.sliceBounds,Sem.run_bind,Sem.run_pure,Result.andThen,q31 (Nat.le_trans hn hc),q31 hm],hm,hn⟩
          · cases e
        · cases e
    · cases e
  · cases e
def qbo(P:Program) (t:TypeId) (x:AV) (lo hi:Option AV):Option AV:=
  match P.underlying t,x with
  | some .string, .str s=>
    let n:=s.length
    match q4e n n lo hi with
    |some (l,h)=>some (.str ((s.drop l).take (h- l)))
    |none=>none
  | some (.slice e), .nsl=>match q4e 0 0 lo hi with
    |some _=>(match P.info? e with|some _=>some .nsl|none=>none)
    |none=>none
  | some (.slice e), .sl id off len cap=>if len<=cap then(match q4e len cap lo hi,P.info? e with
    |some (l,h),some i=>some (.sl id (if cap=l then off else off+l*i.size) (h- l) (cap- l))
    |_,_=>none)else none
  | some (.slice e), .gsl id off len esz=>match q4e len len lo hi,P.info? e with
    |some (l,h),some i=>if i.size=esz then some (.gsl id (off+l*esz) (h- l) esz)else none
    |_,_=>none
  | some (.array n e), .ptr id off=>match q4e n n lo hi,P.info? e with
    |some (l,h),some i=>some (.sl id (if n=l then off else off+l*i.size) (h- l) (n- l))
    |_,_=>none
  |_,_=>none
def qbp {P:Program} {x r:AV} {lo hi:Option AV} {a b:Option Value} (e:qbo P t x lo hi=some r) (hx:VR I x u) (hl:VO I lo a) (hh:VO I hi b):
    q05 P (Instr.sliceAt t u a b none) I r:=by
  unfold qbo at e
  split at e
  · rename_i s ht
    simp only at e
    split at e
    · rename_i l h hb
      cases e;cases hx
      obtain⟨h1,h2,h3⟩:=q25 (P:=P) (b:=false) hb (Nat.le_refl _) (Nat.le_refl _) hl hh
      refine⟨_,λw=> ?_, .str _⟩
      simp[Instr.sliceAt,run_underlying ht,Result.andThen,Instr.slice,q0l,h1 w,q56]
    · cases e
  · rename_i el ht
    split at e
    · rename_i p hb
      split at e
      · rename_i i hi
        cases e;cases hx
        obtain⟨l,h⟩:=p
        obtain⟨h1,h2,h3⟩:=q25 (P:=P) (b:=true) hb (Nat.le_refl _) (Nat.le_refl _) hl hh
        refine⟨.slice none 0 0,λw=> ?_, .nsl⟩
        have:h=0:=by omega
        have:l=0:=by omega
        subst_vars
        simp only[Instr.sliceAt,Sem.run_bind,run_underlying ht,Result.andThen,Instr.slice,h1 w,run_sizeOf hi]
        rfl
      · cases e
    · cases e
  · rename_i el id off len cap ht
    split at e
    · rename_i hle
      split at e
      · rename_i l h i hb hi
        cases e
        cases hx with
        | @sl _ _ _ _ bb ss tt hI=>
          obtain⟨h1,h2,h3⟩:=q25 (P:=P) (b:=true) hb hle (Nat.le_refl _) hl hh
          refine⟨.slice (some ⟨bb,if cap=l then ss+off else ss+off+l*i.size,none⟩) (h- l) (cap- l),λw=> ?_, .sl' hI (by split<;>omega)⟩
          simp only[Instr.sliceAt,Sem.run_bind,run_underlying ht,Result.andThen,Instr.slice,h1 w,run_sizeOf hi,Option.map,q03]
          by_cases hc:cap=l<;>simp[hc]
      · cases e
    · cases e
  · rename_i el id off len esz ht
    split at e
    · rename_i l h i hb hi
      split at e
      · rename_i hsz
        cases e
        cases hx with
        | @gsl _ _ _ _ bb ss tt c o hI g1 g2 g3=>
          obtain⟨h1,h2,h3⟩:=q25 (P:=P) (b:=true) hb (Nat.le_refl _) g1 hl hh
          have hcl:(c- l)*esz+l*esz=c*esz:=by rw[←Nat.add_mul];congr 1;omega
          by_cases hc:c=l
          · subst hc
            refine⟨.slice (some ⟨bb,o,none⟩) (h- c) (c- c),λw=> ?_, .gsl hI (by omega) (by rw[Nat.sub_self,Nat.zero_mul];omega) (.inr (Nat.sub_self c))⟩
            simp only[Instr.sliceAt,Sem.run_bind,run_underlying ht,Result.andThen,Instr.slice,h1 w,run_sizeOf hi,if_true]
            rfl
          · have hc0:¬c=0:=by omega
            refine⟨.slice (some ⟨bb,o+l*i.size,none⟩) (h- l) (c- l),λw=> ?_, .gsl hI (by omega) (by omega) (.inl ?_)⟩
            · simp only[Instr.sliceAt,Sem.run_bind,run_underlying ht,Result.andThen,Instr.slice,h1 w,run_sizeOf hi,Option.map,q03,if_neg hc]
              rfl
            · rw[hsz]
              rcases g3 with g3|g3
              · omega
              · exact absurd g3 hc0
      · cases e
    · cases e
  · rename_i n el id off ht
    split at e
    · rename_i l h i hb hi
      cases e
      cases hx with
      | @ptr _ _ bb ss tt hI=>
        obtain⟨h1,h2,h3⟩:=q25 (P:=P) (b:=false) hb (Nat.le_refl _) (Nat.le_refl _) hl hh
        refine⟨.slice (some ⟨bb,if n=l then ss+off else ss+off+l*i.size,none⟩) (h- l) (n- l),λw=> ?_, .sl' hI (by split<;>omega)⟩
        simp only[Instr.sliceAt,Sem.run_bind,run_underlying ht,Result.andThen,Instr.sureAddr,Sem.run_pure,h1 w,run_sizeOf hi,q03]
        by_cases hc:n=l<;>simp[hc]
    · cases e
  · cases e
def q2s:AV->List AV
  | .agg l=>l
  | .sv v=>match v.oneCell' with
    |true=>[.sv v]
    |false=>v.cells.toList.map .sv
  |a=>[a]
def VRs.svs{I:In}:∀l:List Value,VRs I (l.map .sv) l
 | []=> .nil
 |v::l=> .cons (.sv v) (VRs.svs l)
def q32{I:In} {a:AV} {v:Value} (h:VR I a v):VRs I (q2s a) v.cells.toList:=by
 cases h
 case sv=>
  unfold q2s
  simp only
  split
  ·rename_i h1
   cases v<;>first|exact .cons (.sv _) .nil|simp[Value.oneCell']at h1
  ·exact VRs.svs _
 case agg=>assumption
 all_goals exact .cons (by constructor<;>assumption) .nil
def q8g(place:Nat->Option (Nat×Nat)) (l:List AV):List (Nat×AV)->Option (List AV)
  | []=>some l
  | (i,a)::rest=>
    match place i with
    |none=>none
    | some (off,size)=>
      let x:=q2s a
      if x.length=size then(if off+size<=l.length then q8g place (spl l off x) rest else none)else none
inductive PR(I:In):List (Nat×AV)->List (Nat×Value)->Prop
 |nil:PR I [] []
 |cons {i a v l vs} (h:VR I a v) (t:PR I l vs):PR I ((i,a)::l) ((i,v)::vs)
def q9f(off:Nat):∀(xs:List Value) (k:Nat) (l:List Value),(xs.zipIdx k).foldl (λ(cs:Array Value) (c,j)=>cs.setIfInBounds (off+j) c) ⟨l⟩=(⟨spl l (off+k) xs⟩:Array Value)
  | [],_,_=>rfl
  | x::xs,k,l=>by
    simp only[List.zipIdx_cons,List.foldl_cons,spl]
    have:(⟨l⟩:Array Value).setIfInBounds (off+k) x=⟨l.set (off+k) x⟩:=by simp
    rw[this,q9f off xs (k+1)]
    rfl
def qce(off:Nat) (xs:Array Value) (l:List Value):(xs.zipIdx).foldl (λ(cs:Array Value) (c,j)=>cs.setIfInBounds (off+j) c) ⟨l⟩=(⟨spl l off xs.toList⟩:Array Value):=by
 have:=q9f off xs.toList 0 l
 rw[Nat.add_zero]at this
 rw[←this,←Array.foldl_toList]
 congr 1
 simp
def q3y{I:In} (place:Nat->Option (Nat×Nat)):∀{parts:List (Nat×AV)} {ps:List (Nat×Value)},PR I parts ps->∀(l r:List AV) (vs:List Value),VRs I l vs->q8g place l parts=some r->∃us,Instr.fill place ⟨vs⟩ ps=some ⟨us⟩/\VRs I r us
  |_,_, .nil=>λl r vs hl h=>by simp[q8g]at h;subst h;exact⟨vs,rfl,hl⟩
  | _, _, .cons (i:=i) (v:=v) hv ht=>λl r vs hl h=>by
    simp only[q8g]at h
    split at h
    · cases h
    · rename_i off size hp
      split at h
      · rename_i h1
        split at h
        · rename_i h2
          have hc:=q32 hv
          have hsz:v.cells.size=size:=by rw[←Array.length_toList,←hc.len];exact h1
          have hvl:vs.length=l.length:=hl.len.symm
          obtain⟨us,h3,h4⟩:=q3y place ht _ _ _ (q93 hc off hl) h
          refine⟨us,?_,h4⟩
          have hlen:(⟨vs⟩:Array Value).size=vs.length:=rfl
          simp only[Instr.fill,hp,hsz,hlen,hvl]
          rw[if_neg (by simp;omega),qce]
          exact h3
        · cases h
      · cases h
def q21(P:Program) (t:TypeId):Option (List AV):=
  match P.info? t with
  | some i=>match i.zero with
    |some z=>ofVals z.cells.toList
    |none=>none
  |none=>none
variable {t:TypeId}
def q1p{P:Program} {l:List AV} (h:q21 P t=some l) (I:In):∃z,(∀w,(zeroValue t).run P w= .ok z w)/\VRs I l z.cells.toList:=by
 unfold q21 at h
 split at h
 ·rename_i i hi
  split at h
  ·rename_i z hz
   exact⟨z,λw=>by simp[zeroValue,typeInfo,program,Sem.run,hi,bind,Sem.bind,pure,hz],ofVals_rel I _ _ h⟩
  ·cases h
 ·cases h
def q5v(t:T AV):List (Nat×Operand)->Option (List (Nat×AV))
  | []=>some []
  | (i,x)::l=>match ev t x with
    | some a=>match q5v t l with
      |some r=>some ((i,a)::r)
      |none=>none
    |none=>none
def q4j{I:In} {t:T AV} {a:Act} (h:TR I t a.tmps):∀{l:List (Nat×Operand)} {r},q5v t l=some r->PR I r (l.map λ(i,x)=>(i,a.eval x))
  | [],r,e=>by simp[q5v]at e;subst e;exact .nil
  | (i,x)::l,r,e=>by
    simp only[q5v]at e
    split at e
    · rename_i v hv
      split at e
      · rename_i y hy;cases e;exact .cons (q00 h hv) (q4j h hy)
      · cases e
    · cases e
def places(P:Program):List Field->Option (List (Nat×Nat))
  | []=>some []
  | f ::l=>match P.info? f.type with
    | some i=>match places P l with
      |some r=>some ((f.offset,i.size)::r)
      |none=>none
    |none=>none
inductive All2{α β:Type} (R:α->β->Prop):List α->List β->Prop
 |nil:All2 R [] []
 |cons {x y l r} (h:R x y) (t:All2 R l r):All2 R (x::l) (y::r)
def q9l{α β:Type} {P:Program} (f:α->Sem β):∀(l:List α) (r:List β),(All2 (λx y=>∀w,(f x).run P w= .ok y w) l r)->∀w,(l.mapM f).run P w= .ok r w
  | [],r,h,w=>by cases h;simp
  | x::l,r,h,w=>by
    cases h with
    |cons h1 h2=>simp[h1 w,q9l f l _ h2 w,Result.andThen]
def qct{α β:Type} {P:Program} (f:α->Sem β) (l:Array α) (r:List β) (h:All2 (λx y=>∀w,(f x).run P w= .ok y w) l.toList r) (w:World):(l.mapM f).run P w= .ok ⟨r⟩ w:=by
 rw[Array.mapM_eq_mapM_toList]
 simp[q9l f l.toList r h w,Result.andThen]
def q7u{P:Program}:∀{l:List Field} {r},places P l=some r->All2 (λ(x:Field) y=>∀w,((do pure (x.offset,←sizeOf x.type)):Sem (Nat×Nat)).run P w= .ok y w) l r
  | [],r,e=>by simp[places]at e;subst e;exact .nil
  | f ::l,r,e=>by
    simp only[places]at e
    split at e
    · rename_i i hi
      split at e
      · rename_i y hy;cases e
        exact .cons (λw=>by simp[run_sizeOf hi,Result.andThen]) (q7u hy)
      · cases e
    · cases e
def qb7(P:Program) (t:TypeId) (parts:List (Nat×AV)):Option AV:=
  match q21 P t with
  | some z=>match P.underlying t with
    | some (.struct fs)=>match places P fs.toList with
      |some pl=>match q8g (λi=>nth pl i) z parts with|some x=>some (.agg x)|none=>none
      |none=>none
    | some (.array _ e)=>match P.info? e with
      |some i=>match q8g (λk=>some (k*i.size,i.size)) z parts with|some x=>some (.agg x)|none=>none
      |none=>none
    |_=>none
  |none=>none
def qb8{P:Program} {I:In} {parts:List (Nat×AV)} {ps:Array (Nat×Value)} {r:AV} (h:qb7 P t parts=some r) (hp:PR I parts ps.toList):q05 P (Instr.build t ps) I r:=by
 unfold qb7 at h
 split at h
 ·rename_i z hz
  obtain⟨zv,h1,h2⟩:=q1p hz I
  split at h
  ·rename_i fs ht
   split at h
   ·rename_i pl hpl
    split at h
    ·rename_i x hx
     cases h
     obtain⟨us,h3,h4⟩:=q3y _ hp _ _ _ h2 hx
     refine⟨.agg ⟨us⟩,λw=> ?_, .agg h4⟩
     have hm:=qct (P:=P) (λ(f:Field)=>(do pure (f.offset,←sizeOf f.type):Sem (Nat×Nat))) fs pl (q7u hpl) w
     have hpl':(λi=>(⟨pl⟩:Array (Nat×Nat))[i]?)=(λi=>nth pl i):=by funext i;rw[q0q];simp
     have hcz:zv.cells=⟨zv.cells.toList⟩:=rfl
     simp only[Instr.build,Sem.run_bind,h1 w,Result.andThen,run_underlying ht,hm,hpl']
     rw[hcz,h3]
     rfl
    ·cases h
   ·cases h
  ·rename_i n e ht
   split at h
   ·rename_i i hi
    split at h
    ·rename_i x hx
     cases h
     obtain⟨us,h3,h4⟩:=q3y _ hp _ _ _ h2 hx
     refine⟨.agg ⟨us⟩,λw=> ?_, .agg h4⟩
     have hcz:zv.cells=⟨zv.cells.toList⟩:=rfl
     simp only[Instr.build,Sem.run_bind,h1 w,Result.andThen,run_underlying ht,run_sizeOf hi]
     rw[hcz,h3]
     rfl
    ·cases h
   ·cases h
  ·cases h
 ·cases h
def ql4(P:Program) (t:TypeId) (x:AV):Option AV:=
 match P.underlying t,x with
 |some .string, .str l=>some (.int .i64 (.ofNat l.length))
 |some (.slice _), .nsl=>some (.int .i64 0)
 |some (.slice _), .sl _ _ n _|some (.slice _), .gsl _ _ n _=>some (.int .i64 (.ofNat n))
 |some (.array n _),_=>some (.int .i64 (.ofNat n))
 |some (.map ..), .nmap=>some (.int .i64 0)
 |_,_=>none
variable {I:In} {ts:Array TypeId} {ty:TypeId}
def qgn{P:Program} {t:TypeId} {x r:AV} {u:Value} {args:Array Value} (h:ql4 P t x=some r) (hx:VR I x u) (ht:ts[0]? =some t) (ha:args[0]? =some u):q05 P (Builtin.len_ ts ty args) I r:=by
  unfold ql4 at h
  split at h
  all_goals (try (rename_i hd))
  all_goals first
    | (cases h;done)
    | (cases h
       cases hx
       refine⟨_,λw=> ?_, .int _ _⟩
       simp[Builtin.len_,ht,ha,run_underlying hd,Result.andThen,goInt,q0l]
       done)
    | (cases h
       refine⟨_,λw=> ?_, .int _ _⟩
       simp[Builtin.len_,ht,ha,run_underlying hd,Result.andThen,goInt,q0l]
       done)
def q8i(b:Builtin) (l:List AV):Option AV:=
 match b,l with
 | .max,[.int k x, .int _ y]=>some (.int k (if y>x then y else x))
 | .min,[.int k x, .int _ y]=>some (.int k (if y<x then y else x))
 |_,_=>none
def q6l(P:Program) (b:Builtin) (ts:List TypeId) (l:List AV):Option AV:=
  match b with
  | .len=>match ts,l with
    |t::_,x::_=>ql4 P t x
    |_,_=>none
  | .cap=>match ts,l with
    |t::_,[.sl _ _ _ c]=>match P.underlying t with|some (.slice _)=>some (.int .i64 (.ofNat c))|_=>none
    |t::_,[.nsl]=>match P.underlying t with|some (.slice _)=>some (.int .i64 0)|_=>none
    |_,_=>none
  | .max| .min=>q8i b l
  | .unsafeSliceData=>match l with
    | [.nsl]=>some .nilp
    | [.sl id off _ c]=>if c=0 then none else some (.ptr id off)
    | [.gsl id off n _]=>if n=0 then none else some (.ptr id off)
    |_=>none
  |_=>none
def usd{P:Program} (ts:List TypeId) (ty:TypeId) (a:Addr) (n c:Nat) (w:World) (h:¬c=0):(Builtin.unsafeSliceData_ ⟨ts⟩ ty ⟨[.slice (some a) n c]⟩).run P w= .ok (.pointer (some a)) w:=by
 show Sem.run P (if c≠0 then(pure (Value.pointer (some a)):Sem Value)else _) w=_
 rw[if_pos h];rfl
variable {vs:List Value}
def qdu{a:AV} (h:VRs I [a] vs):∃v,vs=[v]/\VR I a v:=by
 cases h with|cons h t=>cases t;exact⟨_,rfl,h⟩
def q8e{P:Program} {b:Builtin} {l:List AV} {r:AV} {cs:Array Bool} (h:q6l P b ts.toList l=some r) (hl:VRs I l vs):qe3 P (builtin b ts ty cs ⟨vs⟩) I r:=by
  obtain⟨ts⟩:=ts
  unfold q6l at h
  split at h
  · split at h
    · rename_i t _ x _ e1
      simp only at e1;subst e1
      cases hl with
      |cons h1 h2=>exact(qgn h h1 (by simp) (by simp)).next
    · cases h
  · split at h
    · rename_i t _ id off n c e1
      simp only at e1;subst e1
      split at h
      · rename_i e he
        cases h
        obtain⟨v,rfl,hv⟩:=qdu hl
        cases hv
        exact q05.next ⟨_,λw=>by simp[Builtin.cap_,run_underlying he,Result.andThen,goInt], .int _ _⟩
      · cases h
    · rename_i t _ e1
      simp only at e1;subst e1
      split at h
      · rename_i e he
        cases h
        obtain⟨v,rfl,hv⟩:=qdu hl
        cases hv
        exact q05.next ⟨_,λw=>by simp[Builtin.cap_,run_underlying he,Result.andThen,goInt], .int _ _⟩
      · cases h
    · cases h
  · unfold q8i at h
    split at h
    · rename_i k x k2 y heq
      cases h
      cases hl with|cons h1 h2=>obtain⟨v,rfl,hv⟩:=qdu h2;cases h1;cases hv;exact q05.next ⟨_,λw=>by simp[Builtin.max_,Builtin.max2], .int _ _⟩
    · cases ‹Builtin.max=Builtin.min›
    · cases h
  · unfold q8i at h
    split at h
    · cases ‹Builtin.min=Builtin.max›
    · cases h
      cases hl with|cons h1 h2=>obtain⟨v,rfl,hv⟩:=qdu h2;cases h1;cases hv;exact q05.next ⟨_,λw=>by simp[Builtin.min_,Builtin.min2], .int _ _⟩
    · cases h
  · split at h
    · cases h
      obtain⟨v,rfl,hv⟩:=qdu hl
      cases hv
      exact q05.next ⟨_,λw=>rfl, .nilp⟩
    · split at h
      · cases h
      · rename_i hc
        cases h
        obtain⟨v,rfl,hv⟩:=qdu hl
        cases hv with
        |sl hI=>exact q05.next ⟨_,λw=>usd ts ty _ _ _ w hc, .ptr hI⟩
    · split at h
      · cases h
      · rename_i hc
        cases h
        obtain⟨v,rfl,hv⟩:=qdu hl
        cases hv with
        | @gsl _ _ _ _ _ ss tt c o hI g1 g2 g3=>
          have hz:¬c=0:=by omega
          have ho:o=ss+_:=g3.resolve_right hz
          exact q05.next ⟨_,λw=>usd ts ty _ _ _ w hz, .ptr' hI ho⟩
    · cases h
  · cases h
def evo(t:T AV):Option Operand->Option (Option AV)
  |none=>some none
  | some x=>match ev t x with
    |some a=>some (some a)
    |none=>none
variable {t:T AV}
def qfu{a:Act} (h:TR I t a.tmps) {x:Option Operand} {v} (e:evo t x=some v):VO I v (x.map a.eval):=by
  cases x with
  |none=>simp[evo]at e;subst e;exact .none
  | some x=>
    simp only[evo]at e
    split at e
    · rename_i y hy;cases e;exact .some (q00 h hy)
    · cases e
def ql6(P:Program) (xt:TypeId) (a:AV):Option AV:=
 match P.underlying xt with
 |some (.interface _)=>none
 |some _=>some (.ifc xt a)
 |none=>none
def qgp{P:Program} {xt:TypeId} {a r:AV} {v:Value} (h:ql6 P xt a=some r) (hv:VR I a v):q05 P (Instr.makeInterface xt v) I r:=by
 unfold ql6 at h
 split at h
 ·cases h
 ·rename_i d hn hd
  cases h
  refine⟨.iface xt v,λw=> ?_, .ifc hv⟩
  unfold Instr.makeInterface
  simp only[Sem.run_bind,run_underlying hd,Result.andThen]
  cases d with
  |interface ms=>exact(hn ms rfl).elim
  |_=>rfl
 ·cases h
def qop(P:Program) (t:T AV) (o:Oper):Option AV:=
  match o.op with
  | .move x| .assign x=>ev t x
  | .pick c a b=>match ev t c with
    |some (.bool true)=>ev t a
    |some (.bool false)=>ev t b
    |_=>none
  | .build ty parts=>match q5v t parts.toList with
    |some ps=>qb7 P ty ps
    |none=>none
  | .nilCheck x=>match ev t x with
    |some (.ptr i f)=>some (.ptr i f)
    |some (.fn f c)=>some (.fn f c)
    |some (.ifc f c)=>some (.ifc f c)
    |some (.bfn f b c)=>some (.bfn f b c)
    |_=>none
  | .binOp op xt x y _=>match ev t x,ev t y with
    |some a,some b=>qgg P op xt y a b
    |_,_=>none
  | .unOp op _ x=>match ev t x with
    |some a=>aun P op a
    |none=>none
  | .convert s d x=>match ev t x with
    |some a=>qgi P s d a
    |none=>none
  | .makeInterface xt x=>match ev t x with
    |some a=>ql6 P xt a
    |none=>none
  | .makeFunc fn first caps=>amk t fn first.toList caps.toList
  | .slice ty x lo hi mx=>match mx,ev t x,evo t lo,evo t hi with
    |none,some a,some l,some h=>qbo P ty a l h
    |_,_,_,_=>none
  | .fieldAddr s x f=>match ev t x with
    |some a=>qbe P s a f
    |none=>none
  | .field xt x f=>match ev t x with
    |some a=>ql3 P xt a f
    |none=>none
  | .indexAddr ty x i=>match ev t x,ev t i with
    |some a,some b=>q39 P ty a b
    |_,_=>none
  | .index ty x i=>match ev t x,ev t i with
    |some a,some b=>qbh P ty a b
    |_,_=>none
  | .extract x i=>match ev t x with
    |some a=>ql2 a i
    |none=>none
  | .call c=>match c.callee with
    | .builtin b=>match evs t c.args.toList with
      |some l=>q6l P b c.argTypes.toList l
      |none=>none
    |_=>none
  |_=>none
def qjy{P:Program} {a:Act} {o:Oper} {r:AV} (h:qop P t o=some r) (ht:TR I t a.tmps):qe3 P (execOp a.eval o) I r:=by
  obtain⟨dst,op,ty,pos,after,guard⟩:=o
  cases op with
  |move x=>exact⟨_,λw=>rfl,q00 ht h⟩
  |assign x=>exact⟨_,λw=>rfl,q00 ht h⟩
  | pick c x y=>
    simp only[qop]at h
    split at h
    · rename_i hc
      have h1:=q00 ht hc
      generalize hcv:a.eval c=cv at h1
      cases h1
      exact⟨_,λw=>by simp[execOp,hcv,asBool,Result.andThen],q00 ht h⟩
    · rename_i hc
      have h1:=q00 ht hc
      generalize hcv:a.eval c=cv at h1
      cases h1
      exact⟨_,λw=>by simp[execOp,hcv,asBool,Result.andThen],q00 ht h⟩
    · cases h
  | build bt parts=>
    simp only[qop]at h
    split at h
    · rename_i ps hps
      have h1:=q4j ht hps
      exact(qb8 (ps:=parts.map λ(i,x)=>(i,a.eval x)) h (by simpa using h1)).next
    · cases h
  | nilCheck x=>
    simp only[qop]at h
    split at h
    · rename_i hx
      cases h
      have h1:=q00 ht hx
      generalize hv:a.eval x=v at h1
      cases h1 with
      |ptr hI=>exact⟨_,λw=>by simp[execOp,hv], .ptr hI⟩
    · rename_i hx
      cases h
      have h1:=q00 ht hx
      generalize hv:a.eval x=v at h1
      cases h1 with
      |fn hI=>exact⟨_,λw=>by simp[execOp,hv], .fn hI⟩
    · rename_i hx
      cases h
      have h1:=q00 ht hx
      generalize hv:a.eval x=v at h1
      cases h1 with
      |ifc hI=>exact⟨_,λw=>by simp[execOp,hv], .ifc hI⟩
    · rename_i hx
      cases h
      have h1:=q00 ht hx
      generalize hv:a.eval x=v at h1
      cases h1 with
      |bfn hI hJ=>exact⟨_,λw=>by simp[execOp,hv], .bfn hI hJ⟩
    · cases h
  | binOp op xt x y yt=>
    simp only[qop]at h
    split at h
    · rename_i h1 h2
      exact(qe5 h (q00 ht h1) (q00 ht h2)).next
    · cases h
  | unOp op xt x=>
    simp only[qop]at h
    split at h
    · rename_i h1;exact(qis h (q00 ht h1)).next
    · cases h
  | convert s d x=>
    simp only[qop]at h
    split at h
    · rename_i h1;exact(qe6 h (q00 ht h1)).next
    · cases h
  | makeInterface xt x=>
    simp only[qop]at h
    split at h
    · rename_i h1;exact(qgp h (q00 ht h1)).next
    · cases h
  | makeFunc fn first caps=>
    simp only[qop,amk]at h
    split at h
    · rename_i f hf
      split at h
      · rename_i l hl
        cases h
        have hfirst:first= #[]:=by apply Array.toList_inj.1;simpa using hf
        subst hfirst
        have hr:=q0z ht hl
        have e:(⟨caps.toList.map a.eval⟩:Array Value)=caps.map a.eval:=by apply Array.toList_inj.1;simp
        have h3:=VR.fn (f:=f) hr
        rw[e]at h3
        exact⟨_,λw=>by simp[execOp,Instr.makeFunc],h3⟩
      · cases h
    · rename_i f x xs hf
      split at h
      · rename_i a1 l ha hl
        cases h
        have hr:=q0z ht hl
        have hq:=q0z ht ha
        have e:(⟨caps.toList.map a.eval⟩:Array Value)=caps.map a.eval:=by apply Array.toList_inj.1;simp
        have e2:(⟨(x::xs).map a.eval⟩:Array Value)=first.map a.eval:=by rw[←hf];apply Array.toList_inj.1;simp
        have h3:=VR.bfn (f:=f) hq hr
        rw[e,e2]at h3
        exact⟨_,λw=>by simp[execOp,Instr.makeFunc],h3⟩
      · cases h
    · cases h
  | slice st x lo hi mx=>
    simp only[qop]at h
    split at h
    · rename_i h1 h2 h3
      exact(qbp h (q00 ht h1) (qfu ht h2) (qfu ht h3)).next
    · cases h
  | fieldAddr s x f=>
    simp only[qop]at h
    split at h
    · rename_i h1;exact(qbf h (q00 ht h1)).next
    · cases h
  | field s x f=>
    simp only[qop]at h
    split at h
    · rename_i h1;exact(qgm h (q00 ht h1)).next
    · cases h
  | indexAddr st x i=>
    simp only[qop]at h
    split at h
    · rename_i h1 h2;exact(q6n h (q00 ht h1) (q00 ht h2)).next
    · cases h
  | index st x i=>
    simp only[qop]at h
    split at h
    · rename_i h1 h2;exact(qbi h (q00 ht h1) (q00 ht h2)).next
    · cases h
  | extract x i=>
    simp only[qop]at h
    split at h
    · rename_i h1;exact(qgl h (q00 ht h1)).next
    · cases h
  | call c=>
    simp only[qop]at h
    split at h
    · rename_i b hb
      split at h
      · rename_i l hl
        obtain⟨v,h1,h2⟩:=q8e (ty:=ty) (cs:=c.args.map λ| .const _=>true|_=>false) h (q0z ht hl)
        refine⟨v,λw=> ?_,h2⟩
        have e:(⟨c.args.toList.map a.eval⟩:Array Value)=c.args.map a.eval:=by apply Array.toList_inj.1;simp
        rw[e]at h1
        simp only[execOp,resolve,hb,Sem.run_bind,Sem.run_pure,Result.andThen,invoke]
        exact h1 w
      · cases h
    · cases h
  |_=>simp[qop]at h
def qc5:AV->Option Value
 | .agg l=>match qav.concs l with|some x=>some (.agg ⟨x⟩)|none=>none
 |a=>qc4 a
variable {I:In}
def q4o{a:AV} {v u:Value} (h:qc5 a=some v) (r:VR I a u):u=v:=by
 unfold qc5 at h
 split at h
 ·split at h
  ·rename_i x hx;cases h
   cases r with|agg hr=>rw[q1k hx hr]
  ·cases h
 ·exact q2e h r
def bytesOf:List AV->Option (List Nat)
 | []=>some []
 | .int .u8 (.ofNat n)::l=>if n<256 then(match bytesOf l with|some r=>some (n::r)|none=>none)else none
 |_=>none
def q2r:∀{l:List AV} {r:List Nat},bytesOf l=some r->r.length=l.length
  | [],r,h=>by simp[bytesOf]at h;subst h;rfl
  | a ::l,r,h=>by
    unfold bytesOf at h
    split at h
    · rename_i e;simp at e
    · rename_i n m e
      simp at e
      obtain⟨_,rfl⟩:=e
      split at h
      · split at h
        · rename_i y hy;cases h;simp[q2r hy]
        · cases h
      · cases h
    · cases h
def q2q{I:In}:∀{l:List AV} {r:List Nat} {vs:List Value},bytesOf l=some r->VRs I l vs->∀(i:Nat) (n:Nat),r[i]? =some n->n<256/\vs[i]? =some (.int .u8 (.ofNat n))
  | [],r,vs,h,hv,i,n,e=>by simp[bytesOf]at h;subst h;simp at e
  | a :: l, r,vs,h,hv,i,n,e=>by
    unfold bytesOf at h
    split at h
    · rename_i e;simp at e
    · rename_i k m e'
      simp at e'
      obtain⟨rfl,rfl⟩:=e'
      split at h
      · rename_i hk
        split at h
        · rename_i y hy
          cases h
          cases hv with
          | cons h1 h2=>
            cases h1
            cases i with
            |zero=>simp at e;subst e;exact⟨hk,rfl⟩
            |succ i=>exact q2q hy h2 i n (by simpa using e)
        · cases h
      · cases h
    · cases h
def q8m(h:T AO) (id off n:Nat):Option (List AV):=
 match h.get id with
 |some (.cells _ _ _ l)=>takeN l off n
 |_=>none
variable {F:Bool->Nat->Prop} {h:T AO} {w:World}
def qbn(hs:Sim F I h w) {id off n b s t:Nat} {l:List AV} (e:q8m h id off n=some l) (hi:I id=some (b,s,t)):
    ∃ys:List Value,VRs I l ys/\ys.length=n/\(∀(j:Nat) v,ys[j]? =some v->w.cell? ⟨b,s+off+j,none⟩=some v)/\∃c e fr,w.heap[b]? =some (.cells c e fr)/\(∀(j:Nat) v,ys[j]? =some v->c[s+off+j]? =some v):=by
  unfold q8m at e
  split at e
  · rename_i el fz g l0 hg
    obtain⟨ob,hb,ho⟩:=hs.obj _ _ _ _ hg hi
    cases ho with
    | @cells _ _ _ _ _ pre vs rest fr hv hg' hp ht hf hE=>
      obtain⟨ys,h1,h2,h3⟩:=q76 (rest:=rest) hv hp e
      exact⟨ys,h1,h2,λj v hj=>by rw[cell_of hb];exact h3 j v hj,_,_,_,hb,h3⟩
  · cases e
def qb9(P:Program) (h:T AO) (s d:TypeId) (x:AV):Option AV:=
  match P.underlying s,P.underlying d with
  | some (.slice e),some .string=>match P.underlying e with
    | some (.int .u8)=>match x with
      | .nsl=>some (.str [])
      | .sl id off n _| .gsl id off n _=>(match q8m h id off n with|some l=>(match bytesOf l with|some r=>some (.str r)|none=>none)|none=>none)
      |_=>none
    |_=>none
  |_,_=>none
def q5t{P:Program} (hs:Sim F I h w) {s d e:TypeId} (hsu:P.underlying s=some (.slice e)) (hd:P.underlying d=some .string) (he:P.underlying e=some (.int .u8)) {id off n b ss t c o:Nat} {l:List AV} {r:List Nat} (h1:q8m h id off n=some l) (h2:bytesOf l=some r) (hi:I id=some (b,ss,t)) (ho:o=ss+off\/n=0):
  (convert s d (.slice (some ⟨b,o,none⟩) n c)).run P w= .ok (.string (mkS r)) w:=by
 obtain⟨ys,g1,g2,g3,_⟩:=qbn hs h1 hi
 have hlen:(mkS r).size=n:=by rw[q0l,q2r h2,g1.len,g2]
 have hB:Lib.Bytes w b o (mkS r):=λi hi'=>by
  have ho:o=ss+off:=by
   rcases ho with ho|ho
   ·exact ho
   ·rw[hlen,ho]at hi';omega
  subst ho
  have hir:i<r.length:=by rw[q0l]at hi';exact hi'
  obtain⟨k1,k2⟩:=q2q h2 g1 i r[i] (List.getElem?_eq_getElem hir)
  rw[g3 i _ k2]
  have:(mkS r)[i]? =some (UInt8.ofNat r[i]):=by rw[qcw,List.getElem?_eq_getElem hir];rfl
  rw[ByteArray.getElem?_lt' _ _ hi']at this
  rw[Option.some.inj this,UInt8.toNat_ofNat',Nat.mod_eq_of_lt k1]
  rfl
 have:=Lib.run_convert_whole (P:=P) w s e d hsu he hd b o (mkS r) hB c
 rw[hlen]at this
 exact this
def qba{P:Program} (hs:Sim F I h w) {s d:TypeId} {x r:AV} {u:Value} (e:qb9 P h s d x=some r) (hx:VR I x u):
  ∃v,(convert s d u).run P w= .ok v w/\VR I r v:=by
 unfold qb9 at e
 split at e
 ·rename_i el hsu hd
  split at e
  ·rename_i he
   split at e
   ·cases e;cases hx
    exact⟨_,by simp[convert,run_underlying hsu,run_underlying hd,run_underlying he,Result.andThen,Conv.bytesToString];rfl, .str []⟩
   ·split at e
    ·rename_i l hl
     split at e
     ·rename_i q hq
      cases e
      cases hx with|sl hI=>exact⟨_,q5t hs hsu hd he hl hq hI (.inl rfl), .str _⟩
     ·cases e
    ·cases e
   ·split at e
    ·rename_i l hl
     split at e
     ·rename_i q hq
      cases e
      cases hx with|gsl hI g1 g2 g3=>exact⟨_,q5t hs hsu hd he hl hq hI (g3.imp id λhc=>by omega), .str _⟩
     ·cases e
    ·cases e
   ·cases e
  ·cases e
 ·cases e
abbrev q6g:=Value×AV×Nat
def q1c(kind:TypeDesc) (k:Value):List q6g->Nat->Option (Option (Nat×AV))
  | [],_=>some none
  | e::es,i=>
    match Instr.sameNow kind k e.1 with
    |some true=>some (some (i,e.2.1))
    |some false=>q1c kind k es (i+1)
    |none=>none
def q35(P:Program) (kt:TypeId) (k:Value):List q6g->Nat->Option (Option (Nat×AV))
  | [],_=>some none
  | e::es,i=>
    match q2j P (Op.equal kt k e.1)with
    |some true=>some (some (i,e.2.1))
    |some false=>q35 P kt k es (i+1)
    |none=>none
inductive FR(I:In):Option (Nat×AV)->Option (Nat×Value)->Prop
 |none:FR I none none
 |some {i a v} (h:VR I a v):FR I (some (i,a)) (some (i,v))
def q4t{I:In} {kind:TypeDesc} {k:Value}:∀{es:List q6g} {ms:List MapEntry},MR I es ms->∀i,(∀r,q1c kind k es i=some r->∃r',Instr.findNow kind k ms i=some r'/\FR I r r')/\(q1c kind k es i=none->Instr.findNow kind k ms i=none)
  |_,_, .nil=>λi=>⟨λr h=>by simp[q1c]at h;subst h;exact⟨none,rfl, .none⟩,λh=>by simp[q1c]at h⟩
  | _,_, .cons hv ht=>λi=>by
    have ih:=q4t (kind:=kind) (k:=k) ht (i+1)
    constructor
    · intro r h
      simp only[q1c]at h
      simp only[Instr.findNow]
      split at h
      · rename_i e;cases h;rw[e];exact⟨_,rfl, .some hv⟩
      · rename_i e;rw[e];exact ih.1 r h
      · cases h
    · intro h
      simp only[q1c]at h
      simp only[Instr.findNow]
      split at h
      · cases h
      · rename_i e;rw[e];exact ih.2 h
      · rename_i e;rw[e]
def q4s{P:Program} {I:In} {kt:TypeId} {k:Value}:∀{es:List q6g} {ms:List MapEntry},MR I es ms->∀i r,q35 P kt k es i=some r->∃r',(∀w,(Instr.findAsking kt k ms i).run P w= .ok r' w)/\FR I r r'
  |_,_, .nil=>λi r h=>by simp[q35]at h;subst h;exact⟨none,λw=>rfl, .none⟩
  | _,_, .cons hv ht=>λi r h=>by
    simp only[q35]at h
    split at h
    · rename_i e;cases h
      exact⟨_,λw=>by simp[Instr.findAsking,q0v P _ _ e w,Result.andThen], .some hv⟩
    · rename_i e
      obtain⟨r',h1,h2⟩:=q4s ht (i+1) r h
      exact⟨r',λw=>by simp[Instr.findAsking,q0v P _ _ e w,Result.andThen,h1 w],h2⟩
    · cases h
def qcc(P:Program) (kt:TypeId) (k:Value) (es:List q6g):Option (Option (Nat×AV)):=
  match P.underlying kt with
  | some d=>match q1c d k es 0 with
    |some r=>some r
    |none=>q35 P kt k es 0
  |none=>none
variable {I:In}
def q2f{P:Program} {kt:TypeId} {k:Value} {es:List q6g} {ms:List MapEntry} (hm:MR I es ms) {r} (h:qcc P kt k es=some r):∃r',(∀w,(Instr.findKey kt k ms).run P w= .ok r' w)/\FR I r r':=by
 unfold qcc at h
 split at h
 ·rename_i d hd
  have key:=q4t (kind:=d) (k:=k) hm 0
  split at h
  ·rename_i q hq
   cases h
   obtain⟨r',h1,h2⟩:=key.1 _ hq
   exact⟨r',λw=>by simp[Instr.findKey,run_underlying hd,Result.andThen,h1],h2⟩
  ·rename_i hq
   have h0:=key.2 hq
   obtain⟨r',h1,h2⟩:=q4s hm 0 r h
   exact⟨r',λw=>by simp[Instr.findKey,run_underlying hd,Result.andThen,h0,h1 w],h2⟩
 ·cases h
def qgo(h:T AO) (id:Nat):Option (List q6g×Nat):=
 match h.get id with
 |some (.map es c)=>some (es,c)
 |_=>none
variable {F:Bool->Nat->Prop} {h:T AO} {w:World}
def q4h{P:Program} (hs:Sim F I h w) {id b:Nat} {t:Nat×Nat} {es:List q6g} {c:Nat} (e:qgo h id=some (es,c)) (hi:I id=some (b,t)):
  ∃ms,MR I es ms/\w.heap[b]? =some (.map ⟨ms⟩ c)/\(getObj b).run P w= .ok (.map ⟨ms⟩ c) w/\h.get id=some (.map es c):=by
 unfold qgo at e
 split at e
 ·rename_i es' c' hg
  cases e
  obtain⟨ob,hb,ho⟩:=hs.obj _ _ _ _ hg hi
  cases ho with
  | @map _ ms _ hm=>exact⟨ms,hm,hb,by simp[getObj,Sem.run,hb],hg⟩
 ·cases e
def MR.len{es ms} (h:MR I es ms):es.length=ms.length:=by
 induction h with
 |nil=>rfl
 |cons _ _ ih=>simp[ih]
def qgk(h:T AO) (x:AV):Option (List q6g):=
  match x with
  | .nmap=>some []
  | .map id=>match qgo h id with
    |some (es,_)=>some es
    |none=>none
  |_=>none
def q8h (P:Program) (h:T AO) (t:TypeId) (x k:AV) (ok:Bool):Option AV:=
  match P.underlying t with
  | some (.map kt et)=>
    match qgk h x,qc5 k with
    | some es,some kv=>
      match q2j P (Instr.checkKey es.isEmpty 10000 kt kv)with
      | some ()=>match qcc P kt kv es with
        |some (some (_,a))=>some (if ok then .tup [a, .bool true]else a)
        | some none=>match P.info? et with
          | some i=>match i.zero with
            | some z=>match q0s z with
              |some a=>some (if ok then .tup [a, .bool false]else a)
              |none=>none
            |none=>none
          |none=>none
        |none=>none
      |none=>none
    |_,_=>none
  |_=>none
def q8w(kt et:TypeId) (ok:Bool) (key:Value) (ms:Array MapEntry):Sem Value:=do
 Instr.checkKey ms.isEmpty 10000 kt key
 let (v,ok') ←match ←Instr.findKey kt key ms.toList with
  |some (_,v)=>pure (v,true)
  |none=>pure (←zeroValue et,false)
 pure (if ok then .tuple #[v, .bool ok']else v)
def qe8{P:Program} (hs:Sim F I h w) {t kt et:TypeId} (ht:P.underlying t=some (.map kt et)) {x:AV} {u key:Value} {ok:Bool} {es:List q6g} (e:qgk h x=some es) (hx:VR I x u):
    ∃ms,MR I es ms/\(Instr.lookup t u key ok).run P w=(q8w kt et ok key ⟨ms⟩).run P w:=by
  unfold qgk at e
  split at e
  · cases e;cases hx
    refine⟨[], .nil,?_⟩
    unfold Instr.lookup q8w
    simp[run_underlying ht,Result.andThen]
    rfl
  · split at e
    · rename_i es' c hm
      cases e
      cases hx with
      | map hI=>
        obtain⟨ms,h1,h2,h3,h4⟩:=q4h (P:=P) hs hm hI
        refine⟨ms,h1,?_⟩
        unfold Instr.lookup q8w
        simp[run_underlying ht,Result.andThen,h3]
        rfl
    · cases e
  · cases e
def qa4 {P:Program} (hs:Sim F I h w) {t:TypeId} {x k r:AV} {ok:Bool} {u v:Value} (e:q8h P h t x k ok=some r) (hx:VR I x u) (hk:VR I k v):
    ∃z,(Instr.lookup t u v ok).run P w= .ok z w/\VR I r z:=by
  unfold q8h at e
  split at e
  · rename_i kt et ht
    split at e
    · rename_i es kv hes hkv
      have hv:=q4o hkv hk
      subst hv
      split at e
      · rename_i hck
        have hck':=q0v P _ _ hck w
        obtain⟨ms,hm,hrun⟩:=qe8 (P:=P) (ok:=ok) (key:=v) hs ht hes hx
        have hemp:es.isEmpty=ms.isEmpty:=by
          cases hm<;>rfl
        rw[hemp]at hck'
        rw[hrun]
        split at e
        · rename_i i a hf
          obtain⟨r',h1,h2⟩:=q2f hm hf
          cases h2 with
          | some hva=>
            cases ok
            · cases e;exact⟨_,by simp[q8w,hck',h1 w,Result.andThen],hva⟩
            · cases e;exact⟨_,by simp[q8w,hck',h1 w,Result.andThen], .tup (.cons hva (.cons (.bool _) .nil))⟩
        · rename_i hf
          obtain⟨r',h1,h2⟩:=q2f hm hf
          cases h2
          split at e
          · rename_i i hi
            split at e
            · rename_i z hz
              split at e
              · rename_i a ha
                have hzr:(zeroValue et).run P w= .ok z w:=by simp[zeroValue,typeInfo,program,Sem.run,hi,bind,Sem.bind,pure,hz]
                have hza:=q2a I _ _ ha
                cases ok
                · cases e;exact⟨_,by simp[q8w,hck',h1 w,Result.andThen,hzr],hza⟩
                · cases e;exact⟨_,by simp[q8w,hck',h1 w,Result.andThen,hzr], .tup (.cons hza (.cons (.bool _) .nil))⟩
              · cases e
            · cases e
          · cases e
        · cases e
      · cases e
    · cases e
  · cases e
def qgs (P:Program) (h:T AO) (s d:TypeId) (x:AV):Option AV:=
  match x with
  | .ptr id off=>match h.get id with
    | some (.cells e _ false l)=>match P.underlying s,P.underlying d with
      | some (.pointer t),some .unsafePointer=>match P.info? t with
        |some j=>if j.size=0 then none else if off<l.length then some (.ptr id off)else none
        |none=>none
      | some .unsafePointer,some (.pointer u)=>match P.info? u with
        | some _=>match liesAt P P.depth e (l.length / P.cellsOf e) off u 1 with
          |true=>some (.ptr id off)
          |false=>none
        |none=>none
      |_,_=>none
    |_=>none
  |_=>none
variable {F:Bool->Nat->Prop} {I:In} {h:T AO} {w:World}
def qe9 {P : Program} (hs:Sim F I h w) {s d:TypeId} {x r:AV} {u:Value} (e:qgs P h s d x=some r) (hx:VR I x u):
    ∃v,(convert s d u).run P w= .ok v w/\VR I r v:=by
  unfold qgs at e
  split at e
  · rename_i id off
    split at e
    · rename_i el fz l hg
      cases hx with
      | @ptr _ _ b s0 t0 hI=>
        obtain⟨ob,hb,ho⟩:=hs.obj _ _ _ _ hg hI
        cases ho with
        | @cells _ _ _ _ _ pre vs rest fr hv hg' hp ht hf hE=>
          obtain⟨rfl,rfl⟩:=hg' rfl
          rcases hE with hE|⟨_,hE⟩
          case inr=>cases hE
          have hE:=hE.symm
          subst hE
          have h0:s0=0:=by simpa using hp.symm
          subst h0
          have hsh:w.shape? b=some (el,l.length):=by
            simp[World.shape?,hb,hv.len]
          split at e
          · rename_i t hs1 hd1
            split at e
            · rename_i j hj
              split at e
              · cases e
              · rename_i hjs
                split at e
                · rename_i hlt
                  cases e
                  exact⟨_,Lib.run_to_unsafe (P:=P) w (⟨b,0+off,none⟩:Addr) hs1 hd1 hj hjs hsh (by simpa using hlt), .ptr hI⟩
                · cases e
            · cases e
          · rename_i t hs1 hd1
            split at e
            · rename_i j hj
              split at e
              · rename_i hl
                cases e
                exact⟨_,Lib.run_from_unsafe (P:=P) w (⟨b,0+off,none⟩:Addr) hs1 hd1 hj hsh (by simpa using hl), .ptr hI⟩
              · cases e
            · cases e
          · cases e
    · cases e
  · cases e
def rop (P:Program) (t:T AV) (h:T AO) (o:Oper):Option AV:=
  match o.op with
  | .load ty x=>match ev t x with
    |some (.ptr id off)=>qbk P h ty id off
    |_=>none
  | .convert s d x=>match ev t x with
    | some a=>match qb9 P h s d a with
      |some r=>some r
      |none=>qgs P h s d a
    |none=>none
  | .lookup ty x k ok=>match ev t x,ev t k with
    |some a,some b=>q8h P h ty a b ok
    |_,_=>none
  | .call c=>match c.callee with
    | .builtin .len=>match evs t c.args.toList,c.argTypes.toList with
      | some [.map id],ty::_=>match P.underlying ty with
        | some (.map ..)=>match qgo h id with
          |some (es,_)=>some (.int .i64 (.ofNat es.length))
          |none=>none
        |_=>none
      |_,_=>none
    |_=>none
  |_=>none
variable {t:T AV} {o:Oper}
def qga {P :Program} {a:Act} {r:AV} (e:rop P t h o=some r) (ht:TR I t a.tmps) (hs:Sim F I h w):
    ∃v,(execOp a.eval o).run P w= .ok (.value v) w/\VR I r v:=by
  obtain⟨dst,op,ty,pos,after,guard⟩:=o
  have lift:∀{s:Sem Value} {v:Value},s.run P w= .ok v w->(do pure (.value (←s)):Sem Next).run P w= .ok (.value v) w:=λhs=>by simp[hs,Result.andThen]
  cases op with
  | load lt x=>
    simp only[rop]at e
    split at e
    · rename_i id off hx
      have h1:=q00 ht hx
      generalize hv:a.eval x=v at h1
      cases h1 with
      | ptr hI=>
        obtain⟨z,g1,g2⟩:=q6o hs e hI
        refine⟨z,?_,g2⟩
        simp only[execOp,Instr.loadAt,hv]
        exact lift (by simp[Instr.sureAddr,g1,Result.andThen])
    · cases e
  | convert s d x=>
    simp only[rop]at e
    split at e
    · rename_i hx
      split at e
      · rename_i r' hb
        cases e
        obtain⟨z,g1,g2⟩:=qba hs hb (q00 ht hx)
        exact⟨z,lift g1,g2⟩
      · obtain⟨z,g1,g2⟩:=qe9 hs e (q00 ht hx)
        exact⟨z,lift g1,g2⟩
    · cases e
  | lookup lt x k ok=>
    simp only[rop]at e
    split at e
    · rename_i hx hk
      obtain⟨z,g1,g2⟩:=qa4 hs e (q00 ht hx) (q00 ht hk)
      exact⟨z,lift g1,g2⟩
    · cases e
  | call c=>
    simp only[rop]at e
    split at e
    · rename_i hb
      split at e
      · rename_i id t0 tr hargs hts
        split at e
        · rename_i kt et hu
          split at e
          · rename_i es cl hm
            cases e
            have h1:=q0z ht hargs
            obtain⟨v,hv,hvr⟩:=qdu h1
            cases hvr with
            | @map _ bb tt hI=>
              obtain⟨ms,k1,k2,k3,k4⟩:=q4h (P:=P) hs hm hI
              refine⟨_,?_, .int _ _⟩
              have e2:c.args.map a.eval=⟨[Value.map (some bb)]⟩:=by apply Array.toList_inj.1;simpa using hv
              have e3:c.argTypes=⟨t0::tr⟩:=by apply Array.toList_inj.1;exact hts
              simp only[execOp,resolve,hb,Sem.run_bind,Sem.run_pure,Result.andThen,invoke,builtin]
              rw[e2,e3]
              simp[Builtin.len_,run_underlying hu,k3,Result.andThen,goInt,k1.len]
          · cases e
        · cases e
      · cases e
    · cases e
  |_=>simp[rop]at e
def qfk(z:List AV):Nat->List AV
 |0=>[]
 |n+1=>z++qfk z n
def aop (P:Program) (t:T AV) (nx:Nat) (o:Oper):Option (AV×AO):=
  match o.op with
  | .alloc e=>match q21 P e with
    |some z=>some (.ptr nx 0, .cells e (some 0) false z)
    |none=>none
  | .box e x=>match ev t x with
    |some a=>some (.ptr nx 0, .cells e (some 0) false (q2s a))
    |none=>none
  | .makeMap _ none=>some (.map nx, .map [] 0)
  | .makeMap ty (some x)=>match P.underlying ty,ev t x with
    |some (.map ..),some (.int _ _)=>some (.map nx, .map [] 0)
    |_,_=>none
  | .buildSlice ty n parts=>match P.underlying ty with
    | some (.slice e)=>match P.info? e with
      | some i=>if n*i.size>2 ^ 24 then none else
        match(if n*i.size=0 then some []else q21 P e),q5v t parts.toList with
        |some z,some ps=>if z.length=i.size\/n*i.size=0 then
            (match q8g (λk=>some (k*i.size,i.size)) (if n*i.size=0 then []else qfk z n) ps with
            |some l=>some (.sl nx 0 n n, .cells e (some 0) false l)
            |none=>none)else none
        |_,_=>none
      |none=>none
    |_=>none
  | .makeSlice ty x y=>match P.underlying ty,ev t x,ev t y with
    | some (.slice e),some (.int .i64 (.ofNat n)),some (.int .i64 (.ofNat c))=>match P.info? e with
      | some i=>if n<=c/\i.bytes*c<=2 ^ 47/\c<2 ^ 47 then
        (match(if c*i.size=0 then some []else q21 P e)with
        |some z=>if z.length=i.size\/c*i.size=0 then some (.sl nx 0 n c, .cells e (some 0) false (if c*i.size=0 then []else qfk z c))else none
        |none=>none)else none
      |none=>none
    |_,_,_=>none
  | .convert s d x=>match P.underlying s,P.underlying d,ev t x with
    | some .string,some (.slice e),some (.str l)=>match P.underlying e with
      |some (.int .u8)=>some (.gsl nx 0 l.length 1, .cells e (some 0) true (l.map λb=> .int .u8 (.ofNat (b % 256))))
      |_=>none
    |_,_,_=>none
  |_=>none
def q11(z:List Value):Nat->List Value
 |0=>[]
 |n+1=>z++q11 z n
def q4c{I:In} {z:List AV} {u:List Value} (h:VRs I z u):∀n,VRs I (qfk z n) (q11 u n)
 |0=> .nil
 |n+1=>VRs.append h (q4c h n)
def q7w(z:Array Value):∀n,(List.range (n*z.size)).map (λi=>z[i % z.size]!)=q11 z.toList n
  |0=>by simp[q11]
  | n + 1=>by
    rw[Nat.succ_mul,Nat.add_comm,List.range_add,List.map_append,q11]
    congr 1
    · apply List.ext_getElem?
      intro i
      rw[List.getElem?_map]
      by_cases hi:i<z.size
      · rw[List.getElem?_range hi]
        simp[Nat.mod_eq_of_lt hi,hi]
      · rw[List.getElem?_eq_none (by simpa using hi)]
        simp;omega
    · rw[←q7w z n,List.map_map]
      apply List.map_congr_left
      intro i _
      simp
def q1q(z:Array Value) (n:Nat):(Array.range (n*z.size)).map (λi=>z[i % z.size]!)=(⟨q11 z.toList n⟩:Array Value):=by
 apply Array.toList_inj.1
 rw[Array.toList_map,Array.toList_range,q7w]
def qb5(P:Program) (I:In) (s:Sem Next) (nx:Nat) (v:AV) (ob:AO):Prop:=
 ∀w,∃z obj tot w',s.run P w= .ok (.value z) w'/\w'.heap=w.heap.push obj/\Same w w'/\∀I':In,I.le I'->I' nx=some (w.heap.size,tot)->VR I' v z/\OR I' tot ob obj
variable {nx:Nat}
def q36{P:Program} {e:TypeId} {l:List AV} {vs:List Value} (h:VRs I l vs) {s:Sem Value} {v:AV} {f:Addr->Value} (hs:∀w,s.run P w= .ok (f ⟨w.heap.size,0,none⟩) (w.alloc (.cells ⟨vs⟩ e)))
  (hv:∀(I':In) b,I' nx=some (b,0,vs.length)->VR I' v (f ⟨b,0,none⟩)):qb5 P I (do pure (.value (←s))) nx v (.cells e (some 0) false l):=λw=>by
 refine⟨_, .cells ⟨vs⟩ e,(0,vs.length),w.alloc (.cells ⟨vs⟩ e),by simp[hs w,Result.andThen],rfl,⟨rfl,rfl,rfl⟩,λI' hl hI=>⟨hv I' _ hI,?_⟩⟩
 have:=OR.cells (I:=I') (t:=(0,vs.length)) (elem:=e) (fz:=some 0) (g:=false) (l:=l) (pre:=[]) (vs:=vs) (rest:=[]) (fr:=(0,0)) (VRs.mono hl h) (λ_=>⟨rfl,rfl⟩) rfl (by simp) (λ_ _ o _ _=>by simp) (.inl rfl)
 simpa using this
def grownCap_ge(w:World) (n m:Nat) (e:TypeId):n<=grownCap w n m e:=by
 unfold grownCap Question.cut
 exact Nat.le_add_right _ _
def q4m(I:In):∀l:List Nat,VRs I (l.map λb=>AV.int .u8 (.ofNat (b % 256))) (l.map λb=>Value.int .u8 ((UInt8.ofNat b).toNat:Int))
 | []=> .nil
 | b ::l=> .cons (by
   show VR I (.int .u8 (.ofNat (b % 256))) (.int .u8 ((UInt8.ofNat b).toNat:Int))
   rw[UInt8.toNat_ofNat'];exact .int _ _) (q4m I l)
def q27(w:World) (e:TypeId) (s:ByteArray):(Lib.bytesWorld w e s).heap=w.heap.push (.cells (Lib.bytesCells w e s) e ((Lib.bytesCells w e s).size,(Lib.bytesCells w e s).size+1)):=by
 apply Array.ext_getElem?
 intro i
 rw[Array.getElem?_push]
 by_cases h:i=w.heap.size
 ·subst h;rw[if_pos rfl,Lib.bytesWorld_at_new]
 ·rw[if_neg h]
  by_cases h2:i<w.heap.size
  ·exact Lib.bytesWorld_at_old w e s i h2
  ·rw[Array.getElem?_eq_none (by rw[Lib.bytesWorld_size];omega),Array.getElem?_eq_none (by omega)]
def qfo {P : Program} {a:Act} {v:AV} {ob:AO} (e:aop P t nx o=some (v,ob)) (ht:TR I t a.tmps):qb5 P I (execOp a.eval o) nx v ob:=by
  obtain⟨dst,op,ty,pos,after,guard⟩:=o
  cases op with
  | alloc el=>
    simp only[aop]at e
    split at e
    · rename_i z hz
      cases e
      obtain⟨zv,h1,h2⟩:=q1p hz I
      exact q36 (f:=λad=> .pointer (some ad)) h2 (λw=>by simp[Instr.alloc,h1 w,Result.andThen,newVar,newRow,newObj,Sem.run]) (λI' b hI=> .ptr' hI rfl)
    · cases e
  | box el x=>
    simp only[aop]at e
    split at e
    · rename_i z hz
      cases e
      exact q36 (f:=λad=> .pointer (some ad)) (q32 (q00 ht hz)) (λw=>by simp[Instr.box,Result.andThen,newVar,newRow,newObj,Sem.run]) (λI' b hI=> .ptr' hI rfl)
    · cases e
  | makeMap mt r=>
    cases r with
    | none=>
      simp only[aop]at e
      cases e
      intro w
      refine⟨.map (some w.heap.size), .map #[] 0,(0,0),w.alloc (.map #[] 0),by simp[execOp,Instr.makeMap,newObj,Sem.run,Result.andThen],rfl,⟨rfl,rfl,rfl⟩,λI' hl hI=>⟨.map hI, .map .nil⟩⟩
    | some x=>
      simp only[aop]at e
      split at e
      · rename_i kt et k n hu hx
        cases e
        have h1:=q00 ht hx
        generalize hv:a.eval x=xv at h1
        cases h1
        intro w
        refine⟨.map (some w.heap.size), .map #[] 0,(0,0),w.alloc (.map #[] 0),by simp[execOp,Instr.makeMap,newObj,Sem.run,Result.andThen,hv,run_underlying hu,asInt,asIntOf],rfl,⟨rfl,rfl,rfl⟩,λI' hl hI=>⟨.map hI, .map .nil⟩⟩
      · cases e
  | buildSlice st n parts=>
    simp only[aop]at e
    split at e
    · rename_i el hu
      split at e
      · rename_i i hi
        split at e
        · cases e
        · rename_i hbig
          split at e
          · rename_i z ps hz hps
            split at e
            · rename_i hzl
              split at e
              · rename_i l hl
                cases e
                have hpr:=q4j ht hps
                have key:∀(zs:List Value) (m:Array Value),VRs I (if n*i.size=0 then []else qfk z n) zs->(n*i.size=0/\m= #[]\/¬n*i.size=0/\∃zv,(∀w,(zeroValue el).run P w= .ok zv w)/\m=zv.cells)->((Array.range (n*i.size)).map (λk=>m[k % m.size]!))=⟨zs⟩->qb5 P I (do pure (.value (←Instr.buildSlice st n (parts.map λ(i,x)=>(i,a.eval x))))) nx (.sl nx 0 n n) (.cells el (some 0) false l):=λzs m hr hrun hrow=>by
                  obtain⟨us,h3,h4⟩:=q3y (λk=>some (k*i.size,i.size)) hpr _ _ _ hr hl
                  refine q36 (f:=λad=> .slice (some ad) n n) h4 (λw=> ?_) (λI' b hI=> .sl' hI rfl)
                  have h5:Instr.fill (λi_1=>some (i_1*i.size,i.size)) ⟨zs⟩ (parts.map λ(i,x)=>(i,a.eval x)).toList=some ⟨us⟩:=by simpa using h3
                  simp only[Instr.buildSlice,Sem.run_bind,run_underlying hu,Result.andThen,run_sizeOf hi,if_neg hbig]
                  rcases hrun with⟨g0,rfl⟩|⟨g0,zv,g1,rfl⟩
                  · simp only[if_pos g0,Sem.run_bind,Sem.run_pure,Result.andThen,hrow]
                    rw[h5]
                    simp[newRow,newObj,Sem.run,Result.andThen]
                  · simp only[if_neg g0,Sem.run_bind,Sem.run_pure,Result.andThen,g1 w,hrow]
                    rw[h5]
                    simp[newRow,newObj,Sem.run,Result.andThen]
                by_cases hn:n*i.size=0
                · refine key [] #[] (by rw[if_pos hn];exact .nil) (.inl ⟨hn,rfl⟩) (by rw[hn];simp)
                · rw[if_neg hn]at hz
                  obtain⟨zv,h1,h2⟩:=q1p hz I
                  have hsz:zv.cells.size=i.size:=by
                    rw[←Array.length_toList,←h2.len]
                    rcases hzl with h|h
                    · exact h
                    · exact absurd h hn
                  refine key (q11 zv.cells.toList n) zv.cells (by rw[if_neg hn];exact q4c h2 n) (.inr ⟨hn,zv,h1,rfl⟩) (by rw[←hsz];exact q1q zv.cells n)
              · cases e
            · cases e
          · cases e
      · cases e
    · cases e
  | makeSlice st x y=>
    simp only[aop]at e
    split at e
    · rename_i el n c hu hx hy
      split at e
      · rename_i i hi
        split at e
        · rename_i hb
          obtain⟨hnc,hbc,hc⟩:=hb
          split at e
          · rename_i z hz
            split at e
            · rename_i hzl
              cases e
              have hx1:=q00 ht hx
              generalize hxv:a.eval x=xv at hx1
              have hy1:=q00 ht hy
              generalize hyv:a.eval y=yv at hy1
              cases hx1
              cases hy1
              have wn:IntKind.i64.wrap (Int.ofNat n)=n:=by simp[IntKind.wrap,IntKind.bits,IntKind.signed];omega
              have wc:IntKind.i64.wrap (Int.ofNat c)=c:=by simp[IntKind.wrap,IntKind.bits,IntKind.signed];omega
              have key:∀(zs:List Value) (m:Array Value),VRs I (if c*i.size=0 then []else qfk z c) zs->(c*i.size=0/\m= #[]\/¬c*i.size=0/\∃zv,(∀w,(zeroValue el).run P w= .ok zv w)/\m=zv.cells)->((Array.range (c*i.size)).map (λk=>m[k % m.size]!))=⟨zs⟩->qb5 P I (do pure (.value (←Instr.makeSlice st (.int .i64 (.ofNat n)) (.int .i64 (.ofNat c))))) nx (.sl nx 0 n c) (.cells el (some 0) false (if c*i.size=0 then []else qfk z c)):=λzs m hr hrun hrow=>by
                refine q36 (f:=λad=> .slice (some ad) n c) hr (λw=> ?_) (λI' b hI=> .sl' hI rfl)
                have hti:(typeInfo el).run P w= .ok i w:=by simp[typeInfo,program,Sem.run,hi,bind,Sem.bind,pure]
                have b1:((i.bytes*c:Nat):Int)<=2 ^ 47:=by exact_mod_cast hbc
                have b2:((i.bytes:Int)*(c:Int))<=2 ^ 47:=by rw[←Int.natCast_mul];exact b1
                have t1:((decide ((c:Int)<0))||decide ((i.bytes:Int)*(c:Int)>2 ^ 48))=false:=by
                  simp only[Bool.or_eq_false_iff,decide_eq_false_iff_not]
                  omega
                have t2:¬(c*i.bytes>roomBytes):=Nat.not_lt.2 (by rw[Nat.mul_comm];exact hbc)
                simp only[Instr.makeSlice,asInt,asIntOf,Sem.run_bind,run_underlying hu,Sem.run_pure,Result.andThen,hti,wn,wc]
                have t0:(decide ((c:Int)<0)||decide ((i.bytes:Int)*(c:Int)>2 ^ 48)||decide ((n:Int)<0)||decide ((n:Int)>(c:Int)))=false:=by
                  rw[t1]
                  simp only[Bool.false_or,Bool.or_eq_false_iff,decide_eq_false_iff_not]
                  exact⟨by omega,by omega⟩
                rw[t0]
                simp only[Bool.false_eq_true,if_false,Sem.run_bind,askRoom,Int.toNat_natCast,if_neg t2,Sem.run_pure,Result.andThen,run_sizeOf hi]
                rcases hrun with⟨g0,rfl⟩|⟨g0,zv,g1,rfl⟩
                · simp only[if_pos g0,Sem.run_bind,Sem.run_pure,Result.andThen,hrow]
                  simp[newRow,newObj,Sem.run,Result.andThen]
                · simp only[if_neg g0,Sem.run_bind,Sem.run_pure,Result.andThen,g1 w,hrow]
                  simp[newRow,newObj,Sem.run,Result.andThen]
              simp only[execOp,hxv,hyv]
              by_cases hn:c*i.size=0
              · refine key [] #[] (by rw[if_pos hn];exact .nil) (.inl ⟨hn,rfl⟩) (by rw[hn];simp)
              · rw[if_neg hn]at hz
                obtain⟨zv,h1,h2⟩:=q1p hz I
                have hsz:zv.cells.size=i.size:=by
                  rw[←Array.length_toList,←h2.len]
                  rcases hzl with h|h
                  · exact h
                  · exact absurd h hn
                refine key (q11 zv.cells.toList c) zv.cells (by rw[if_neg hn];exact q4c h2 c) (.inr ⟨hn,zv,h1,rfl⟩) (by rw[←hsz];exact q1q zv.cells c)
            · cases e
          · cases e
        · cases e
      · cases e
    · cases e
  | convert s d x=>
    simp only[aop]at e
    split at e
    · rename_i el l hs hd hx
      split at e
      · rename_i he
        cases e
        have hx1:=q00 ht hx
        generalize hxv:a.eval x=xv at hx1
        cases hx1
        simp only[execOp,hxv]
        intro w
        have hrun:=Lib.run_convert_string_bytes (P:=P) w s d el (mkS l) hs hd he
        rw[q0l]at hrun
        have hheap:=q27 w el (mkS l)
        refine⟨_,_,(0,(Lib.bytesCells w el (mkS l)).size),_,by simp[hrun,Result.andThen];rfl,hheap,⟨rfl,rfl,rfl⟩,λI' hl hI=>⟨.gsl hI ?_ ?_ (.inl rfl),?_⟩⟩
        · exact grownCap_ge w l.length 0 el
        · have:(Lib.bytesCells w el (mkS l)).size=l.length+(grownCap w l.length 0 el- l.length):=by
            simp only[Lib.bytesCells,q0l]
            simp[mkS]
          have:=grownCap_ge w l.length 0 el
          omega
        · have hr:=q4m I' l
          have hc:Lib.bytesCells w el (mkS l)=⟨(l.map λb=>Value.int .u8 ((UInt8.ofNat b).toNat:Int))++List.replicate (grownCap w l.length 0 el- l.length) (.int .u8 0)⟩:=by
            apply Array.toList_inj.1
            simp only[Lib.bytesCells,q0l]
            simp[mkS]
          rw[hc]
          exact .cells (pre:=[]) hr (λh=>by cases h) rfl rfl (λ_ _ o h1 h2=>by simp at h2⊢;omega) (.inl rfl)
      · cases e
    · cases e
  |_=>simp[aop]at e
end
end Go.Proofs.Ytniogjgfomaicaa.Eng
