/-
  The machine with unknown values: questions reckoned out of the code. No condition but what its theorems ask.
-/
import Derived.Calls
import Derived.Orders
import Derived.LoopN
import Derived.Laws.Sem
import Derived.Laws.World
import Derived.Below
import Derived.Laws.IdiomCopy
import Derived.Laws.Entries
import Derived.Laws.Strings
import Derived.Lib.SlBytesRow
import Derived.Lib.ConvBytes
import Derived.Lib.Builder
namespace Go.Proofs.YtniogjgfomaicaaGreat.Eng
open Go.RowKit
set_option linter.defProp false
set_option linter.unusedVariables false
set_option linter.unusedSimpArgs false
noncomputable section
abbrev IW:=Program
abbrev IV:=ByteArray
inductive T(α:Type)where
 |e:T α
 |n:T α->Option α->T α->T α
namespace T
variable {α:Type}
def getS:T α->Nat->Option α
  | .e,_=>none
  | .n l v r,k=>match k with
    |0=>v
    | k+1=>match Nat.beq (Nat.mod k 2) 0 with
      |true=>l.getS (Nat.div k 2)
      |false=>r.getS (Nat.div k 2)
def qO:Nat->Nat->Option α->T α->Option (T α)
  |0,_,_,_=>none
  | f + 1,k,x,t=>match k with
    | 0=>match t with
      | .e=>some (.n .e x .e)
      | .n l _ r=>some (.n l x r)
    | k +1=>match t with
      | .e=>match Nat.beq (Nat.mod k 2) 0 with
        |true=>match qO f (Nat.div k 2) x .e with|some u=>some (.n u none .e)|none=>none
        |false=>match qO f (Nat.div k 2) x .e with|some u=>some (.n .e none u)|none=>none
      | .n l v r=>match Nat.beq (Nat.mod k 2) 0 with
        |true=>match qO f (Nat.div k 2) x l with|some u=>some (.n u v r)|none=>none
        |false=>match qO f (Nat.div k 2) x r with|some u=>some (.n l v u)|none=>none
def parity(k:Nat):(Nat.beq (Nat.mod k 2) 0=true->k % 2=0)/\(Nat.beq (Nat.mod k 2) 0=false->k % 2=1):=by
 constructor
 ·intro h;exact Nat.eq_of_beq_eq_true h
 ·intro h;have:=Nat.ne_of_beq_eq_false h;have h2:k % 2≠0:=this;omega
def div2(k:Nat):Nat.div k 2=k / 2:=rfl
def qcz:∀(f k:Nat) (x:Option α) (t u:T α),qO f k x t=some u->∀j,u.getS j=if j=k then x else t.getS j:=by
  intro f;induction f with
  |zero=>intro k x t u h;cases h
  | succ f ih =>
    intro k x t u h j;cases k with
    | zero=>
      cases t with
      | e=>
        simp[qO]at h;subst h;cases j with
        |zero=>simp[getS]
        |succ j=>simp only[getS];split<;>simp
      |n l v r=>simp[qO]at h;subst h;cases j<;>simp[getS]
    | succ k=>
      have step:∀(l r:T α) (v:Option α) (p:T α),(Nat.beq (Nat.mod k 2) 0=true->qO f (Nat.div k 2) x l=some p->u= .n p v r->u.getS j=if j=k+1 then x else(T.n l v r).getS j)/\(Nat.beq (Nat.mod k 2) 0=false->qO f (Nat.div k 2) x r=some p->u= .n l v p->u.getS j=if j=k+1 then x else(T.n l v r).getS j):=by
        intro l r v p;constructor
        · intro hb hp hu;subst hu;have hk:=(parity k).1 hb;cases j with
          |zero=>simp[getS]
          | succ j=>
            simp only[getS];cases hj:Nat.beq (Nat.mod j 2) 0 with
            | true=>
              have hj2:=(parity j).1 hj;simp only[ih _ _ _ _ hp,div2];by_cases e:j=k
              · subst e;simp
              · rw[if_neg (by omega),if_neg (by omega)]
            | false=>
              have hj2:=(parity j).2 hj;simp only;rw[if_neg (by omega)]
        · intro hb hp hu;subst hu;have hk:=(parity k).2 hb;cases j with
          |zero=>simp[getS]
          | succ j=>
            simp only[getS];cases hj:Nat.beq (Nat.mod j 2) 0 with
            | true=>
              have hj2:=(parity j).1 hj;simp only;rw[if_neg (by omega)]
            | false=>
              have hj2:=(parity j).2 hj;simp only[ih _ _ _ _ hp,div2];by_cases e:j=k
              · subst e;simp
              · rw[if_neg (by omega),if_neg (by omega)]
      cases t with
      | e =>
        simp only[qO]at h;have e0:∀i,(T.e:T α).getS i=(T.n T.e none T.e:T α).getS i:=λi=>by
          cases i with
          |zero=>simp[getS]
          |succ i=>simp only[getS];split<;>rfl
        rw[e0 j];split at h
        · rename_i hb;split at h
          · rename_i p hp;cases h;exact(step .e .e none p).1 hb hp rfl
          · cases h
        · rename_i hb;split at h
          · rename_i p hp;cases h;exact(step .e .e none p).2 hb hp rfl
          · cases h
      | n l v r=>
        simp only[qO]at h;split at h
        · rename_i hb;split at h
          · rename_i p hp;cases h;exact(step l r v p).1 hb hp rfl
          · cases h
        · rename_i hb;split at h
          · rename_i p hp;cases h;exact(step l r v p).2 hb hp rfl
          · cases h
def get(t:T α):Nat->Option α:=
 T.rec (motive:=λ_=>Nat->Option α) (λ_=>none)
  (λ_ v _ gl gr k=>Nat.rec (motive:=λ_=>Option α) v (λk _=>Bool.rec (motive:=λ_=>Option α) (gr (Nat.div k 2)) (gl (Nat.div k 2)) (Nat.beq (Nat.mod k 2) 0)) k) t
def kV(x:Option α) (t:T α):Nat->Option (T α):=
 T.rec (motive:=λ_=>Nat->Option (T α)) (λk=>qO 64 k x .e)
  (λl v r pl pr k=>Nat.rec (motive:=λ_=>Option (T α)) (some (.n l x r)) (λk _=>Bool.rec (motive:=λ_=>Option (T α))
   (Option.rec (motive:=λ_=>Option (T α)) none (λu=>some (.n l v u)) (pr (Nat.div k 2)))
   (Option.rec (motive:=λ_=>Option (T α)) none (λu=>some (.n u v r)) (pl (Nat.div k 2)))
   (Nat.beq (Nat.mod k 2) 0)) k) t
def put(f k:Nat) (x:Option α) (t:T α):Option (T α):=kV x t k
def Z'(l r:T α) (v:Option α) (k:Nat):(T.n l v r).get (k+1)=match Nat.beq (Nat.mod k 2) 0 with
   |true=>l.get (Nat.div k 2)
   |false=>r.get (Nat.div k 2):=by show Bool.rec (motive:=λ_=>Option α) (r.get (Nat.div k 2)) (l.get (Nat.div k 2)) (Nat.beq (Nat.mod k 2) 0)=_;cases Nat.beq (Nat.mod k 2) 0<;>rfl
def get_eq:∀(t:T α) (k:Nat),t.get k=t.getS k
  | .e,k=>rfl
  | .n l v r,0=>rfl
  | .n l v r,k+1=>by rw[Z'];simp only[getS];split<;>exact get_eq _ _
def qhu(x:Option α) (l r:T α) (v:Option α) (k:Nat):kV x (T.n l v r) (k+1)=match Nat.beq (Nat.mod k 2) 0 with
   |true=>match kV x l (Nat.div k 2)with|some u=>some (.n u v r)|none=>none
   |false=>match kV x r (Nat.div k 2)with|some u=>some (.n l v u)|none=>none:=by
 show Bool.rec (motive:=λ_=>Option (T α))
   (Option.rec (motive:=λ_=>Option (T α)) none (λu=>some (.n l v u)) (kV x r (Nat.div k 2)))
   (Option.rec (motive:=λ_=>Option (T α)) none (λu=>some (.n u v r)) (kV x l (Nat.div k 2)))
   (Nat.beq (Nat.mod k 2) 0)=_
 cases Nat.beq (Nat.mod k 2) 0
 ·cases kV x r (Nat.div k 2)<;>rfl
 ·cases kV x l (Nat.div k 2)<;>rfl
def get_e(k:Nat):(T.e:T α).get k=none:=rfl
def Af(x:Option α):∀(t:T α) (k:Nat) (u:T α),kV x t k=some u->∀j,u.get j=if j=k then x else t.get j
  | .e,k,u,h,j=>by have:=qcz 64 k x .e u h j;rw[get_eq,this];rfl
  | .n l v r,0,u,h,j=>by
    have h2:some (T.n l x r)=some u:=h;cases h2;cases j with
    |zero=>rfl
    |succ j=>rw[if_neg (by omega),Z',Z']
  | .n l v r,k+1,u,h,j=>by
    rw[qhu]at h;cases hb:Nat.beq (Nat.mod k 2) 0 with
    | true=>
      rw[hb]at h;have hk:=(parity k).1 hb;simp only at h;split at h
      · rename_i p hp;cases h;have ih:=Af x l _ p hp;cases j with
        |zero=>rw[if_neg (by omega)];rfl
        | succ j=>
          rw[Z',Z'];cases hj:Nat.beq (Nat.mod j 2) 0 with
          | true=>
            have hj2:=(parity j).1 hj;simp only[ih,div2];by_cases e:j=k
            · subst e;simp
            · rw[if_neg (by omega),if_neg (by omega)]
          | false=>
            have hj2:=(parity j).2 hj;simp only;rw[if_neg (by omega)]
      · cases h
    | false =>
      rw[hb]at h;have hk:=(parity k).2 hb;simp only at h;split at h
      · rename_i p hp;cases h;have ih:=Af x r _ p hp;cases j with
        |zero=>rw[if_neg (by omega)];rfl
        | succ j=>
          rw[Z',Z'];cases hj:Nat.beq (Nat.mod j 2) 0 with
          | true=>
            have hj2:=(parity j).1 hj;simp only;rw[if_neg (by omega)]
          | false=>
            have hj2:=(parity j).2 hj;simp only[ih,div2];by_cases e:j=k
            · subst e;simp
            · rw[if_neg (by omega),if_neg (by omega)]
      · cases h
def get_put(f k:Nat) (x:Option α) (t u:T α) (h:put f k x t=some u):∀j,u.get j=if j=k then x else t.get j:=Af x t k u h
end T
inductive AV where
 |bool (b:Bool)
 |int (k:IntKind) (n:Int)
 |str (s:List Nat)
 |nilp
 |ptr (id off:Nat)
 |nsl
 |sl (id off len cap:Nat)
 |gsl (id off len esz:Nat)
 |nmap
 |map (id:Nat)
 |fn (f:Nat) (caps:List AV)
 |nilf
 |nili
 |ifc (t:TypeId) (a:AV)
 |ifo
 |anyi (k:IntKind)
 |lin (k:IntKind) (c:Int) (l:List (Int×Nat×Int×Int))
 |bfn (f:Nat) (first caps:List AV)
 |agg (l:List AV)
 |tup (l:List AV)
 |sv (v:Value)
 |tsl (k:Nat)
 |ssl (id off len esz k:Nat)
 |msl (id len esz:Nat)
 |usl (id off len esz:Nat)
 |sptr (id off:Nat)
 |tpt (k:Nat)
 |tmap (k:Nat)
abbrev In:=Nat->Option (Nat×Nat×Nat)
def In.le(I J:In):Prop:=∀id x,I id=some x->J id=some x
def In.le_refl(I:In):I.le I:=λ_ _ h=>h
def In.le_trans{I J K:In} (h:I.le J) (g:J.le K):I.le K:=λi x e=>g i x (h i x e)
def Gf(I:In) (id:Nat):Option Int:=match I id with
 |some (b,s,_)=>some (Int.ofNat b- Int.ofNat s)
 |none=>none
def qbe{I J:In} (hl:I.le J) {id:Nat} {v:Int} (h:Gf I id=some v):Gf J id=some v:=by
 unfold Gf at h⊢;cases hI:I id with
 |none=>rw[hI]at h;cases h
 |some x=>rw[hI]at h;rw[hl _ _ hI];exact h
inductive LR(I:In):List (Int×Nat×Int×Int)->Int->Prop
 |nil:LR I [] 0
 |cons {c id lo hi v l n} (h:Gf I id=some v) (h1:lo<=v) (h2:v<=hi) (t:LR I l n):LR I ((c,id,lo,hi)::l) (c*v+n)
def LR.mono{I J:In} (hl:I.le J) {l n} (h:LR I l n):LR J l n:=by
 induction h with
 |nil=>exact .nil
 |cons h h1 h2 t ih=>exact .cons (qbe hl h) h1 h2 ih
def mkS(l:List Nat):IV:=⟨⟨l.map UInt8.ofNat⟩⟩
def xj:Nat->Nat->Nat×Nat
 |0,_=>(0,0)
 |f+1,m=>if m % 2=1 then(0,m / 2)else((xj f (m / 2)).1+1,(xj f (m / 2)).2)
def K8(c:Nat):∀(n f:Nat),n<f->xj f (2 ^ n*(2*c+1))=(n,c)
  | 0,f,h=>by obtain⟨f,rfl⟩:∃g,f=g+1:=⟨f- 1,by omega⟩;simp only[xj,Nat.pow_zero,Nat.one_mul];rw[if_pos (by omega)];congr 1;omega
  | n+1,f,h=>by obtain⟨f,rfl⟩:∃g,f=g+1:=⟨f- 1,by omega⟩;have e:2 ^ (n+1)*(2*c+1)=2*(2 ^ n*(2*c+1)):=(by rw[Nat.pow_succ,Nat.mul_comm (2 ^ n) 2,Nat.mul_assoc]);simp only[xj,e];rw[if_neg (by omega),show 2*(2 ^ n*(2*c+1)) / 2=2 ^ n*(2*c+1)by omega,K8 c n f (by omega)]
abbrev SV:=Option Addr×Nat×Nat
def zp(x:Nat×Nat×Nat):SV:=(if x.2.2 % 2=0 then none else some ⟨x.1,(xj x.2.1 x.2.1).1,if(xj x.2.1 x.2.1).2=0 then none else some ((xj x.2.1 x.2.1).2- 1)⟩,(xj (x.2.2 / 2) (x.2.2 / 2)).1,(xj (x.2.2 / 2) (x.2.2 / 2)).2)
def q9c(b o:Nat) (p:Option Nat) (n c:Nat):∃x,zp x=(some ⟨b,o,p⟩,n,c):=by
  have h:n<2 ^ n*(2*c+1):=Nat.lt_of_lt_of_le Nat.lt_two_pow_self (Nat.le_mul_of_pos_right _ (by omega));have g:∀q,o<2 ^ o*(2*q+1):=λq=>Nat.lt_of_lt_of_le Nat.lt_two_pow_self (Nat.le_mul_of_pos_right _ (by omega));cases p with
  | none=>
    refine⟨(b,2 ^ o*(2*0+1),2*(2 ^ n*(2*c+1))+1),?_⟩;unfold zp;rw[if_neg (by simp only;omega),show(2*(2 ^ n*(2*c+1))+1) / 2=2 ^ n*(2*c+1)by omega,K8 c n _ h];simp only[K8 0 o _ (g 0),if_true]
  | some p=>
    refine⟨(b,2 ^ o*(2*(p+1)+1),2*(2 ^ n*(2*c+1))+1),?_⟩;unfold zp;rw[if_neg (by simp only;omega),show(2*(2 ^ n*(2*c+1))+1) / 2=2 ^ n*(2*c+1)by omega,K8 c n _ h];simp only[K8 (p+1) o _ (g (p+1)),Nat.add_sub_cancel,if_neg (Nat.succ_ne_zero p)]
def q9b(n c:Nat):∃x,zp x=(none,n,c):=by have h:n<2 ^ n*(2*c+1):=Nat.lt_of_lt_of_le Nat.lt_two_pow_self (Nat.le_mul_of_pos_right _ (by omega));refine⟨(0,0,2*(2 ^ n*(2*c+1))),?_⟩;unfold zp;rw[if_pos (by simp only;omega),show(2*(2 ^ n*(2*c+1))) / 2=2 ^ n*(2*c+1)by omega,K8 c n _ h]
def slV(x:SV):Value:= .slice x.1 x.2.1 x.2.2
mutual
inductive VR(I:In):AV->Value->Prop
 |bool (b):VR I (.bool b) (.bool b)
 |int (k n):VR I (.int k n) (.int k n)
 |str (l):VR I (.str l) (.string (mkS l))
 |nilp:VR I .nilp (.pointer none)
 |ptr {id off b s t} (h:I id=some (b,s,t)):VR I (.ptr id off) (.pointer (some ⟨b,s+off,none⟩))
 |nsl:VR I .nsl (.slice none 0 0)
 |sl {id off len cap b s t} (h:I id=some (b,s,t)):VR I (.sl id off len cap) (.slice (some ⟨b,s+off,none⟩) len cap)
 |gsl {id off len esz b s t c o} (h:I id=some (b,s,t)) (h1:len<=c) (h2:off+c*esz<=t) (h3:o=s+off\/c=0):VR I (.gsl id off len esz) (.slice (some ⟨b,o,none⟩) len c)
 |nmap:VR I .nmap (.map none)
 |map {id b t} (h:I id=some (b,t)):VR I (.map id) (.map (some b))
 |fn {f caps vs} (h:VRs I caps vs):VR I (.fn f caps) (.func (.func f) #[] ⟨vs⟩)
 |nilf:VR I .nilf .nilFunc
 |nili:VR I .nili .nilIface
 |ifc {t a v} (h:VR I a v):VR I (.ifc t a) (.iface t v)
 |ifo {t v}:VR I .ifo (.iface t v)
 |anyi {k n}:VR I (.anyi k) (.int k n)
 |lin {k c l n} (h:LR I l n):VR I (.lin k c l) (.int k (c+n))
 |bfn {f first caps fs vs} (h1:VRs I first fs) (h:VRs I caps vs):VR I (.bfn f first caps) (.func (.func f) ⟨fs⟩ ⟨vs⟩)
 |agg {l vs} (h:VRs I l vs):VR I (.agg l) (.agg ⟨vs⟩)
 |tup {l vs} (h:VRs I l vs):VR I (.tup l) (.tuple ⟨vs⟩)
 |sv (v):VR I (.sv v) v
 |tsl {k x} (h:I k=some x):VR I (.tsl k) (slV (zp x))
 |ssl {id off len esz k b s t c o x} (h:I id=some (b,s,t)) (h1:len<=c) (h2:off+c*esz<=t) (h3:o=s+off\/c=0) (hk:I k=some x) (hx:zp x=(some ⟨b,o,none⟩,len,c)):VR I (.ssl id off len esz k) (.slice (some ⟨b,o,none⟩) len c)
 |msl {id len esz b s t} (h:I id=some (b,s,t)) (h2:len*esz<=t) (h3:0<esz):VR I (.msl id len esz) (.slice (some ⟨b,s,none⟩) len (t / esz))
 |usl {id off len esz b s t c o} (h:I id=some (b,s,t)) (h1:len<=c) (h2:off+c*esz<=t) (h3:o=s+off\/c=0):VR I (.usl id off len esz) (.slice (some ⟨b,o,none⟩) len c)
 |usl0 {id off len esz} (h:len=0):VR I (.usl id off len esz) (.slice none 0 0)
 |sptr {id off b s t} (h:I id=some (b,s,t)):VR I (.sptr id off) (.pointer (some ⟨b,s+off,none⟩))
 |tpt {k x} (h:I k=some x):VR I (.tpt k) (.pointer (zp x).1)
 |tmap {k x} (h:I k=some x):VR I (.tmap k) (.map ((zp x).1.map (·.block)))
 |ssl0 {id off len esz k x} (h:len=0) (hk:I k=some x) (hx:zp x=(none,0,0)):VR I (.ssl id off len esz k) (.slice none 0 0)
inductive VRs(I:In):List AV->List Value->Prop
 |nil:VRs I [] []
 |cons {a l v vs} (h:VR I a v) (t:VRs I l vs):VRs I (a::l) (v::vs)
end
mutual
def VR.mono{I J:In} (hl:I.le J):∀{a v},VR I a v->VR J a v
 |_,_, .bool b=> .bool b
 |_,_, .int k n=> .int k n
 |_,_, .str l=> .str l
 |_,_, .nilp=> .nilp
 |_,_, .ptr h=> .ptr (hl _ _ h)
 |_,_, .nsl=> .nsl
 |_,_, .sl h=> .sl (hl _ _ h)
 |_,_, .gsl h h1 h2 h3=> .gsl (hl _ _ h) h1 h2 h3
 |_,_, .nmap=> .nmap
 |_,_, .map h=> .map (hl _ _ h)
 |_,_, .fn h=> .fn (VRs.mono hl h)
 |_,_, .nilf=> .nilf
 |_,_, .nili=> .nili
 |_,_, .ifc h=> .ifc (VR.mono hl h)
 |_,_, .ifo=> .ifo
 |_,_, .anyi=> .anyi
 |_,_, .lin h=> .lin (h.mono hl)
 |_,_, .bfn h1 h=> .bfn (VRs.mono hl h1) (VRs.mono hl h)
 |_,_, .agg h=> .agg (VRs.mono hl h)
 |_,_, .tup h=> .tup (VRs.mono hl h)
 |_,_, .sv v=> .sv v
 |_,_, .tsl h=> .tsl (hl _ _ h)
 |_,_, .ssl h h1 h2 h3 hk hx=> .ssl (hl _ _ h) h1 h2 h3 (hl _ _ hk) hx
 |_,_, .msl h h2 h3=> .msl (hl _ _ h) h2 h3
 |_,_, .usl h h1 h2 h3=> .usl (hl _ _ h) h1 h2 h3
 |_,_, .usl0 h=> .usl0 h
 |_,_, .sptr h=> .sptr (hl _ _ h)
 |_,_, .tpt h=> .tpt (hl _ _ h)
 |_,_, .tmap h=> .tmap (hl _ _ h)
 |_,_, .ssl0 h hk hx=> .ssl0 h (hl _ _ hk) hx
def VRs.mono{I J:In} (hl:I.le J):∀{a v},VRs I a v->VRs J a v
 |_,_, .nil=> .nil
 |_,_, .cons h t=> .cons (VR.mono hl h) (VRs.mono hl t)
end
variable {I:In}
def VR.ptr'{id off b s t o:Nat} (h:I id=some (b,s,t)) (e:o=s+off):VR I (.ptr id off) (.pointer (some ⟨b,o,none⟩)):=by subst e;exact .ptr h
def VR.sl'{id off len cap b s t o:Nat} (h:I id=some (b,s,t)) (e:o=s+off):VR I (.sl id off len cap) (.slice (some ⟨b,o,none⟩) len cap):=by subst e;exact .sl h
def VRs.len{I:In}:∀{l vs},VRs I l vs->l.length=vs.length
 |_,_, .nil=>rfl
 |_,_, .cons _ t=>by simp[VRs.len t]
def VRs.get{I:In}:∀{l:List AV} {vs:List Value},VRs I l vs->∀(i:Nat) (a:AV),l[i]? =some a->∃v,vs[i]? =some v/\VR I a v
  |_,_, .nil=>λi a h=>by simp at h
  | _,_, .cons h t=>λi a e=>by
    cases i with
    |zero=>simp at e;subst e;exact⟨_,rfl,h⟩
    |succ i=>exact VRs.get t i a (by simpa using e)
def VRs.take{I:In}:∀{l vs},VRs I l vs->∀n,VRs I (l.take n) (vs.take n)
  |_,_, .nil=>λn=>by simp;exact .nil
  | _,_, .cons h t=>λn=>by
    cases n with
    |zero=>exact .nil
    |succ n=>exact .cons h (VRs.take t n)
def VRs.drop{I:In}:∀{l vs},VRs I l vs->∀n,VRs I (l.drop n) (vs.drop n)
  |_,_, .nil=>λn=>by simp;exact .nil
  | _,_, .cons h t=>λn=>by
    cases n with
    |zero=>exact .cons h t
    |succ n=>exact VRs.drop t n
def VRs.append{I:In}:∀{l vs},VRs I l vs->∀{m us},VRs I m us->VRs I (l++m) (vs++us)
 |_,_, .nil=>λh=>h
 |_,_, .cons h t=>λg=> .cons h (VRs.append t g)
def VRs.set{I:In}:∀{l vs},VRs I l vs->∀(i:Nat) {a v},VR I a v->VRs I (l.set i a) (vs.set i v)
  |_,_, .nil=>λi _ _ _=>by simp;exact .nil
  | _,_, .cons h t=>λi _ _ g=>by
    cases i with
    |zero=>exact .cons g t
    |succ i=>exact .cons h (VRs.set t i g)
def y5{α:Type} (P:IW):Sem α->Option α
 | .pure a=>some a
 | .program k=>y5 P (k P)
 | .mark _ k=>y5 P k
 |_=>none
def re{α:Type} (P:IW):∀(s:Sem α) (a:α),y5 P s=some a->∀w,s.run P w= .ok a w:=by
 intro s;induction s with
 |pure b=>intro a h w;simp[y5]at h;subst h;rfl
 |program k ih=>intro a h w;exact ih P a h w
 |mark m k ih=>intro a h w;exact ih a h w
 |_=>intro a h w;simp[y5]at h
def u9:AV->Option Value
 | .bool b=>some (.bool b)
 | .int k n=>some (.int k n)
 | .str l=>some (.string (mkS l))
 | .nilp=>some (.pointer none)
 | .nsl=>some (.slice none 0 0)
 | .nmap=>some (.map none)
 | .nilf=>some .nilFunc
 |_=>none
def Y1{a:AV} {v u:Value} (h:u9 a=some v) (r:VR I a u):u=v:=by cases r<;>simp[u9]at h<;>exact h
def rP{a:AV} {v:Value} (h:u9 a=some v):VR I a v:=by cases a<;>simp[u9]at h<;>subst h<;>constructor
mutual
def z8:Value->Option AV
 | .bool b=>some (.bool b)
 | .int k n=>some (.int k n)
 | .string s=>some (.str (s.data.toList.map UInt8.toNat))
 | .pointer none=>some .nilp
 | .slice none 0 0=>some .nsl
 | .map none=>some .nmap
 | .nilFunc=>some .nilf
 | .nilIface=>some .nili
 | .agg ⟨l⟩=>match ofVals l with|some x=>some (.agg x)|none=>none
 | .tuple ⟨l⟩=>match ofVals l with|some x=>some (.tup x)|none=>none
 |_=>none
def ofVals:List Value->Option (List AV)
  | []=>some []
  | v ::l=>match z8 v with
    | some a=>match ofVals l with
      |some x=>some (a::x)
      |none=>none
    |none=>none
end
def qhn(s:IV):mkS (s.data.toList.map UInt8.toNat)=s:=by obtain⟨⟨l⟩⟩:=s;simp only[mkS,List.map_map];congr 2;exact(List.map_congr_left λx _=>by simp).trans (List.map_id l)
mutual
def E6(I:In):∀(v:Value) (a:AV),z8 v=some a->VR I a v
  | .bool b,a,h=>by simp[z8]at h;subst h;exact .bool b
  | .int k n,a,h=>by simp[z8]at h;subst h;exact .int k n
  | .string s,a,h=>by simp only[z8,Option.some.injEq]at h;subst h;have:=VR.str (I:=I) (s.data.toList.map UInt8.toNat);rw[qhn]at this;exact this
  | .pointer none,a,h=>by simp[z8]at h;subst h;exact .nilp
  | .pointer (some x),a,h=>by simp[z8]at h
  | .slice none 0 0,a,h=>by simp[z8]at h;subst h;exact .nsl
  | .slice none 0 (n+1),a,h=>by simp[z8]at h
  | .slice none (n+1) m,a,h=>by simp[z8]at h
  | .slice (some x) n m,a,h=>by simp[z8]at h
  | .map none,a,h=>by simp[z8]at h;subst h;exact .nmap
  | .map (some x),a,h=>by simp[z8]at h
  | .nilFunc,a,h=>by simp[z8]at h;subst h;exact .nilf
  | .agg ⟨l⟩,a,h=>by
    simp only[z8]at h;split at h
    · rename_i x hx;cases h;exact .agg (ofVals_rel I l _ hx)
    · cases h
  | .tuple ⟨l⟩,a,h=>by
    simp only[z8]at h;split at h
    · rename_i x hx;cases h;exact .tup (ofVals_rel I l _ hx)
    · cases h
  | .float ..,a,h=>by simp[z8]at h
  | .complex ..,a,h=>by simp[z8]at h
  | .chan ..,a,h=>by simp[z8]at h
  | .func ..,a,h=>by simp[z8]at h
  | .iface ..,a,h=>by simp[z8]at h
  | .nilIface,a,h=>by simp[z8]at h;subst h;exact .nili
def ofVals_rel(I:In):∀(v:List Value) (a:List AV),ofVals v=some a->VRs I a v
  | [],a,h=>by simp[ofVals]at h;subst h;exact .nil
  | v ::l,a,h=>by
    simp only[ofVals]at h;split at h
    · rename_i x hx;split at h
      · rename_i y hy;cases h;exact .cons (E6 I v _ hx) (ofVals_rel I l _ hy)
      · cases h
    · cases h
end
def X0(v:Value):Option AV:=
 match v with
 | .bool b=>some (.bool b)
 | .int k n=>some (.int k n)
 | .string s=>some (.str (s.data.toList.map UInt8.toNat))
 | .nilFunc=>some .nilf
 | .nilIface=>some .nili
 |v=>z8 v
def sZ(v:Value):X0 v=z8 v:=by cases v<;>first|rfl|simp[X0,z8]
def jB:Nat:=1000000
def slot(tmps:Array Value) (n:Nat):Value:=if n<jB then tmps.getD n undef else .pointer (some ⟨n- jB,0,none⟩)
def TR(I:In) (t:T AV) (tmps:Array Value):Prop:=∀n a,t.get n=some a->VR I a (slot tmps n)
def QV{x:Array Value} {n:Nat} (h:n<jB):slot x n=x.getD n undef:=if_pos h
def TR.mono{I J:In} (hl:I.le J) {t:T AV} {x:Array Value} (h:TR I t x):TR J t x:=λn a e=>(h n a e).mono hl
def ev(t:T AV):Operand->Option AV
  | .tmp n=>match Nat.blt n jB with
    |true=>t.get n
    |false=>none
  | .const v=>X0 v
  | .global g=>t.get (jB+g)
  | .func f=>some (.fn f [])
def qj{I:In} {t:T AV} {a:Act} (h:TR I t a.tmps) {x:Operand} {v:AV} (e:ev t x=some v):VR I v (a.eval x):=by
  cases x with
  | tmp n=>
    simp only[ev]at e;split at e
    · rename_i hn;have hn:n<jB:=(by simpa[Nat.blt_eq]using hn);have:=h n v e;rw[QV hn]at this;exact this
    · cases e
  |const c=>exact E6 I c v ((sZ c).symm.trans e)
  | global g=>
    have:=h _ v e;unfold slot at this;rw[if_neg (by omega),Nat.add_sub_cancel_left]at this;exact this
  |func f=>simp[ev]at e;subst e;exact .fn .nil
inductive AO where
 |cells (elem:TypeId) (fz:Option Nat) (grown:Bool) (l:List AV)
 |map (es:List (Value×AV×Nat)) (clock:Nat)
 |row (elem:TypeId) (fz:Nat) (vs:List Value)
 |mrow (es:List MapEntry) (clock:Nat)
 |iter (m since:Nat) (seen:List Nat) (c:Nat)
inductive MR(I:In):List (Value×AV×Nat)->List MapEntry->Prop
 |nil:MR I [] []
 |cons {k a n l v ms} (h:VR I a v) (t:MR I l ms):MR I ((k,a,n)::l) (⟨k,v,n⟩::ms)
def MR.mono{I J:In} (hl:I.le J) {l ms} (h:MR I l ms):MR J l ms:=by
 induction h with
 |nil=>exact .nil
 |cons h t ih=>exact .cons (h.mono hl) ih
inductive OR(I:In) (t:Nat×Nat):AO->Obj->Prop
 |cells {elem elem' fz g l pre vs rest fr} (h:VRs I l vs) (hg:g=false->rest=[]/\pre=[]) (hp:pre.length=t.1) (ht:(vs++rest).length=t.2) (hf:∀f,fz=some f->∀o,f<=o->o<t.2->¬(fr.1<=t.1+o/\t.1+o<fr.2)) (hE:elem'=elem\/fz=none/\g=true):OR I t (.cells elem fz g l) (.cells ⟨pre++(vs++rest)⟩ elem' fr)
 |map {es ms clock} (h:MR I es ms):OR I t (.map es clock) (.map ⟨ms⟩ clock)
 |row {elem fz pre vs rest fr} (hp:pre.length=t.1) (ht:(vs++rest).length=t.2) (hf:∀o,fz<=o->o<t.2->¬(fr.1<=t.1+o/\t.1+o<fr.2)):OR I t (.row elem fz vs) (.cells ⟨pre++(vs++rest)⟩ elem fr)
 |mrow {es clock}:OR I t (.mrow es clock) (.map ⟨es⟩ clock)
 |iter {m since seen c b t'} (h:I m=some (b,t')) (hp:t.1=0):OR I t (.iter m since seen c) (.mapIter (some b) since ⟨seen⟩ c)
def AO.rw:AO->Bool
 | .cells _ none _ _=>false
 |_=>true
def OR.mono{I J:In} (hl:I.le J) {t o ob} (h:OR I t o ob):OR J t o ob:=by
 cases h with
 |cells h hg hp ht hf hE=>exact .cells (VRs.mono hl h) hg hp ht hf hE
 |map h=>exact .map (h.mono hl)
 |row hp ht hf=>exact .row hp ht hf
 |mrow=>exact .mrow
 |iter h hp=>exact .iter (hl _ _ h) hp
structure Sim(F:Bool->Nat->Prop) (I:In) (h:T AO) (w:World):Prop where
 obj:∀id o b t,h.get id=some o->I id=some (b,t)->∃ob,w.heap[b]? =some ob/\OR I t o ob
 inj:∀id id' o o' b t t',h.get id=some o->h.get id'=some o'->I id=some (b,t)->I id'=some (b,t')->id=id'
 fr:∀id o b t,h.get id=some o->I id=some (b,t)->F true b->o.rw=false/\F false b
structure Same(w w':World):Prop where
 os:w'.os=w.os
 tape:w'.tape=w.tape
 output:w'.output=w.output
def Same.refl(w:World):Same w w:=⟨rfl,rfl,rfl⟩
def Same.trans{a b c:World} (h:Same a b) (g:Same b c):Same a c:=⟨g.os.trans h.os,g.tape.trans h.tape,g.output.trans h.output⟩
def j6(b o n:Nat):(⟨b,o,none⟩:Addr).add n=⟨b,o+n,none⟩:=by unfold Addr.add;split<;>simp_all
variable {w:World}
def cell_of{b:Nat} {c:Array Value} {e fr} (h:w.heap[b]? =some (.cells c e fr)) (o:Nat):w.cell? ⟨b,o,none⟩=c[o]? :=by simp[World.cell?,h]
def pU{P:IW} {w:World} {b o:Nat} {c:Array Value} {e fr} (h:w.heap[b]? =some (.cells c e fr)) (cs:List Value) (hc:∀(j:Nat) v,cs[j]? =some v->c[o+j]? =some v):
  (loadCells ⟨b,o,none⟩ cs.length).run P w= .ok ⟨cs⟩ w:=
 run_loadCells_list w ⟨b,o,none⟩ cs λj v hj=>by rw[j6,cell_of h];exact hc j v hj
def shapeOf(P:IW) (t:TypeId):Option (Option Nat):=
 match P.underlying t with
 |some (.struct _)|some (.array _ _)=>match P.info? t with|some i=>some (some i.size)|none=>none
 |some _=>some none
 |none=>none
def takeN(l:List AV) (o n:Nat):Option (List AV):=
 let x:=(l.drop o).take n
 if x.length=n then some x else none
def rT{I:In} {l:List AV} {pre vs rest:List Value} (h:VRs I l vs) {o n s:Nat} (hs:pre.length=s) {x:List AV} (e:takeN l o n=some x):
  ∃ys,VRs I x ys/\ys.length=n/\∀(j:Nat) v,ys[j]? =some v->(⟨pre++(vs++rest)⟩:Array Value)[s+o+j]? =some v:=by
 unfold takeN at e;simp only at e;split at e
 ·rename_i hl;cases e;have hr:=VRs.take (VRs.drop h o) n;refine⟨_,hr,by rw[←hr.len];exact hl,λj v hj=> ?_⟩;have h1:((vs.drop o).take n)[j]? =some v:=hj;rw[List.getElem?_take]at h1;split at h1
  ·rw[List.getElem?_drop]at h1;simp only[List.getElem?_toArray];rw[List.getElem?_append_right (by omega),show s+o+j- pre.length=o+j by omega,List.getElem?_append_left (by have:=(List.getElem?_eq_some_iff.1 h1).1;exact this)];exact h1
  ·cases h1
 ·cases e
def Wf(P:IW) (h:T AO) (t:TypeId) (id off:Nat):Option AV:=
  match h.get id with
  | some (.cells _ _ _ l)=>match shapeOf P t with
    |some (some n)=>match takeN l off n with|some x=>some (.agg x)|none=>none
    |some none=>match l.drop off with|x::_=>some x| []=>none
    |none=>none
  |_=>none
def K1{P:IW} {t:TypeId} {s} (h:shapeOf P t=some s):(isAgg t).run P w= .ok s.isSome w/\(∀n,s=some n->(sizeOf t).run P w= .ok n w):=by
  unfold shapeOf at h;have hu:∀d,P.underlying t=some d->(underlying t).run P w= .ok d w:=λd hd=>run_underlying (P:=P) hd w;cases hd:P.underlying t with
  |none=>rw[hd]at h;cases h
  | some d=>
    rw[hd]at h;have:=hu d hd;have key:∀n,(match P.info? t with|some i=>some (some i.size)|none=>none)=some (some n)->(sizeOf t).run P w= .ok n w:=λn hn=>by
      cases hi:P.info? t with
      |none=>rw[hi]at hn;cases hn
      | some i=>
        rw[hi]at hn;cases hn;simp[sizeOf,typeInfo,program,Sem.run,hi,bind,Sem.bind,pure]
    cases d<;>simp only at h;case struct fs=>
      cases hi:P.info? t with
      |none=>rw[hi]at h;cases h
      | some i=>
        rw[hi]at h;cases h;refine⟨by simp[isAgg,this,Result.andThen],λn hn=>key n (by rw[hi];exact congrArg some hn)⟩
    case array k e=>
      cases hi:P.info? t with
      |none=>rw[hi]at h;cases h
      | some i=>
        rw[hi]at h;cases h;refine⟨by simp[isAgg,this,Result.andThen],λn hn=>key n (by rw[hi];exact congrArg some hn)⟩
    all_goals
      cases h;exact⟨by simp[isAgg,this,Result.andThen],λn hn=>by cases hn⟩
variable {w:World}
def E_ {P :IW} {F:Bool->Nat->Prop} {I:In} {h:T AO} (hs:Sim F I h w) {t:TypeId} {id off b s k:Nat} {a:AV} (e:Wf P h t id off=some a) (hi:I id=some (b,s,k)):
    ∃v,(loadVar t ⟨b,s+off,none⟩).run P w= .ok v w/\VR I a v:=by
  unfold Wf at e;split at e
  · rename_i el fz g l hg;obtain⟨ob,hb,ho⟩:=hs.obj _ _ _ _ hg hi;cases ho with
    | @cells _ _ _ _ _ pre vs rest fr h hg' hp ht hf hE=>
      split at e
      · rename_i n hsh;split at e
        · rename_i x hx;cases e;obtain⟨ys,hy,hl,hc⟩:=rT (rest:=rest) h hp hx;have hr:=pU (P:=P) hb ys hc;rw[hl]at hr;obtain⟨h1,h2⟩:=K1 (P:=P) (w:=w) hsh;refine⟨.agg ⟨ys⟩,?_, .agg hy⟩;simp[loadVar,h1,h2 n rfl,hr,Result.andThen]
        · cases e
      · rename_i hsh;split at e
        · rename_i x r hx;cases e;have hd:=VRs.drop h off;rw[hx]at hd;obtain⟨h1,h2⟩:=K1 (P:=P) (w:=w) hsh;cases hvs:vs.drop off with
          |nil=>rw[hvs]at hd;cases hd
          | cons v vr=>
            rw[hvs]at hd;cases hd with
            | cons hv _=>
              refine⟨v,?_,hv⟩;have hvo:vs[off]? =some v:=by have:(vs.drop off)[0]? =some v:=(by rw[hvs];rfl);rw[List.getElem?_drop]at this;simpa using this
              have hcell:w.cell? ⟨b,s+off,none⟩=some v:=(by rw[cell_of hb];simp only[List.getElem?_toArray];simp only at hp;rw[List.getElem?_append_right (by omega),show s+off- pre.length=off by omega,List.getElem?_append_left (List.getElem?_eq_some_iff.1 hvo).1];exact hvo);have hld:(load ⟨b,s+off,none⟩).run P w= .ok v w:=(by simp[load,Sem.run,hcell]);simp[loadVar,h1,hld,Result.andThen]
        · cases e
      · cases e
  · cases e
def y0(w:World) (b:Nat) (o:Obj):World:={w with heap:=w.heap.setIfInBounds b o}
variable {b:Nat}
def EJ{o o':Obj} (h:w.heap[b]? =some o'):(y0 w b o).heap[b]? =some o:=by have:=(Array.getElem?_eq_some_iff.1 h).1;simp[y0,this]
variable {o:Obj}
def EF{b c:Nat} (h:c≠b):(y0 w b o).heap[c]? =w.heap[c]? :=by simp[y0,Array.getElem?_setIfInBounds_ne (Ne.symm h)]
def EH:(y0 w b o).heap.size=w.heap.size:=by simp[y0]
def EG:Same w (y0 w b o):=⟨rfl,rfl,rfl⟩
def spl{α:Type} (l:List α) (k:Nat):List α->List α
 | []=>l
 |x::xs=>spl (l.set k x) (k+1) xs
def q7q{α:Type}:∀(xs:List α) (l:List α) (k:Nat),(spl l k xs).length=l.length
 | [],_,_=>rfl
 |x::xs,l,k=>by rw[spl,q7q xs];simp
def ET{α:Type}:∀(xs l r:List α) (k:Nat),k+xs.length<=l.length->spl (l++r) k xs=spl l k xs++r
  | [],_,_,_,_=>rfl
  | x::xs,l,r,k,h=>by simp only[List.length_cons]at h;rw[spl,spl,List.set_append_left _ _ (by omega),ET xs _ r (k+1) (by simp;omega)]
def Az{I:In}:∀{xs:List AV} {us:List Value},VRs I xs us->∀{l vs} (k:Nat),VRs I l vs->VRs I (spl l k xs) (spl vs k us)
 |_,_, .nil=>λ_ h=>h
 |_,_, .cons h t=>λk g=>Az t (k+1) (VRs.set g k h)
def Fw{α:Type}:∀(xs p l:List α) (k:Nat),spl (p++l) (p.length+k) xs=p++spl l k xs
  | [],_,_,_=>rfl
  | x::xs,p,l,k=>by rw[spl,spl,List.set_append_right _ _ (by omega),Nat.add_sub_cancel_left,Nat.add_assoc,Fw xs p _ (k+1)]
def atom:AV->Bool
 | .agg _| .tup _=>false
 | .sv v=>v.oneCell'
 |_=>true
def qcj{I:In} {a:AV} {v:Value} (h:VR I a v) (ha:atom a=true):v.oneCell'=true:=by cases h<;>first|rfl|exact ha|simp[atom]at ha
def X6{I:In}:∀{xs:List AV} {us:List Value},VRs I xs us->xs.all atom=true->∀v∈us,v.oneCell'=true
  |_,_, .nil=>λ_ v hv=>by cases hv
  | _,_, .cons h t=>λha v hv=>by
    simp only[List.all_cons,Bool.and_eq_true]at ha;cases hv with
    |head=>exact qcj h ha.1
    |tail _ hm=>exact X6 t ha.2 v hm
def X4{P:IW} {b o:Nat} {e:TypeId} {fr:Nat×Nat}:∀(vs:List Value) (i:Nat) (cur:List Value) (w:World),w.heap[b]? =some (.cells ⟨cur⟩ e fr)->o+i+vs.length<=cur.length->
    (∀j,o+i<=j->j<o+i+vs.length->¬(fr.1<=j/\j<fr.2))->(∀v∈vs,v.oneCell'=true)->
    ∃w',(storeCells ⟨b,o,none⟩ vs i).run P w= .ok () w'/\w'.heap[b]? =some (.cells ⟨spl cur (o+i) vs⟩ e fr)/\(∀c,c≠b->w'.heap[c]? =w.heap[c]?)/\w'.heap.size=w.heap.size/\Same w w'
  | [],i,cur,w,h,_,_,_=>⟨w,rfl,h,λ_ _=>rfl,rfl, .refl w⟩
  | v ::r,i,cur,w,h,hl,hf,h1=>by
    simp only[List.length_cons]at hl hf;have hcell:∃u,w.cell? ⟨b,o+i,none⟩=some u:=(by rw[cell_of h];exact⟨_,by simp only[List.getElem?_toArray];exact List.getElem?_eq_getElem (by omega)⟩);obtain⟨u,hu⟩:=hcell;have hfz:w.frozen? ⟨b,o+i,none⟩=false:=by have:=hf (o+i) (Nat.le_refl _) (by omega);simp only[World.frozen?,h];simp only[Bool.and_eq_false_iff,decide_eq_false_iff_not];omega
    have hst:(store ((⟨b,o,none⟩:Addr).add i) v).run P w= .ok () (w.setCell ⟨b,o+i,none⟩ v):=(by rw[j6,run_store P w _ v _ (h1 v (by simp))];simp[hu,hfz]);have hat:(w.setCell ⟨b,o+i,none⟩ v).heap[b]? =some (.cells ⟨cur.set (o+i) v⟩ e fr):=(by simp only[World.setCell,Array.getElem?_modify,if_true,h,Option.map_some];simp);have hf2:∀j,o+(i+1)<=j->j<o+(i+1)+r.length->¬(fr.1<=j/\j<fr.2):=λj a1 a2=>hf j (by omega) (by omega);obtain⟨w',h2,h3,h4,h5,h6⟩:=X4 r (i+1) (cur.set (o+i) v) (w.setCell ⟨b,o+i,none⟩ v) hat (by rw[List.length_set];omega) hf2 (λv hv=>h1 v (by simp[hv]));refine⟨w',?_,?_,?_,?_,?_⟩
    · simp only[storeCells,Sem.run_bind,hst,Result.andThen];exact h2
    · rw[h3,spl];rfl
    · intro c hc;rw[h4 c hc,Below.heap_setCell _ _ _ _ hc]
    · rw[h5];simp
    · exact Same.trans (b:=w.setCell ⟨b,o+i,none⟩ v) ⟨rfl,rfl,rfl⟩ h6
structure Grow(F:Bool->Nat->Prop) (I:In) (nx:Nat) (w:World) (I':In) (nx':Nat) (h':T AO) (w':World):Prop where
 le:I.le I'
 new:∀i x,I' i=some x->I i=some x\/nx<=i/\i<nx'
 sim:Sim F I' h' w'
 fr:∀b,F true b->w'.heap[b]? =w.heap[b]?
 size:w.heap.size<=w'.heap.size
 same:Same w w'
def Sim.grow{F I h w} (s:Sim F I h w) (nx:Nat):Grow F I nx w I nx h w:=⟨In.le_refl I,λ_ _ h=> .inl h,s,λ_ _=>rfl,Nat.le_refl _, .refl w⟩
def Sim.upd{F I h w} (s:Sim F I h w) {id b t o o' h'} (hg:h.get id=some o) (hrw:o.rw=true) (hi:I id=some (b,t)) (hp:T.put 64 id (some o') h=some h') {w' ob'} (hb:w'.heap[b]? =some ob') (ho:OR I t o' ob') (hoth:∀c,c≠b->w'.heap[c]? =w.heap[c]?) (hsz:w'.heap.size=w.heap.size) (hsame:Same w w') (nx:Nat):
  Grow F I nx w I nx h' w':=by
 have hget:=T.get_put _ _ _ _ _ hp;refine⟨In.le_refl I,λ_ _ h=> .inl h,⟨?_,?_,?_⟩,λc hc=> ?_,Nat.le_of_eq hsz.symm,hsame⟩
 ·intro id1 o1 b1 t1 h1 h2;rw[hget]at h1;split at h1
  ·rename_i e;subst e;cases h1;rw[hi]at h2;cases h2;exact⟨_,hb,ho⟩
  ·rename_i e;obtain⟨ob,h3,h4⟩:=s.obj _ _ _ _ h1 h2;have:b1≠b:=λeb=>e (s.inj id1 id o1 o b t1 t h1 hg (eb ▸ h2) hi);exact⟨ob,(hoth b1 this).trans h3,h4⟩
 ·intro id1 id2 o1 o2 b1 t1 t2 h1 h2 i1 i2;have live:∀k ok,h'.get k=some ok->∃o,h.get k=some o:=λk ok hk=>by
   rw[hget]at hk;split at hk
   ·rename_i e;subst e;exact⟨_,hg⟩
   ·exact⟨_,hk⟩
  obtain⟨p1,q1⟩:=live _ _ h1;obtain⟨p2,q2⟩:=live _ _ h2;exact s.inj _ _ _ _ _ _ _ q1 q2 i1 i2
 ·intro id1 o1 b1 t1 h1 h2 hf;rw[hget]at h1;split at h1
  ·rename_i e;subst e;have:=(s.fr _ _ _ _ hg h2 hf).1;rw[hrw]at this;cases this
  ·exact s.fr _ _ _ _ h1 h2 hf
 ·exact hoth c λe=>by have:=(s.fr _ _ _ _ hg hi (e ▸ hc)).1;rw[hrw]at this;cases this
def ext(I:In) (nx:Nat) (x:Nat×Nat×Nat):In:=λi=>if i=nx then some x else I i
def zZ(I:In) (nx:Nat) (x:Nat×Nat×Nat):ext I nx x nx=some x:=by simp[ext]
variable {nx:Nat}
def QY{I:In} (x:Nat×Nat×Nat) (h:I nx=none):I.le (ext I nx x):=λi y hi=>by
 unfold ext;split
 ·rename_i e;subst e;rw[h]at hi;cases hi
 ·exact hi
def se{I:In} {x:Nat×Nat×Nat}:∀i y,ext I nx x i=some y->I i=some y\/nx<=i/\i<nx+1:=λi y h=>by
 unfold ext at h;split at h
 ·rename_i e;subst e;exact .inr ⟨Nat.le_refl _,Nat.lt_succ_self _⟩
 ·exact .inl h
def Sim.push{F I h w} (s:Sim F I h w) {nx t o h'} (hi:I nx=none) (hF:∀b,F true b->b<w.heap.size) (hp:T.put 64 nx (some o) h=some h') {w' ob} (hb:w'.heap=w.heap.push ob) (ho:OR (ext I nx (w.heap.size,t)) t o ob) (hsame:Same w w'):
  Grow F I nx w (ext I nx (w.heap.size,t)) (nx+1) h' w':=by
 have hget:=T.get_put _ _ _ _ _ hp;have hle:=QY (w.heap.size,t) hi;have old:∀c,c<w.heap.size->w'.heap[c]? =w.heap[c]? :=λc hc=>by rw[hb,Array.getElem?_push,if_neg (by omega)]
 refine⟨hle,se,⟨?_,?_,?_⟩,λc hc=>old c (hF c hc),by rw[hb];simp,hsame⟩
 ·intro id1 o1 b1 t1 h1 h2;rw[hget]at h1;split at h1
  ·rename_i e;subst e;cases h1;rw[zZ]at h2;cases h2;exact⟨ob,by rw[hb];simp,ho⟩
  ·rename_i e;simp only[ext,if_neg e]at h2;obtain⟨ob1,h3,h4⟩:=s.obj _ _ _ _ h1 h2;exact⟨ob1,(old b1 (Array.getElem?_eq_some_iff.1 h3).1).trans h3,h4.mono hle⟩
 ·intro id1 id2 o1 o2 b1 t1 t2 h1 h2 i1 i2;rw[hget]at h1 h2;have low:∀k ok b t,h.get k=some ok->I k=some (b,t)->b≠w.heap.size:=λk ok b t hk hi=>by obtain⟨ob1,h3,_⟩:=s.obj _ _ _ _ hk hi;have:=(Array.getElem?_eq_some_iff.1 h3).1;omega
  split at h1<;>split at h2<;>rename_i e1 e2
  ·rw[e1,e2]
  ·subst e1;rw[zZ]at i1;cases i1;simp only[ext,if_neg e2]at i2;exact absurd rfl (low _ _ _ _ h2 i2)
  ·subst e2;rw[zZ]at i2;cases i2;simp only[ext,if_neg e1]at i1;exact absurd rfl (low _ _ _ _ h1 i1)
  ·simp only[ext,if_neg e1]at i1;simp only[ext,if_neg e2]at i2;exact s.inj _ _ _ _ _ _ _ h1 h2 i1 i2
 ·intro id1 o1 b1 t1 h1 h2 hf;rw[hget]at h1;split at h1
  ·rename_i e;subst e;rw[zZ]at h2;cases h2;have:=hF _ hf;omega
  ·rename_i e;simp only[ext,if_neg e]at h2;exact s.fr _ _ _ _ h1 h2 hf
def Sim.over{F I h w} (s:Sim F I h w) {id b t o0 nx o h1 h'} (hg:h.get id=some o0) (hrw:o0.rw=true) (hid:I id=some (b,t)) {t':Nat×Nat} (hi:I nx=none) (hp1:T.put 64 id none h=some h1) (hp:T.put 64 nx (some o) h1=some h') {w' ob} (hb:w'.heap[b]? =some ob) (ho:OR (ext I nx (b,t')) t' o ob) (hoth:∀c,c≠b->w'.heap[c]? =w.heap[c]?) (hsz:w'.heap.size=w.heap.size) (hsame:Same w w'):
  Grow F I nx w (ext I nx (b,t')) (nx+1) h' w':=by
 have hget1:=T.get_put _ _ _ _ _ hp1;have hget:∀j,h'.get j=if j=nx then some o else if j=id then none else h.get j:=λj=>by rw[T.get_put _ _ _ _ _ hp j,hget1]
 have hle:=QY (b,t') hi;refine⟨hle,se,⟨?_,?_,?_⟩,λc hc=>hoth c λe=>(by have:=(s.fr _ _ _ _ hg hid (e ▸ hc)).1;rw[hrw]at this;cases this),by omega,hsame⟩
 ·intro id1 o1 b1 t1 h1 h2;rw[hget]at h1;split at h1
  ·rename_i e;subst e;cases h1;rw[zZ]at h2;cases h2;exact⟨ob,hb,ho⟩
  ·rename_i e;split at h1
   ·cases h1
   ·rename_i e';simp only[ext,if_neg e]at h2;obtain⟨ob1,h3,h4⟩:=s.obj _ _ _ _ h1 h2;have:b1≠b:=λeb=>e' (s.inj id1 id o1 o0 b t1 t h1 hg (eb ▸ h2) hid);exact⟨ob1,(hoth b1 this).trans h3,h4.mono hle⟩
 ·intro id1 id2 o1 o2 b1 t1 t2 h1 h2 i1 i2;rw[hget]at h1 h2;have low:∀k ok t',k≠id->h.get k=some ok->I k=some (b,t')->False:=λk ok t' hne hk hi=>hne (s.inj k id ok o0 b t' t hk hg hi hid);split at h1<;>split at h2<;>rename_i e1 e2
  ·rw[e1,e2]
  ·subst e1;rw[zZ]at i1;cases i1;split at h2
   ·cases h2
   ·rename_i e';simp only[ext,if_neg e2]at i2;exact(low _ _ _ e' h2 i2).elim
  ·subst e2;rw[zZ]at i2;cases i2;split at h1
   ·cases h1
   ·rename_i e';simp only[ext,if_neg e1]at i1;exact(low _ _ _ e' h1 i1).elim
  ·simp only[ext,if_neg e1]at i1;simp only[ext,if_neg e2]at i2;split at h1
   ·cases h1
   ·split at h2
    ·cases h2
    ·exact s.inj _ _ _ _ _ _ _ h1 h2 i1 i2
 ·intro id1 o1 b1 t1 h1 h2 hf;rw[hget]at h1;split at h1
  ·rename_i e;subst e;rw[zZ]at h2;cases h2;have:=(s.fr _ _ _ _ hg hid hf).1;rw[hrw]at this;cases this
  ·rename_i e;split at h1
   ·cases h1
   ·simp only[ext,if_neg e]at h2;exact s.fr _ _ _ _ h1 h2 hf
def FO(P:IW) (s:Sem Next) (I:In) (a:AV):Prop:=∃v,(∀w,s.run P w= .ok (.value v) w)/\VR I a v
def ze(P:IW) (s:Sem Value) (I:In) (a:AV):Prop:=∃v,(∀w,s.run P w= .ok v w)/\VR I a v
variable {s:Sem Value} {I:In}
def ze.next{P:IW} {a:AV} (h:ze P s I a):FO P (do pure (.value (←s))) I a:=by obtain⟨v,h1,h2⟩:=h;exact⟨v,λw=>by simp[h1 w,Result.andThen],h2⟩
def E0{P:IW} {a:AV} {v:Value} (h:y5 P s=some v) (g:z8 v=some a):ze P s I a:=
 ⟨v,re P s v h,E6 I v a g⟩
def nth{α:Type}:List α->Nat->Option α
  | [],_=>none
  | x::l,n=>match n with
    |0=>some x
    |n+1=>nth l n
def jY{α:Type}:∀(l:List α) (n:Nat),nth l n=l[n]?
 | [],_=>by simp[nth]
 |x::l,0=>by simp[nth]
 |x::l,n+1=>by simp[nth,jY l n]
def ZI:List Nat->List Nat->Bool
 | [],[]=>true
 |a::x,b::y=>if a % 256=b % 256 then ZI x y else false
 |_,_=>false
def pV(l:List Nat):(mkS l).toList=l.map UInt8.ofNat:=by rw[ByteArray.toList_eq];rfl
def q0v(l:List Nat):(mkS l).size=l.length:=by simp[mkS,ByteArray.size]
def q94(l m:List Nat):mkS l++mkS m=mkS (l++m):=by unfold mkS;apply ByteArray.ext;simp
def qft(l:List Nat) (i:Nat):(mkS l)[i]? =(l[i]?).map UInt8.ofNat:=by
 by_cases h:i<l.length
 ·have h2:i<(mkS l).size:=by rw[q0v];exact h
  rw[ByteArray.getElem?_lt' _ _ h2,List.getElem?_eq_getElem h];simp only[Option.map_some,Option.some.injEq];show(mkS l).data[i]=_;simp[mkS]
 ·rw[ByteArray.getElem?_ge' _ _ (by rw[q0v];exact h),List.getElem?_eq_none (by omega)];rfl
def ofNat_eq(a b:Nat):(UInt8.ofNat a=UInt8.ofNat b)↔a % 256=b % 256:=by
 constructor
 ·intro h;have:=congrArg UInt8.toNat h;simpa[UInt8.toNat_ofNat']using this
 ·intro h;apply UInt8.toNat_inj.1;simpa[UInt8.toNat_ofNat']using h
def sN:∀(a b:List Nat),ZI a b=(a.map UInt8.ofNat==b.map UInt8.ofNat)
  | [],[]=>rfl
  | [],_::_=>rfl
  |_::_,[]=>rfl
  | a ::x,b::y=>by
    rw[ZI];split
    · rename_i h;rw[sN x y,List.map_cons,List.map_cons,List.cons_beq_cons,(ofNat_eq a b).2 h];simp
    · rename_i h;rw[List.map_cons,List.map_cons,List.cons_beq_cons];have:(UInt8.ofNat a==UInt8.ofNat b)=false:=(by rw[beq_eq_false_iff_ne];exactλe=>h ((ofNat_eq a b).1 e));rw[this];rfl
def ZZ:List Nat->List Nat->Bool
 |_,[]=>false
 | [],_::_=>true
 |a::x,b::y=>if a % 256<b % 256 then true else if a % 256=b % 256 then ZZ x y else false
def sX:∀(a b:List Nat),ZZ a b=Op.bytesLess (a.map UInt8.ofNat) (b.map UInt8.ofNat)
  | [],[]=>rfl
  | [],_::_=>rfl
  |_::_,[]=>rfl
  | a ::x,b::y=>by
    rw[ZZ,List.map_cons,List.map_cons,Op.bytesLess,←sX x y];have h1:decide (UInt8.ofNat a<UInt8.ofNat b)=decide (a % 256<b % 256):=(by simp[UInt8.lt_iff_toNat_lt,UInt8.toNat_ofNat']);have h2:(UInt8.ofNat a==UInt8.ofNat b)=decide (a % 256=b % 256):=by
      by_cases h:a % 256=b % 256
      · rw[(ofNat_eq a b).2 h];simp[h]
      · rw[decide_eq_false h,beq_eq_false_iff_ne];exactλe=>h ((ofNat_eq a b).1 e)
    rw[h1,h2];by_cases h:a % 256<b % 256
    · simp[h]
    · by_cases g:a % 256=b % 256<;>simp[h,g]
def Sy(op:BinOp) (a b:List Nat):Option AV:=
 match op with
 | .add=>if a.length+b.length<9223372036854775808 then some (.str (a++b))else none
 | .eql=>some (.bool (ZI a b))
 | .neq=>some (.bool (!ZI a b))
 | .lss=>some (.bool (ZZ a b))
 | .leq=>some (.bool (ZZ a b||ZI a b))
 | .gtr=>some (.bool (!(ZZ a b||ZI a b)))
 | .geq=>some (.bool (!ZZ a b))
 |_=>none
variable {op:BinOp}
def qdm{P:IW} {a b:List Nat} {r:AV} (h:Sy op a b=some r):ze P (Op.stringOp op (mkS a) (mkS b)) I r:=by
 unfold Op.stringOp;rw[pV,pV,←sN,←sX];cases op<;>simp only[Sy]at h;case add=>
  split at h
  ·rename_i hl;cases h;refine⟨.string (mkS (a++b)),λw=> ?_, .str _⟩;have hn:¬(((mkS a).size+(mkS b).size:Nat):Int)>IntKind.i64.max:=(by rw[q0v,q0v];simp[IntKind.max,IntKind.signed,IntKind.bits];omega);simp only[if_neg hn,q94];rfl
  ·cases h
 all_goals (first| (cases h;done)| (cases h;exact⟨_,λw=>rfl, .bool _⟩))
def fits:IntKind->Int->Bool
 | .i64, .ofNat n=>Nat.ble n 9223372036854775807
 | .i64, .negSucc n=>Nat.ble n 9223372036854775807
 | .u64, .ofNat n=>Nat.ble n 18446744073709551615
 | .i32, .ofNat n=>Nat.ble n 2147483647
 | .i32, .negSucc n=>Nat.ble n 2147483647
 | .u32, .ofNat n=>Nat.ble n 4294967295
 | .u8, .ofNat n=>Nat.ble n 255
 |_,_=>false
variable {k:IntKind}
def EZ{n:Int} (h:fits k n=true):k.wrap n=n:=by
 unfold fits at h;split at h;all_goals (try (cases h;done))
 all_goals
  have h:=Nat.le_of_ble_eq_true h;simp only[IntKind.wrap,IntKind.bits,IntKind.signed,Int.negSucc_eq,Int.ofNat_eq_natCast];simp;try omega
def yp:Int->Int->Bool
 | .ofNat a, .ofNat b=>Nat.blt a b
 | .ofNat _, .negSucc _=>false
 | .negSucc _, .ofNat _=>true
 | .negSucc a, .negSucc b=>Nat.blt b a
def yj:Int->Int->Bool
 | .ofNat a, .ofNat b=>Nat.beq a b
 | .negSucc a, .negSucc b=>Nat.beq a b
 |_,_=>false
def blt_eq(a b:Nat):Nat.blt a b=decide (a<b):=by
 by_cases h:a<b
 ·rw[decide_eq_true h];simpa[Nat.blt_eq]using h
 ·rw[decide_eq_false h];rw[Bool.eq_false_iff];simpa[Nat.blt_eq]using h
def qf3(a b:Nat):Nat.beq a b=decide (a=b):=by
 by_cases h:a=b
 ·subst h;simp
 ·rw[decide_eq_false h];cases hb:Nat.beq a b with
  |true=>exact absurd (Nat.eq_of_beq_eq_true hb) h
  |false=>rfl
def Vg(a b:Int):yp a b=decide (a<b):=by cases a<;>cases b<;>simp only[yp,blt_eq,Int.ofNat_eq_natCast,Int.negSucc_eq]<;>first| (apply decide_eq_decide.2;omega)| (symm;apply decide_eq_true;omega)| (symm;apply decide_eq_false;omega)
def FB(a b:Int):yj a b=decide (a=b):=by cases a<;>cases b<;>simp only[yj,qf3,Int.ofNat_eq_natCast,Int.negSucc_eq]<;>first| (apply decide_eq_decide.2;omega)| (symm;apply decide_eq_false;omega)
def Sr(op:BinOp) (k:IntKind) (x y:Int):Option AV:=
 match op with
 | .add=>let r:=Int.add x y;match fits k r with|true=>some (.int k r)|false=>none
 | .sub=>let r:=Int.sub x y;match fits k r with|true=>some (.int k r)|false=>none
 | .eql=>some (.bool (yj x y))
 | .neq=>some (.bool (!yj x y))
 | .lss=>some (.bool (yp x y))
 | .gtr=>some (.bool (yp y x))
 | .leq=>some (.bool (!yp y x))
 | .geq=>some (.bool (!yp x y))
 |_=>none
def tF:IntKind->IntKind->Bool
 | .i64, .i64| .u64, .u64| .i32, .i32| .u32, .u32| .u8, .u8=>true
 |_,_=>false
def qdh{k k':IntKind} (h:tF k k'=true):k=k':=by cases k<;>cases k'<;>first|rfl|cases h
def qcw{P:IW} {t:TypeId} {x y:Int} {r:AV} (h:Sr op k x y=some r):ze P (binOp op t (.int k x) (.int k y)) I r:=by
 cases op<;>simp only[Sr]at h;case add=>
  split at h
  ·rename_i hf;cases h;exact⟨_,λw=>by simp only[binOp,ne_eq,not_true,if_false,Op.intArith,Sem.run_pure];rw[show x+y=Int.add x y from rfl,EZ hf], .int _ _⟩
  ·cases h
 case sub=>
  split at h
  ·rename_i hf;cases h;exact⟨_,λw=>by simp only[binOp,ne_eq,not_true,if_false,Op.intArith,Sem.run_pure];rw[show x- y=Int.sub x y from rfl,EZ hf], .int _ _⟩
  ·cases h
 case eql=>cases h;exact⟨.bool (x==y),λw=>by simp only[binOp,ne_eq,not_true,if_false,Op.intCmp,Sem.run_pure],by rw[show(x==y)=decide (x=y)from rfl,←FB];exact .bool _⟩
 case neq=>cases h;exact⟨.bool (x !=y),λw=>by simp only[binOp,ne_eq,not_true,if_false,Op.intCmp,Sem.run_pure],by rw[show(x !=y)= !decide (x=y)from rfl,←FB];exact .bool _⟩
 case lss=>cases h;exact⟨.bool (decide (x<y)),λw=>by simp only[binOp,ne_eq,not_true,if_false,Op.intCmp,Sem.run_pure],by rw[←Vg];exact .bool _⟩
 case gtr=>cases h;exact⟨.bool (decide (x>y)),λw=>by simp only[binOp,ne_eq,not_true,if_false,Op.intCmp,Sem.run_pure],by rw[show decide (x>y)=decide (y<x)from rfl,←Vg];exact .bool _⟩
 case leq=>cases h;exact⟨.bool (decide (x<=y)),λw=>by simp only[binOp,ne_eq,not_true,if_false,Op.intCmp,Sem.run_pure],by
  have:decide (x<=y)= !yp y x:=by rw[Vg];by_cases h:y<x<;>simp[h]<;>omega
  rw[this];exact .bool _⟩
 case geq=>cases h;exact⟨.bool (decide (x>=y)),λw=>by simp only[binOp,ne_eq,not_true,if_false,Op.intCmp,Sem.run_pure],by
  have:decide (x>=y)= !yp x y:=by rw[Vg];by_cases h:x<y<;>simp[h]<;>omega
  rw[this];exact .bool _⟩
 all_goals cases h
def ua(P:IW) (op:BinOp) (t:TypeId) (a b:AV):Option AV:=
  match a,b with
  | .int k x, .int k' y=>match(match tF k k' with|true=>Sr op k x y|false=>none)with
    |some r=>some r
    |none=>match y5 P (binOp op t (.int k x) (.int k' y))with|some v=>X0 v|none=>none
  | .str x, .str y=>Sy op x y
  | .bool x, .bool y=>match y5 P (binOp op t (.bool x) (.bool y))with|some v=>z8 v|none=>none
  | a,b=>
    match op with
    | .eql| .neq=>match aeq P t a b with|some r=>some (.bool (if op matches .eql then r else !r))|none=>none
    |_=>none
where
  aeq (P:IW) (t:TypeId) (a b:AV):Option Bool:=
    match P.underlying t,a,b with
    |some (.pointer _), .nilp, .nilp=>some true
    |some (.pointer _), .nilp, .ptr .. =>some false
    |some (.pointer _), .ptr .., .nilp=>some false
    |some (.pointer e), .ptr i f, .ptr j g=>if i=j then(match P.info? e with|some k=>if k.size=0 then none else some (f==g)|none=>none)else none
    |some (.slice _), .nsl, .nsl=>some true
    |some (.slice _), .nsl, .sl .. |some (.slice _), .nsl, .gsl .. =>some false
    |some (.slice _), .sl .., .nsl|some (.slice _), .gsl .., .nsl=>some false
    |some (.map ..), .nmap, .nmap=>some true
    |some (.map ..), .nmap, .map .. |some (.map ..), .map .., .nmap=>some false
    |some (.func ..), .nilf, .nilf=>some true
    |some (.func ..), .nilf, .fn .. |some (.func ..), .fn .., .nilf=>some false
    | _, .agg x, .agg y=>match concs x,concs y with
      |some u,some v=>y5 P (do (if(←program).eqGuardType (←program).depth t then stuck "" else pure ());Op.equal t (.agg ⟨u⟩) (.agg ⟨v⟩))
      |_,_=>none
    |_,_,_=>none
  concs:List AV->Option (List Value)
    | []=>some []
    | a::l=>match u9 a,concs l with
      |some v,some x=>some (v::x)
      |_,_=>none
def YW{I:In}:∀{l:List AV} {x:List Value},ua.concs l=some x->∀{u},VRs I l u->u=x
  | [],x,h,u,r=>by simp[ua.concs]at h;subst h;cases r;rfl
  | a ::l,x,h,u,r=>by
    simp only[ua.concs]at h;split at h
    · rename_i v y h1 h2;cases h;cases r with
      |cons r1 r2=>rw[Y1 h1 r1,YW h2 r2]
    · cases h
variable {op:BinOp} {t:TypeId}
def QT{P:IW} {x y:Operand} {a b:Value} (h1:a= .nilIface->False) (h2:∀c,a= .agg c->False) (w:World):(eqGuard op t x y a b).run P w= .ok () w:=by cases a<;>first|exact(h1 rfl).elim|exact(h2 _ rfl).elim| (unfold eqGuard;cases op<;>rfl)
def q7h{P:IW} {x y:Operand} {a b:Array Value} (h:P.eqGuardType P.depth t=false) (w:World):(eqGuard op t x y (.agg a) (.agg b)).run P w= .ok () w:=by unfold eqGuard;cases op<;>first|rfl|simp[program,Sem.run,bind,Sem.bind,pure,h]
def binOp_eql{a b:Value} (ha:∀k n,a≠ .int k n) (hf:∀k n,a≠ .float k n) (hc:∀k n m,a≠ .complex k n m) (hs:∀s,a≠ .string s):binOp .eql t a b=(do pure (.bool (←Op.equal t a b)))/\binOp .neq t a b=(do pure (.bool (!(←Op.equal t a b)))):=by
 constructor
 ·unfold binOp;cases a<;>first|rfl|exact absurd rfl (ha _ _)|exact absurd rfl (hf _ _)|exact absurd rfl (hc _ _ _)|exact absurd rfl (hs _)
 ·unfold binOp;cases a<;>first|rfl|exact absurd rfl (ha _ _)|exact absurd rfl (hf _ _)|exact absurd rfl (hc _ _ _)|exact absurd rfl (hs _)
def Z1{P:IW} {a b:Value} {d:TypeDesc} (h:P.underlying t=some d) (w:World) (r:Bool)
  (hr:∀n,(Op.equalIn (n+1) t a b).run P w= .ok r w):(Op.equal t a b).run P w= .ok r w:=hr 9999
variable {I:In}
def qgv {P : IW} {a b:AV} {u v:Value} {r:Bool} (h:ua.aeq P t a b=some r) (ha:VR I a u) (hb:VR I b v):
    (∀w,(Op.equal t u v).run P w= .ok r w)/\(∀k n,u≠ .int k n)/\(∀k n,u≠ .float k n)/\(∀k n m,u≠ .complex k n m)/\(∀s,u≠ .string s)/\(u= .nilIface->False)/\((∀c,u≠ .agg c)\/(∃c d,u= .agg c/\v= .agg d/\P.eqGuardType P.depth t=false)):=by
  unfold ua.aeq at h;split at h;case h_4=>
    rename_i e i f j g hd;split at h
    · rename_i hij;subst hij;split at h
      · rename_i k hk;split at h
        · cases h
        · rename_i hz;cases h;cases ha with
          | @ptr _ _ bb ss tt hI=>
            cases hb with
            | ptr hJ=>
              rw[hI]at hJ;cases hJ;refine⟨λw=>Z1 hd w _ λn=> ?_,by simp,by simp,by simp,by simp,by simp, .inl (by simp)⟩;have hsz:(sizeOf e).run P w= .ok k.size w:=(by simp[sizeOf,typeInfo,program,Sem.run,hk,bind,Sem.bind,pure]);simp only[Op.equalIn,Sem.run_bind,run_underlying hd,Result.andThen,hsz];rw[if_pos hz];have:((⟨bb,ss+f,none⟩:Addr)==⟨bb,ss+g,none⟩)=(f==g):=by
                by_cases hfg:f=g
                · subst hfg;simp
                · rw[beq_eq_false_iff_ne.2 hfg,beq_eq_false_iff_ne];intro he;injection he;omega
              simp[sameAddr,this]
      · cases h
    · cases h
  case h_16 =>
    rename_i x y hd;split at h
    · rename_i p q hp hq;cases ha with
      | agg ha=>
        cases hb with
        | agg hb=>
          have e1:=YW hp ha;have e2:=YW hq hb;subst e1 e2;cases hg:P.eqGuardType P.depth t with
          |true=>simp[program,y5,bind,Sem.bind,hg,stuck]at h
          | false=>
            simp[program,y5,bind,Sem.bind,hg,pure]at h;exact⟨λw=>re P _ _ h w,by simp,by simp,by simp,by simp,by simp, .inr ⟨_,_,rfl,rfl,rfl⟩⟩
    · cases h
  case h_17=>cases h
  all_goals
    rename_i hd;cases h;cases ha;cases hb;refine⟨λw=>Z1 hd w _ λn=> ?_,by simp,by simp,by simp,by simp,by simp, .inl (by simp)⟩;simp[Op.equalIn,run_underlying hd,Result.andThen]
def qep{P:IW} {x y:Operand} {a b r:AV} {u v:Value} (h:ua P op t a b=some r) (ha:VR I a u) (hb:VR I b v):
  ze P (do eqGuard op t x y u v;binOp op t u v) I r:=by
 have run2:∀{s:Sem Value},(∀w,(eqGuard op t x y u v).run P w= .ok () w)->ze P s I r->ze P (do eqGuard op t x y u v;s) I r:=λhg ⟨z,h1,h2⟩=>
  ⟨z,λw=>by simp[hg w,h1 w,Result.andThen],h2⟩
 unfold ua at h;split at h
 ·cases ha;cases hb;split at h
  ·rename_i z hz;cases h;split at hz
   ·rename_i hk;have:=qdh hk;subst this;exact run2 (QT (by simp) (by simp)) (qcw hz)
   ·cases hz
  ·split at h
   ·rename_i z hz;rw[sZ]at h;exact run2 (QT (by simp) (by simp)) (E0 hz h)
   ·cases h
 ·rename_i p q;cases ha;cases hb;exact run2 (QT (by simp) (by simp)) (by have:binOp op t (.string (mkS p)) (.string (mkS q))=Op.stringOp op (mkS p) (mkS q):=(by unfold binOp;cases op<;>rfl);rw[this];exact qdm h)
 ·cases ha;cases hb;split at h
  ·rename_i z hz;exact run2 (QT (by simp) (by simp)) (E0 hz h)
  ·cases h
 ·have key:∀q,ua.aeq P t a b=some q->ze P (do eqGuard .eql t x y u v;binOp .eql t u v) I (.bool q)/\ze P (do eqGuard .neq t x y u v;binOp .neq t u v) I (.bool !q):=λq hq=>by
   obtain⟨h1,h2,h3,h4,h5,h6,h7⟩:=qgv hq ha hb;obtain⟨e1,e2⟩:=binOp_eql (t:=t) (b:=v) h2 h3 h4 h5;have hg:∀o w,(eqGuard o t x y u v).run P w= .ok () w:=λo w=>by
    rcases h7 with h7|⟨c,d,rfl,rfl,hgd⟩
    ·exact QT h6 (λc e=>h7 c e) w
    ·exact q7h hgd w
   constructor
   ·exact⟨_,λw=>by rw[e1];simp[hg .eql w,h1 w,Result.andThen], .bool _⟩
   ·exact⟨_,λw=>by rw[e2];simp[hg .neq w,h1 w,Result.andThen], .bool _⟩
  cases op<;>simp only at h<;>try (cases h;done)
  all_goals
   split at h
   ·rename_i q hq;cases h;first|exact(key q hq).1|exact(key q hq).2
   ·cases h
def vX:Operand->Bool
 | .const _=>true
 |_=>false
def Su(P:IW) (t:TypeId) (a b:AV):Option Bool:=none
def qd1{P:IW} {a b:AV} {u v:Value} {q:Bool} (h:Su P t a b=some q) (ha:VR I a u) (hb:VR I b v):
  (∀w,(Op.equal t u v).run P w= .ok q w)/\∃t1 u1 t2 u2,u= .iface t1 u1/\v= .iface t2 u2:=by unfold Su at h;cases h
def A7(P:IW) (op:BinOp) (t:TypeId) (a b:AV):Option AV:=
  match Su P t a b with
  | some q=>match op with
    | .eql=>some (.bool q)
    | .neq=>some (.bool !q)
    |_=>none
  |none=>none
def qb3{P:IW} {x y:Operand} {a b r:AV} {u v:Value} (h:A7 P op t a b=some r) (ha:VR I a u) (hb:VR I b v):
  ze P (do eqGuard op t x y u v;binOp op t u v) I r:=by
 unfold A7 at h;split at h
 ·rename_i q hq;obtain⟨h1,t1,u1,t2,u2,rfl,rfl⟩:=qd1 hq ha hb;have hg:∀o w,(eqGuard o t x y (.iface t1 u1) (.iface t2 u2)).run P w= .ok () w:=λo w=>by unfold eqGuard;cases o<;>rfl
  obtain⟨e1,e2⟩:=binOp_eql (t:=t) (a:= .iface t1 u1) (b:= .iface t2 u2) (by simp) (by simp) (by simp) (by simp);cases op<;>simp only at h<;>try (cases h;done)
  ·cases h;exact⟨_,λw=>by rw[e1];simp[hg .eql w,h1 w,Result.andThen], .bool _⟩
  ·cases h;exact⟨_,λw=>by rw[e2];simp[hg .neq w,h1 w,Result.andThen], .bool _⟩
 ·cases h
def xY (P:IW) (op:BinOp) (t:TypeId) (y:Operand) (a b:AV):Option AV:=
  match a with
  | .nili =>match b with
    | .nili=>match vX y with
      | true=>match P.underlying t with
        | some (.interface _)=>match op with
          | .eql=>some (.bool true)
          | .neq=>some (.bool false)
          |_=>none
        |_=>none
      |false=>none
    |_=>none
  | .ifc _ _=>match b with
    | .nili=>match P.underlying t with
      | some (.interface _)=>match op with
        | .eql=>some (.bool false)
        | .neq=>some (.bool true)
        |_=>none
      |_=>none
    | .ifc _ _=>A7 P op t a b
    |_=>none
  |a=>ua P op t a b
def E9{P:IW} {x y:Operand} {a b r:AV} {u v:Value} (h:xY P op t y a b=some r) (ha:VR I a u) (hb:VR I b v):
  ze P (do eqGuard op t x y u v;binOp op t u v) I r:=by
 unfold xY at h;split at h
 ·split at h
  ·split at h
   ·rename_i hy;split at h
    ·rename_i ms hd;cases ha;cases hb;obtain⟨c,rfl⟩:∃c,y= .const c:=by cases y<;>first|exact⟨_,rfl⟩|cases hy
     have hg:∀o w,(eqGuard o t x (.const c) .nilIface .nilIface).run P w= .ok () w:=λo w=>(by unfold eqGuard;cases o<;>cases x<;>rfl);obtain⟨e1,e2⟩:=binOp_eql (t:=t) (a:= .nilIface) (b:= .nilIface) (by simp) (by simp) (by simp) (by simp);have q:∀w,(Op.equal t .nilIface .nilIface).run P w= .ok true w:=λw=>Z1 hd w _ λn=>(by simp[Op.equalIn,run_underlying hd,Result.andThen]);cases op<;>simp only at h<;>try (cases h;done)
     ·cases h;exact⟨_,λw=>by rw[e1];simp[hg .eql w,q w,Result.andThen], .bool _⟩
     ·cases h;exact⟨_,λw=>by rw[e2];simp[hg .neq w,q w,Result.andThen], .bool _⟩
    ·cases h
   ·cases h
  ·cases h
 ·split at h
  ·split at h
   ·rename_i ms hd;have main:∀tt vv,ze P (do eqGuard op t x y (.iface tt vv) .nilIface;binOp op t (.iface tt vv) .nilIface) I r:=by
     intro tt vv;have hg:∀o w,(eqGuard o t x y (.iface tt vv) .nilIface).run P w= .ok () w:=λo w=>(by unfold eqGuard;cases o<;>rfl);obtain⟨e1,e2⟩:=binOp_eql (t:=t) (a:= .iface tt vv) (b:= .nilIface) (by simp) (by simp) (by simp) (by simp);have q:∀w,(Op.equal t (.iface tt vv) .nilIface).run P w= .ok false w:=λw=>Z1 hd w _ λn=>(by simp[Op.equalIn,run_underlying hd,Result.andThen]);cases op<;>simp only at h<;>try (cases h;done)
     ·cases h;exact⟨_,λw=>by rw[e1];simp[hg .eql w,q w,Result.andThen], .bool _⟩
     ·cases h;exact⟨_,λw=>by rw[e2];simp[hg .neq w,q w,Result.andThen], .bool _⟩
    cases hb;cases ha with
    |ifc hz=>exact main _ _
   ·cases h
  ·exact qb3 h ha hb
  ·cases h
 ·exact qep h ha hb
def wW:List (Int×Nat×Int×Int)->Int
 | []=>0
 | (c,_,lo,hi)::l=>Int.add (match yp c 0 with|true=>Int.mul c hi|false=>Int.mul c lo) (wW l)
def Jm:List (Int×Nat×Int×Int)->Int
 | []=>0
 | (c,_,lo,hi)::l=>Int.add (match yp c 0 with|true=>Int.mul c lo|false=>Int.mul c hi) (Jm l)
def qjp{a b:Int} (h:yp a b=true):a<b:=by rw[Vg]at h;exact of_decide_eq_true h
def qjo{a b:Int} (h:yp a b=false):b<=a:=by rw[Vg]at h;have:=of_decide_eq_false h;omega
def LR.bounds{l n} (h:LR I l n):wW l<=n/\n<=Jm l:=by
  induction h with
  |nil=>exact⟨Int.le_refl _,Int.le_refl _⟩
  | @cons c id lo hi v l n h h1 h2 t ih=>
    simp only[wW,Jm];cases hc:yp c 0 with
    | true=>
      have:=qjp hc;have a1:c*hi<=c*v:=Int.mul_le_mul_of_nonpos_left (by omega) h2;have a2:c*v<=c*lo:=Int.mul_le_mul_of_nonpos_left (by omega) h1;exact⟨Int.add_le_add a1 ih.1,Int.add_le_add a2 ih.2⟩
    | false=>
      have:=qjo hc;have a1:c*lo<=c*v:=Int.mul_le_mul_of_nonneg_left h1 this;have a2:c*v<=c*hi:=Int.mul_le_mul_of_nonneg_left h2 this;exact⟨Int.add_le_add a1 ih.1,Int.add_le_add a2 ih.2⟩
def Vm{a b:Int} (h:yj a b=true):a=b:=by rw[FB]at h;exact of_decide_eq_true h
def S4(s:Int):List (Int×Nat×Int×Int)->List (Int×Nat×Int×Int)
 | []=>[]
 | (c,id,lo,hi)::l=>(Int.mul s c,id,lo,hi)::S4 s l
def qi2{s:Int} {l n} (h:LR I l n):LR I (S4 s l) (s*n):=by
  induction h with
  |nil=>rw[Int.mul_zero];exact .nil
  | @cons c id lo hi v l n h h1 h2 t ih=>
    have:=LR.cons (c:=Int.mul s c) h h1 h2 ih;have e:Int.mul s c*v+s*n=s*(c*v+n):=(by show s*c*v+s*n=_;rw[Int.mul_add,Int.mul_assoc]);rw[e]at this;exact this
def x5(p:Int):List (Int×Nat×Int×Int)->List (Int×Nat×Int×Int)×List (Int×Nat×Int×Int)
  | []=>([],[])
  | (c,id,lo,hi)::l=>match yj (Int.emod c p) 0 with
    |true=>((Int.ediv c p,id,lo,hi)::(x5 p l).1,(x5 p l).2)
    |false=>((x5 p l).1,(c,id,lo,hi)::(x5 p l).2)
def qfc{p:Int} {l n} (h:LR I l n):∃a b,LR I (x5 p l).1 a/\LR I (x5 p l).2 b/\n=p*a+b:=by
  induction h with
  |nil=>exact⟨0,0, .nil, .nil,by rw[Int.mul_zero,Int.add_zero]⟩
  | @cons c id lo hi v l n h h1 h2 t ih=>
    obtain⟨a,b,g1,g2,rfl⟩:=ih;simp only[x5];cases hz:yj (Int.emod c p) 0 with
    | true=>
      have hz:c % p=0:=Vm hz;refine⟨_,_, .cons (c:=Int.ediv c p) h h1 h2 g1,g2,?_⟩;have hc:p*Int.ediv c p=c:=by have:=Int.mul_ediv_add_emod c p;rw[hz,Int.add_zero]at this;exact this
      rw[Int.mul_add,←Int.mul_assoc,hc,Int.add_assoc]
    | false=>
      refine⟨_,_,g1, .cons h h1 h2 g2,?_⟩;omega
def Ey(k:IntKind) (c:Int):List (Int×Nat×Int×Int)->AV
 | []=> .int k c
 |l=> .lin k c l
variable {k:IntKind}
def sY{c:Int} {l n} (h:LR I l n):VR I (Ey k c l) (.int k (c+n)):=by
 cases h with
 |nil=>rw[Int.add_zero];exact .int _ _
 |cons h h1 h2 t=>exact .lin (.cons h h1 h2 t)
def Z_:IntKind->Option (Int×Int)
 | .i64=>some (18446744073709551616, -9223372036854775808)
 | .u64=>some (18446744073709551616,0)
 | .i32=>some (4294967296, -2147483648)
 | .u32=>some (4294967296,0)
 | .u8=>some (256,0)
 |_=>none
def qc5{w m n q:Int} (h:Z_ k=some (w,m)) (h1:m<=n- q*w) (h2:n- q*w<m+w):k.wrap n=n- q*w:=by
 cases k<;>simp only[Z_,Option.some.injEq,Prod.mk.injEq,reduceCtorEq]at h;all_goals
  obtain⟨rfl,rfl⟩:=h;simp only[IntKind.wrap,IntKind.bits,IntKind.signed];simp;omega
def qdq{w m n q:Int} (h:Z_ k=some (w,m)):k.wrap (n+w*q)=k.wrap n:=by
 cases k<;>simp only[Z_,Option.some.injEq,Prod.mk.injEq,reduceCtorEq]at h;all_goals
  obtain⟨rfl,rfl⟩:=h;simp only[IntKind.wrap,IntKind.bits,IntKind.signed];simp;try omega
def Gd(w m c:Int) (l:List (Int×Nat×Int×Int)):Option Int:=
 match yj (Int.ediv (Int.sub (Int.add c (wW l)) m) w) (Int.ediv (Int.sub (Int.add c (Jm l)) m) w)with
 |true=>some (Int.sub c (Int.mul (Int.ediv (Int.sub (Int.add c (wW l)) m) w) w))
 |false=>none
def Wj{w m c d:Int} {l n} (hk:Z_ k=some (w,m)) (h:LR I l n) (e:Gd w m c l=some d):k.wrap (c+n)=d+n:=by
 unfold Gd at e;split at e
 ·rename_i hq;have hq:(c+wW l- m) / w=(c+Jm l- m) / w:=Vm hq;cases e;have hb:=h.bounds;have hw:0<w:=by cases k<;>simp[Z_]at hk<;>omega
  have e:c- (c+wW l- m) / w*w+n=c+n- (c+wW l- m) / w*w:=by omega
  show k.wrap (c+n)=c- (c+wW l- m) / w*w+n;rw[e];have a1:(c+wW l- m) / w*w<=c+wW l- m:=Int.ediv_mul_le _ (by omega);have a2:c+Jm l- m<((c+Jm l- m) / w+1)*w:=Int.lt_ediv_add_one_mul_self _ hw;rw[←hq,Int.add_mul,Int.one_mul]at a2;exact qc5 hk (by omega) (by omega)
 ·cases e
def F6(k:IntKind) (c:Int) (l:List (Int×Nat×Int×Int)):Option AV:=
  match Z_ k with
  | some (w,m)=>match Gd w m c l with
    |some d=>some (Ey k d l)
    | none=>match Gd w m c (x5 w l).2 with
      |some d=>some (Ey k d (x5 w l).2)
      |none=>none
  |none=>none
def rV{c:Int} {l n} {r:AV} (h:LR I l n) (e:F6 k c l=some r):VR I r (.int k (k.wrap (c+n))):=by
 unfold F6 at e;split at e
 ·rename_i w m hk;split at e
  ·rename_i d hd;cases e;rw[Wj hk h hd];exact sY h
  ·split at e
   ·rename_i d hd;cases e;obtain⟨a,b,g1,g2,rfl⟩:=qfc (p:=w) h;have:c+(w*a+b)=(c+b)+w*a:=(by omega);rw[this,qdq hk,Wj hk g2 hd];exact sY g2
   ·cases e
 ·cases e
def Wq(op:BinOp) (a b:AV):Option AV:=none
def qfr{P:IW} {a b r:AV} {u v:Value} (h:Wq op a b=some r) (ha:VR I a u) (hb:VR I b v):
  ze P (binOp op t u v) I r/\∃k n,u= .int k n:=by unfold Wq at h;cases h
def Sc(P:IW) (op:BinOp) (t:TypeId) (y:Operand) (a b:AV):Option AV:=
  match a with
  | .lin _ _ _=>Wq op a b
  | _=>match b with
    | .lin _ _ _=>Wq op a b
    |_=>xY P op t y a b
def qce{P:IW} {x y:Operand} {a b r:AV} {u v:Value} (h:Sc P op t y a b=some r) (ha:VR I a u) (hb:VR I b v):
  ze P (do eqGuard op t x y u v;binOp op t u v) I r:=by
 have main:Wq op a b=some r->ze P (do eqGuard op t x y u v;binOp op t u v) I r:=λh=>by obtain⟨⟨z,h1,h2⟩,k,n,rfl⟩:=qfr (P:=P) (t:=t) h ha hb;refine⟨z,λw=> ?_,h2⟩;have hg:=QT (P:=P) (op:=op) (t:=t) (x:=x) (y:=y) (a:= .int k n) (b:=v) (by simp) (by simp) w;simp[hg,h1 w,Result.andThen]
 unfold Sc at h;split at h
 ·exact main h
 ·split at h
  ·exact main h
  ·exact E9 h ha hb
def SR(op:UnOp) (k:IntKind) (c:Int) (l:List (Int×Nat×Int×Int)):Option AV:=
 match op with
 | .neg=>F6 k (Int.sub 0 c) (S4 (-1) l)
 |_=>none
def qfs{P:IW} {op:UnOp} {k c l r} {u:Value} (h:SR op k c l=some r) (ha:VR I (.lin k c l) u):ze P (Op.unary op u) I r:=by
  unfold SR at h;split at h
  · cases ha with
    | @lin _ _ _ n hl=>
      refine⟨_,λw=> ?_,rV (qi2 (s:= -1) hl) h⟩;have e:Int.sub 0 c+ -1*n=0- (c+n):=(by show 0- c+ -1*n=_;omega);rw[e];simp only[Op.unary,Op.intArith,Sem.run_pure]
  · cases h
def Wu(P:IW) (f:Value->Sem Value) (a:AV):Option AV:=
  match u9 a with
  | some v=>match y5 P (f v)with
    |some u=>z8 u
    |none=>none
  |none=>none
variable {I:In} {u:Value}
def AB{P:IW} {f:Value->Sem Value} {a r:AV} (h:Wu P f a=some r) (ha:VR I a u):ze P (f u) I r:=by
 unfold Wu at h;split at h
 ·rename_i v hv;rw[Y1 hv ha];split at h
  ·rename_i z hz;exact E0 hz h
  ·cases h
 ·cases h
def Sd(P:IW) (s d:TypeId) (a:AV):Option AV:=
  match a with
  | .int _ n=>match P.underlying s,P.underlying d with
    | some _,some (.int k)=>(match fits k n with
      |true=>some (.int k n)
      |false=>Wu P (convert s d) a)
    |_,_=>Wu P (convert s d) a
  | .str l=>match P.underlying s,P.underlying d with
    |some _,some .string=>some (.str l)
    |_,_=>none
  | .lin _ c l=>match P.underlying s,P.underlying d with
    |some _,some (.int k)=>F6 k c l
    |_,_=>none
  |_=>none
def MN(P:IW) (op:UnOp) (a:AV):Option AV:=
 match a with
 | .lin k c l=>SR op k c l
 |_=>Wu P (Op.unary op) a
def qgz{P:IW} {op:UnOp} {a r:AV} (h:MN P op a=some r) (ha:VR I a u):ze P (Op.unary op u) I r:=by
 unfold MN at h;split at h
 ·exact qfs h ha
 ·exact AB h ha
def qcf{P:IW} {s d:TypeId} {a r:AV} (h:Sd P s d a=some r) (ha:VR I a u):ze P (convert s d u) I r:=by
 unfold Sd at h;split at h
 ·split at h
  ·rename_i x k hs hd;split at h
   ·rename_i hf;cases h;cases ha;exact⟨_,λw=>by simp[convert,run_underlying hs,run_underlying hd,Result.andThen,Conv.intToInt,EZ hf], .int _ _⟩
   ·exact AB h ha
  ·exact AB h ha
 ·split at h
  ·rename_i l x hs hd;cases h;cases ha;refine⟨_,λw=> ?_, .str _⟩;unfold convert;simp[run_underlying hs,run_underlying hd,Result.andThen]
  ·cases h
 ·split at h
  ·rename_i x k hs hd;cases ha with
   |lin hl=>exact⟨_,λw=>by simp[convert,run_underlying hs,run_underlying hd,Result.andThen,Conv.intToInt],rV hl h⟩
  ·cases h
 ·cases h
def ki(t:T AV):List Operand->Option (List AV)
  | []=>some []
  | x ::l=>match ev t x with
    | some a=>match ki t l with
      |some r=>some (a::r)
      |none=>none
    |none=>none
def k_{I:In} {t:T AV} {a:Act} (h:TR I t a.tmps):∀{l:List Operand} {r},ki t l=some r->VRs I r (l.map a.eval)
  | [],r,e=>by simp[ki]at e;subst e;exact .nil
  | x ::l,r,e=>by
    simp only[ki]at e;split at e
    · rename_i v hv;split at e
      · rename_i y hy;cases e;exact .cons (qj h hv) (k_ h hy)
      · cases e
    · cases e
def amk(t:T AV) (fn:Fn) (first caps:List Operand):Option AV:=
 match fn,first with
 | .func f,[]=>match ki t caps with|some l=>some (.fn f l)|none=>none
 | .func f,x::xs=>match ki t (x::xs),ki t caps with|some a,some l=>some (.bfn f a l)|_,_=>none
 |_,_=>none
def AE(P:IW) (s:TypeId) (a:AV) (f:Nat):Option AV:=
  match a,P.underlying s with
  | .ptr id off,some (.struct fs)=>match fs.toList[f]? with
    | some fd=>match P.info? fd.type with
      |some i=>if i.size=0 then none else some (.ptr id (off+fd.offset))
      |none=>none
    |none=>none
  |_,_=>none
variable {t:TypeId}
def run_sizeOf{P:IW} {i:TypeInfo} (h:P.info? t=some i) (w:World):(sizeOf t).run P w= .ok i.size w:=by simp[sizeOf,typeInfo,program,Sem.run,h,bind,Sem.bind,pure]
def qa0{P:IW} {s:TypeId} {a r:AV} {f:Nat} (h:AE P s a f=some r) (ha:VR I a u):ze P (Instr.fieldAt s u f) I r:=by
  unfold AE at h;split at h
  · rename_i id off fs hs;split at h
    · rename_i fd hf;split at h
      · rename_i i hi;split at h
        · cases h
        · rename_i hz;cases h;cases ha with
          | @ptr _ _ bb ss tt hI=>
            refine⟨.pointer (some ⟨bb,ss+off+fd.offset,none⟩),λw=> ?_, .ptr' hI (by omega)⟩;have hf':fs[f]? =some fd:=(by simpa using hf);simp[Instr.fieldAt,run_underlying hs,hf',Instr.sureAddr,fieldPlace,run_sizeOf hi,hz,Result.andThen,j6]
      · cases h
    · cases h
  · cases h
def EO(P:IW) (t:TypeId) (x i:AV):Option AV:=
  match i with
  | .int k (.ofNat n)=>
    match P.underlying t,x with
    |some (.array len e), .ptr id off=>if n<len then(match P.info? e with|some j=>some (.ptr id (off+n*j.size))|none=>none)else none
    |some (.slice e), .sl id off len _|some (.slice e), .gsl id off len _=>if n<len then(match P.info? e with|some j=>some (.ptr id (off+n*j.size))|none=>none)else none
    |_,_=>none
  |_=>none
def q5j{P:IW} {x i r:AV} {u v:Value} (h:EO P t x i=some r) (hx:VR I x u) (hi:VR I i v):ze P (Instr.indexAt t u v) I r:=by
  unfold EO at h;split at h
  · rename_i k n;cases hi;split at h
    · rename_i len e id off ht;split at h
      · rename_i hl;split at h
        · rename_i j hj;cases h;cases hx with
          | @ptr _ _ bb ss tt hI=>
            refine⟨.pointer (some ⟨bb,ss+off+n*j.size,none⟩),λw=> ?_, .ptr' hI (by omega)⟩;have h1:(0:Int)<=(n:Int)/\(n:Int)<len:=(by omega);simp[Instr.indexAt,asIntOf,run_underlying ht,Instr.sureAddr,run_sizeOf hj,Result.andThen,j6];intro hc;omega
        · cases h
      · cases h
    · rename_i e id off len cap ht;split at h
      · rename_i hl;split at h
        · rename_i j hj;cases h;cases hx with
          | @sl _ _ _ _ bb ss tt hI=>
            refine⟨.pointer (some ⟨bb,ss+off+n*j.size,none⟩),λw=> ?_, .ptr' hI (by omega)⟩;have h1:(0:Int)<=(n:Int)/\(n:Int)<len:=(by omega);simp[Instr.indexAt,asIntOf,run_underlying ht,Instr.sureAddr,run_sizeOf hj,Result.andThen,j6];intro hc;omega
        · cases h
      · cases h
    · rename_i e id off len esz ht;split at h
      · rename_i hl;split at h
        · rename_i j hj;cases h;cases hx with
          | @gsl _ _ _ _ bb ss tt c o hI g1 g2 g3=>
            have ho:o=ss+off:=by
              rcases g3 with g3|g3
              · exact g3
              · omega
            subst ho;refine⟨.pointer (some ⟨bb,ss+off+n*j.size,none⟩),λw=> ?_, .ptr' hI (by omega)⟩;have h1:(0:Int)<=(n:Int)/\(n:Int)<len:=(by omega);simp[Instr.indexAt,asIntOf,run_underlying ht,Instr.sureAddr,run_sizeOf hj,Result.andThen,j6];intro hc;omega
        · cases h
      · cases h
    · cases h
  · cases h
def apart(P:IW) (t:TypeId) (l:List AV) (off:Nat):Option AV:=
 match shapeOf P t with
 |some (some n)=>match takeN l off n with|some x=>some (.agg x)|none=>none
 |some none=>match l.drop off with|x::_=>some x| []=>none
 |none=>none
def rE{P:IW} {l:List AV} {vs:List Value} {off:Nat} {r:AV} (h:apart P t l off=some r) (hl:VRs I l vs):ze P (part t ⟨vs⟩ off) I r:=by
  unfold apart at h;split at h
  · rename_i n hs;split at h
    · rename_i x hx;cases h;unfold takeN at hx;simp only at hx;split at hx
      · rename_i hn;cases hx;have hr:=VRs.take (VRs.drop hl off) n;refine⟨.agg ⟨(vs.drop off).take n⟩,λw=> ?_, .agg hr⟩;obtain⟨h1,h2⟩:=K1 (P:=P) (w:=w) hs;simp[part,h1,h2 n rfl,Result.andThen]
      · cases hx
    · cases h
  · rename_i hs;split at h
    · rename_i x r hx;cases h;have hd:=VRs.drop hl off;rw[hx]at hd;cases hvs:vs.drop off with
      |nil=>rw[hvs]at hd;cases hd
      | cons v vr=>
        rw[hvs]at hd;cases hd with
        | cons hv _=>
          refine⟨v,λw=> ?_,hv⟩;obtain⟨h1,h2⟩:=K1 (P:=P) (w:=w) hs;have hvo:vs[off]? =some v:=by have:(vs.drop off)[0]? =some v:=(by rw[hvs];rfl);rw[List.getElem?_drop]at this;simpa using this
          simp[part,h1,Result.andThen,hvo]
    · cases h
  · cases h
def SB(P:IW) (t:TypeId) (a:AV) (f:Nat):Option AV:=
  match a,P.underlying t with
  | .agg l,some (.struct fs)=>match fs.toList[f]? with
    |some fd=>apart P fd.type l fd.offset
    |none=>none
  |_,_=>none
def qet{P:IW} {a r:AV} {f:Nat} (h:SB P t a f=some r) (ha:VR I a u):ze P (Instr.field t u f) I r:=by
  unfold SB at h;split at h
  · rename_i l fs ht;split at h
    · rename_i fd hf;cases ha with
      | agg hl=>
        obtain⟨v,h1,h2⟩:=rE h hl;have hf':fs[f]? =some fd:=(by simpa using hf);exact⟨v,λw=>by simp[Instr.field,run_underlying ht,hf',asAgg,h1 w,Result.andThen],h2⟩
    · cases h
  · cases h
def AH(P:IW) (t:TypeId) (x i:AV):Option AV:=
  match i with
  | .int k (.ofNat n)=>
    match P.underlying t,x with
    |some .string, .str l=>match nth l n with|some b=>some (.int .u8 (.ofNat (b % 256)))|none=>none
    |some (.array len e), .agg l=>if n<len then(match P.info? e with|some j=>apart P e l (n*j.size)|none=>none)else none
    |_,_=>none
  |_=>none
def qa3{P:IW} {x i r:AV} {u v:Value} (h:AH P t x i=some r) (hx:VR I x u) (hi:VR I i v):ze P (Instr.index t u v) I r:=by
  unfold AH at h;split at h
  · rename_i k n;cases hi;split at h
    · rename_i l ht;split at h
      · rename_i b hb;cases h;cases hx;refine⟨_,λw=> ?_, .int _ _⟩;have hg:(mkS l)[n]? =some (UInt8.ofNat b):=(by rw[qft,←jY,hb];rfl);have h0:(if(0:Int)<=(n:Int)then(mkS l)[(n:Int).toNat]? else none)=some (UInt8.ofNat b):=(by rw[if_pos (by omega)];exact hg);simp only[Instr.index,asIntOf,Sem.run_bind,Sem.run_pure,Result.andThen,run_underlying ht,Int.ofNat_eq_natCast,h0,UInt8.toNat_ofNat']
      · cases h
    · rename_i len e l ht;split at h
      · rename_i hl;split at h
        · rename_i j hj;cases hx with
          | agg hl'=>
            obtain⟨z,h1,h2⟩:=rE h hl';refine⟨z,λw=> ?_,h2⟩;simp[Instr.index,asIntOf,run_underlying ht,run_sizeOf hj,h1 w,Result.andThen];intro hc;omega
        · cases h
      · cases h
    · cases h
  · cases h
def SA(x:AV) (i:Nat):Option AV:=
 match x with
 | .tup l=>nth l i
 |_=>none
def qes{P:IW} {x r:AV} {i:Nat} (h:SA x i=some r) (hx:VR I x u):ze P (Instr.extract u i) I r:=by
  unfold SA at h;split at h
  · cases hx with
    | tup hl=>
      rw[jY]at h;obtain⟨v,h1,h2⟩:=VRs.get hl _ _ h;exact⟨v,λw=>by simp[Instr.extract,h1],h2⟩
  · cases h
inductive VO(I:In):Option AV->Option Value->Prop
 |none:VO I none none
 |some {a v} (h:VR I a v):VO I (some a) (some v)
def AI(P:IW) (t:TypeId) (x:AV) (lo hi:Option AV):Option AV:=none
def qa9{P:IW} {x r:AV} {lo hi:Option AV} {a b:Option Value} (e:AI P t x lo hi=some r) (hx:VR I x u) (hl:VO I lo a) (hh:VO I hi b):
  ze P (Instr.sliceAt t u a b none) I r:=by unfold AI at e;cases e
def Z3:AV->List AV
  | .agg l=>l
  | .sv v=>match v.oneCell' with
    |true=>[.sv v]
    |false=>v.cells.toList.map .sv
  |a=>[a]
def VRs.svs{I:In}:∀l:List Value,VRs I (l.map .sv) l
 | []=> .nil
 |v::l=> .cons (.sv v) (VRs.svs l)
def X7{I:In} {a:AV} {v:Value} (h:VR I a v):VRs I (Z3 a) v.cells.toList:=by
 cases h;case sv=>
  unfold Z3;simp only;split
  ·rename_i h1;cases v<;>first|exact .cons (.sv _) .nil|simp[Value.oneCell']at h1
  ·exact VRs.svs _
 case agg=>assumption
 all_goals exact .cons (by constructor<;>assumption) .nil
def Z9(place:Nat->Option (Nat×Nat)) (l:List AV):List (Nat×AV)->Option (List AV)
  | []=>some l
  | (i,a)::rest=>
    match place i with
    |none=>none
    | some (off,size)=>
      let x:=Z3 a
      if x.length=size then(if off+size<=l.length then Z9 place (spl l off x) rest else none)else none
inductive PR(I:In):List (Nat×AV)->List (Nat×Value)->Prop
 |nil:PR I [] []
 |cons {i a v l vs} (h:VR I a v) (t:PR I l vs):PR I ((i,a)::l) ((i,v)::vs)
def rF(off:Nat):∀(xs:List Value) (k:Nat) (l:List Value),(xs.zipIdx k).foldl (λ(cs:Array Value) (c,j)=>cs.setIfInBounds (off+j) c) ⟨l⟩=(⟨spl l (off+k) xs⟩:Array Value)
  | [],_,_=>rfl
  | x::xs,k,l=>by simp only[List.zipIdx_cons,List.foldl_cons,spl];have:(⟨l⟩:Array Value).setIfInBounds (off+k) x=⟨l.set (off+k) x⟩:=(by simp);rw[this,rF off xs (k+1)];rfl
def qat(off:Nat) (xs:Array Value) (l:List Value):(xs.zipIdx).foldl (λ(cs:Array Value) (c,j)=>cs.setIfInBounds (off+j) c) ⟨l⟩=(⟨spl l off xs.toList⟩:Array Value):=by have:=rF off xs.toList 0 l;rw[Nat.add_zero]at this;rw[←this,←Array.foldl_toList];congr 1;simp
def Fe{I:In} (place:Nat->Option (Nat×Nat)):∀{parts:List (Nat×AV)} {ps:List (Nat×Value)},PR I parts ps->∀(l r:List AV) (vs:List Value),VRs I l vs->Z9 place l parts=some r->∃us,Instr.fill place ⟨vs⟩ ps=some ⟨us⟩/\VRs I r us
  |_,_, .nil=>λl r vs hl h=>by simp[Z9]at h;subst h;exact⟨vs,rfl,hl⟩
  | _, _, .cons (i:=i) (v:=v) hv ht=>λl r vs hl h=>by
    simp only[Z9]at h;split at h
    · cases h
    · rename_i off size hp;split at h
      · rename_i h1;split at h
        · rename_i h2;have hc:=X7 hv;have hsz:v.cells.size=size:=(by rw[←Array.length_toList,←hc.len];exact h1);have hvl:vs.length=l.length:=hl.len.symm;obtain⟨us,h3,h4⟩:=Fe place ht _ _ _ (Az hc off hl) h;refine⟨us,?_,h4⟩;have hlen:(⟨vs⟩:Array Value).size=vs.length:=rfl;simp only[Instr.fill,hp,hsz,hlen,hvl];rw[if_neg (by simp;omega),qat];exact h3
        · cases h
      · cases h
def uY(P:IW) (t:TypeId):Option (List AV):=
  match P.info? t with
  | some i=>match i.zero with
    |some z=>ofVals z.cells.toList
    |none=>none
  |none=>none
variable {t:TypeId}
def YY{P:IW} {l:List AV} (h:uY P t=some l) (I:In):∃z,(∀w,(zeroValue t).run P w= .ok z w)/\VRs I l z.cells.toList:=by
 unfold uY at h;split at h
 ·rename_i i hi;split at h
  ·rename_i z hz;exact⟨z,λw=>by simp[zeroValue,typeInfo,program,Sem.run,hi,bind,Sem.bind,pure,hz],ofVals_rel I _ _ h⟩
  ·cases h
 ·cases h
def K_(t:T AV):List (Nat×Operand)->Option (List (Nat×AV))
  | []=>some []
  | (i,x)::l=>match ev t x with
    | some a=>match K_ t l with
      |some r=>some ((i,a)::r)
      |none=>none
    |none=>none
def EX{I:In} {t:T AV} {a:Act} (h:TR I t a.tmps):∀{l:List (Nat×Operand)} {r},K_ t l=some r->PR I r (l.map λ(i,x)=>(i,a.eval x))
  | [],r,e=>by simp[K_]at e;subst e;exact .nil
  | (i,x)::l,r,e=>by
    simp only[K_]at e;split at e
    · rename_i v hv;split at e
      · rename_i y hy;cases e;exact .cons (qj h hv) (EX h hy)
      · cases e
    · cases e
def places(P:IW):List Field->Option (List (Nat×Nat))
  | []=>some []
  | f ::l=>match P.info? f.type with
    | some i=>match places P l with
      |some r=>some ((f.offset,i.size)::r)
      |none=>none
    |none=>none
inductive All2{α β:Type} (R:α->β->Prop):List α->List β->Prop
 |nil:All2 R [] []
 |cons {x y l r} (h:R x y) (t:All2 R l r):All2 R (x::l) (y::r)
def rJ{α β:Type} {P:IW} (f:α->Sem β):∀(l:List α) (r:List β),(All2 (λx y=>∀w,(f x).run P w= .ok y w) l r)->∀w,(l.mapM f).run P w= .ok r w
  | [],r,h,w=>by cases h;simp
  | x::l,r,h,w=>by
    cases h with
    |cons h1 h2=>simp[h1 w,rJ f l _ h2 w,Result.andThen]
def qb7{α β:Type} {P:IW} (f:α->Sem β) (l:Array α) (r:List β) (h:All2 (λx y=>∀w,(f x).run P w= .ok y w) l.toList r) (w:World):(l.mapM f).run P w= .ok ⟨r⟩ w:=by rw[Array.mapM_eq_mapM_toList];simp[rJ f l.toList r h w,Result.andThen]
def rq{P:IW}:∀{l:List Field} {r},places P l=some r->All2 (λ(x:Field) y=>∀w,((do pure (x.offset,←sizeOf x.type)):Sem (Nat×Nat)).run P w= .ok y w) l r
  | [],r,e=>by simp[places]at e;subst e;exact .nil
  | f ::l,r,e=>by
    simp only[places]at e;split at e
    · rename_i i hi;split at e
      · rename_i y hy;cases e;exact .cons (λw=>by simp[run_sizeOf hi,Result.andThen]) (rq hy)
      · cases e
    · cases e
def AC(P:IW) (t:TypeId) (parts:List (Nat×AV)):Option AV:=
  match uY P t with
  | some z=>match P.underlying t with
    | some (.struct fs)=>match places P fs.toList with
      |some pl=>match Z9 (λi=>nth pl i) z parts with|some x=>some (.agg x)|none=>none
      |none=>none
    | some (.array _ e)=>match P.info? e with
      |some i=>match Z9 (λk=>some (k*i.size,i.size)) z parts with|some x=>some (.agg x)|none=>none
      |none=>none
    |_=>none
  |none=>none
def q9t{P:IW} {I:In} {parts:List (Nat×AV)} {ps:Array (Nat×Value)} {r:AV} (h:AC P t parts=some r) (hp:PR I parts ps.toList):ze P (Instr.build t ps) I r:=by
 unfold AC at h;split at h
 ·rename_i z hz;obtain⟨zv,h1,h2⟩:=YY hz I;split at h
  ·rename_i fs ht;split at h
   ·rename_i pl hpl;split at h
    ·rename_i x hx;cases h;obtain⟨us,h3,h4⟩:=Fe _ hp _ _ _ h2 hx;refine⟨.agg ⟨us⟩,λw=> ?_, .agg h4⟩;have hm:=qb7 (P:=P) (λ(f:Field)=>(do pure (f.offset,←sizeOf f.type):Sem (Nat×Nat))) fs pl (rq hpl) w;have hpl':(λi=>(⟨pl⟩:Array (Nat×Nat))[i]?)=(λi=>nth pl i):=(by funext i;rw[jY];simp);have hcz:zv.cells=⟨zv.cells.toList⟩:=rfl;simp only[Instr.build,Sem.run_bind,h1 w,Result.andThen,run_underlying ht,hm,hpl'];rw[hcz,h3];rfl
    ·cases h
   ·cases h
  ·rename_i n e ht;split at h
   ·rename_i i hi;split at h
    ·rename_i x hx;cases h;obtain⟨us,h3,h4⟩:=Fe _ hp _ _ _ h2 hx;refine⟨.agg ⟨us⟩,λw=> ?_, .agg h4⟩;have hcz:zv.cells=⟨zv.cells.toList⟩:=rfl;simp only[Instr.build,Sem.run_bind,h1 w,Result.andThen,run_underlying ht,run_sizeOf hi];rw[hcz,h3];rfl
    ·cases h
   ·cases h
  ·cases h
 ·cases h
def SC(P:IW) (t:TypeId) (x:AV):Option AV:=
 match P.underlying t,x with
 |some .string, .str l=>some (.int .i64 (.ofNat l.length))
 |some (.slice _), .nsl=>some (.int .i64 0)
 |some (.slice _), .sl _ _ n _|some (.slice _), .gsl _ _ n _=>some (.int .i64 (.ofNat n))
 |some (.array n _),_=>some (.int .i64 (.ofNat n))
 |some (.map ..), .nmap=>some (.int .i64 0)
 |_,_=>none
variable {I:In} {ts:Array TypeId} {ty:TypeId}
def qeu{P:IW} {t:TypeId} {x r:AV} {u:Value} {args:Array Value} (h:SC P t x=some r) (hx:VR I x u) (ht:ts[0]? =some t) (ha:args[0]? =some u):ze P (Builtin.len_ ts ty args) I r:=by
  unfold SC at h;split at h;all_goals (try (rename_i hd))
  all_goals first
    | (cases h;done)
    | (cases h
       cases hx;refine⟨_,λw=> ?_, .int _ _⟩;simp[Builtin.len_,ht,ha,run_underlying hd,Result.andThen,goInt,q0v]
       done)
    | (cases h
       refine⟨_,λw=> ?_, .int _ _⟩;simp[Builtin.len_,ht,ha,run_underlying hd,Result.andThen,goInt,q0v]
       done)
def Aq(b:Builtin) (l:List AV):Option AV:=
 match b,l with
 | .max,[.int k x, .int _ y]=>some (.int k (if y>x then y else x))
 | .min,[.int k x, .int _ y]=>some (.int k (if y<x then y else x))
 |_,_=>none
def E'(P:IW) (b:Builtin) (ts:List TypeId) (l:List AV):Option AV:=
  match b with
  | .len=>match ts,l with
    |t::_,x::_=>SC P t x
    |_,_=>none
  | .cap=>match ts,l with
    |t::_,[.sl _ _ _ c]=>match P.underlying t with|some (.slice _)=>some (.int .i64 (.ofNat c))|_=>none
    |t::_,[.nsl]=>match P.underlying t with|some (.slice _)=>some (.int .i64 0)|_=>none
    |_,_=>none
  | .max| .min=>Aq b l
  | .unsafeSliceData=>match l with
    | [.nsl]=>some .nilp
    | [.sl id off _ c]=>if c=0 then none else some (.ptr id off)
    | [.gsl id off n _]=>if n=0 then none else some (.ptr id off)
    |_=>none
  |_=>none
def tY{P:IW} (ts:List TypeId) (ty:TypeId) (a:Addr) (n c:Nat) (w:World) (h:¬c=0):(Builtin.unsafeSliceData_ ⟨ts⟩ ty ⟨[.slice (some a) n c]⟩).run P w= .ok (.pointer (some a)) w:=by show Sem.run P (if c≠0 then(pure (Value.pointer (some a)):Sem Value)else _) w=_;rw[if_pos h];rfl
variable {vs:List Value}
def ud{a:AV} (h:VRs I [a] vs):∃v,vs=[v]/\VR I a v:=by cases h with|cons h t=>cases t;exact⟨_,rfl,h⟩
def q79{P:IW} {b:Builtin} {l:List AV} {r:AV} {cs:Array Bool} (h:E' P b ts.toList l=some r) (hl:VRs I l vs):FO P (builtin b ts ty cs ⟨vs⟩) I r:=by
  obtain⟨ts⟩:=ts;unfold E' at h;split at h
  · split at h
    · rename_i t _ x _ e1;simp only at e1;subst e1;cases hl with
      |cons h1 h2=>exact(qeu h h1 (by simp) (by simp)).next
    · cases h
  · split at h
    · rename_i t _ id off n c e1;simp only at e1;subst e1;split at h
      · rename_i e he;cases h;obtain⟨v,rfl,hv⟩:=ud hl;cases hv;exact ze.next ⟨_,λw=>by simp[Builtin.cap_,run_underlying he,Result.andThen,goInt], .int _ _⟩
      · cases h
    · rename_i t _ e1;simp only at e1;subst e1;split at h
      · rename_i e he;cases h;obtain⟨v,rfl,hv⟩:=ud hl;cases hv;exact ze.next ⟨_,λw=>by simp[Builtin.cap_,run_underlying he,Result.andThen,goInt], .int _ _⟩
      · cases h
    · cases h
  · unfold Aq at h;split at h
    · rename_i k x k2 y heq;cases h;cases hl with|cons h1 h2=>obtain⟨v,rfl,hv⟩:=ud h2;cases h1;cases hv;exact ze.next ⟨_,λw=>by simp[Builtin.max_,Builtin.max2], .int _ _⟩
    · cases ‹Builtin.max=Builtin.min›
    · cases h
  · unfold Aq at h;split at h
    · cases ‹Builtin.min=Builtin.max›
    · cases h;cases hl with|cons h1 h2=>obtain⟨v,rfl,hv⟩:=ud h2;cases h1;cases hv;exact ze.next ⟨_,λw=>by simp[Builtin.min_,Builtin.min2], .int _ _⟩
    · cases h
  · split at h
    · cases h;obtain⟨v,rfl,hv⟩:=ud hl;cases hv;exact ze.next ⟨_,λw=>rfl, .nilp⟩
    · split at h
      · cases h
      · rename_i hc;cases h;obtain⟨v,rfl,hv⟩:=ud hl;cases hv with
        |sl hI=>exact ze.next ⟨_,λw=>tY ts ty _ _ _ w hc, .ptr hI⟩
    · split at h
      · cases h
      · rename_i hc;cases h;obtain⟨v,rfl,hv⟩:=ud hl;cases hv with
        | @gsl _ _ _ _ _ ss tt c o hI g1 g2 g3=>
          have hz:¬c=0:=(by omega);have ho:o=ss+_:=g3.resolve_right hz;exact ze.next ⟨_,λw=>tY ts ty _ _ _ w hz, .ptr' hI ho⟩
    · cases h
  · cases h
def Yw(t:T AV):Option Operand->Option (Option AV)
  |none=>some none
  | some x=>match ev t x with
    |some a=>some (some a)
    |none=>none
variable {t:T AV}
def sO{a:Act} (h:TR I t a.tmps) {x:Option Operand} {v} (e:Yw t x=some v):VO I v (x.map a.eval):=by
  cases x with
  |none=>simp[Yw]at e;subst e;exact .none
  | some x=>
    simp only[Yw]at e;split at e
    · rename_i y hy;cases e;exact .some (qj h hy)
    · cases e
def SF(P:IW) (xt:TypeId) (a:AV):Option AV:=
 match P.underlying xt with
 |some (.interface _)=>none
 |some _=>some (.ifc xt a)
 |none=>none
def qew{P:IW} {xt:TypeId} {a r:AV} {v:Value} (h:SF P xt a=some r) (hv:VR I a v):ze P (Instr.makeInterface xt v) I r:=by
 unfold SF at h;split at h
 ·cases h
 ·rename_i d hn hd;cases h;refine⟨.iface xt v,λw=> ?_, .ifc hv⟩;unfold Instr.makeInterface;simp only[Sem.run_bind,run_underlying hd,Result.andThen];cases d with
  |interface ms=>exact(hn ms rfl).elim
  |_=>rfl
 ·cases h
def jS(P:IW) (t:T AV) (o:Oper):Option AV:=
  match o.op with
  | .move x| .assign x=>ev t x
  | .pick c a b=>match ev t c with
    |some (.bool true)=>ev t a
    |some (.bool false)=>ev t b
    |_=>none
  | .build ty parts=>match K_ t parts.toList with
    |some ps=>AC P ty ps
    |none=>none
  | .nilCheck x=>match ev t x with
    |some (.ptr i f)=>some (.ptr i f)
    |some (.fn f c)=>some (.fn f c)
    |some (.ifc f c)=>some (.ifc f c)
    |some (.bfn f b c)=>some (.bfn f b c)
    |_=>none
  | .binOp op xt x y _=>match ev t x,ev t y with
    |some a,some b=>Sc P op xt y a b
    |_,_=>none
  | .unOp op _ x=>match ev t x with
    |some a=>MN P op a
    |none=>none
  | .convert s d x=>match ev t x with
    |some a=>Sd P s d a
    |none=>none
  | .makeInterface xt x=>match ev t x with
    |some a=>SF P xt a
    |none=>none
  | .makeFunc fn first caps=>amk t fn first.toList caps.toList
  | .slice ty x lo hi mx=>match mx,ev t x,Yw t lo,Yw t hi with
    |none,some a,some l,some h=>AI P ty a l h
    |_,_,_,_=>none
  | .fieldAddr s x f=>match ev t x with
    |some a=>AE P s a f
    |none=>none
  | .field xt x f=>match ev t x with
    |some a=>SB P xt a f
    |none=>none
  | .indexAddr ty x i=>match ev t x,ev t i with
    |some a,some b=>EO P ty a b
    |_,_=>none
  | .index ty x i=>match ev t x,ev t i with
    |some a,some b=>AH P ty a b
    |_,_=>none
  | .extract x i=>match ev t x with
    |some a=>SA a i
    |none=>none
  | .call c=>match c.callee with
    | .builtin b=>match ki t c.args.toList with
      |some l=>E' P b c.argTypes.toList l
      |none=>none
    |_=>none
  |_=>none
def qhy{P:IW} {a:Act} {o:Oper} {r:AV} (h:jS P t o=some r) (ht:TR I t a.tmps):FO P (execOp a.eval o) I r:=by
  obtain⟨dst,op,ty,pos,after,guard⟩:=o;cases op with
  |move x=>exact⟨_,λw=>rfl,qj ht h⟩
  |assign x=>exact⟨_,λw=>rfl,qj ht h⟩
  | pick c x y=>
    simp only[jS]at h;split at h
    · rename_i hc;have h1:=qj ht hc;generalize hcv:a.eval c=cv at h1;cases h1;exact⟨_,λw=>by simp[execOp,hcv,asBool,Result.andThen],qj ht h⟩
    · rename_i hc;have h1:=qj ht hc;generalize hcv:a.eval c=cv at h1;cases h1;exact⟨_,λw=>by simp[execOp,hcv,asBool,Result.andThen],qj ht h⟩
    · cases h
  | build bt parts=>
    simp only[jS]at h;split at h
    · rename_i ps hps;have h1:=EX ht hps;exact(q9t (ps:=parts.map λ(i,x)=>(i,a.eval x)) h (by simpa using h1)).next
    · cases h
  | nilCheck x=>
    simp only[jS]at h;split at h
    · rename_i hx;cases h;have h1:=qj ht hx;generalize hv:a.eval x=v at h1;cases h1 with
      |ptr hI=>exact⟨_,λw=>by simp[execOp,hv], .ptr hI⟩
    · rename_i hx;cases h;have h1:=qj ht hx;generalize hv:a.eval x=v at h1;cases h1 with
      |fn hI=>exact⟨_,λw=>by simp[execOp,hv], .fn hI⟩
    · rename_i hx;cases h;have h1:=qj ht hx;generalize hv:a.eval x=v at h1;cases h1 with
      |ifc hI=>exact⟨_,λw=>by simp[execOp,hv], .ifc hI⟩
    · rename_i hx;cases h;have h1:=qj ht hx;generalize hv:a.eval x=v at h1;cases h1 with
      |bfn hI hJ=>exact⟨_,λw=>by simp[execOp,hv], .bfn hI hJ⟩
    · cases h
  | binOp op xt x y yt=>
    simp only[jS]at h;split at h
    · rename_i h1 h2;exact(qce h (qj ht h1) (qj ht h2)).next
    · cases h
  | unOp op xt x=>
    simp only[jS]at h;split at h
    · rename_i h1;exact(qgz h (qj ht h1)).next
    · cases h
  | convert s d x=>
    simp only[jS]at h;split at h
    · rename_i h1;exact(qcf h (qj ht h1)).next
    · cases h
  | makeInterface xt x=>
    simp only[jS]at h;split at h
    · rename_i h1;exact(qew h (qj ht h1)).next
    · cases h
  | makeFunc fn first caps=>
    simp only[jS,amk]at h;split at h
    · rename_i f hf;split at h
      · rename_i l hl;cases h;have hfirst:first= #[]:=by apply Array.toList_inj.1;simpa using hf
        subst hfirst;have hr:=k_ ht hl;have e:(⟨caps.toList.map a.eval⟩:Array Value)=caps.map a.eval:=(by apply Array.toList_inj.1;simp);have h3:=VR.fn (f:=f) hr;rw[e]at h3;exact⟨_,λw=>by simp[execOp,Instr.makeFunc],h3⟩
      · cases h
    · rename_i f x xs hf;split at h
      · rename_i a1 l ha hl;cases h;have hr:=k_ ht hl;have hq:=k_ ht ha;have e:(⟨caps.toList.map a.eval⟩:Array Value)=caps.map a.eval:=(by apply Array.toList_inj.1;simp);have e2:(⟨(x::xs).map a.eval⟩:Array Value)=first.map a.eval:=(by rw[←hf];apply Array.toList_inj.1;simp);have h3:=VR.bfn (f:=f) hq hr;rw[e,e2]at h3;exact⟨_,λw=>by simp[execOp,Instr.makeFunc],h3⟩
      · cases h
    · cases h
  | slice st x lo hi mx=>
    simp only[jS]at h;split at h
    · rename_i h1 h2 h3;exact(qa9 h (qj ht h1) (sO ht h2) (sO ht h3)).next
    · cases h
  | fieldAddr s x f=>
    simp only[jS]at h;split at h
    · rename_i h1;exact(qa0 h (qj ht h1)).next
    · cases h
  | field s x f=>
    simp only[jS]at h;split at h
    · rename_i h1;exact(qet h (qj ht h1)).next
    · cases h
  | indexAddr st x i=>
    simp only[jS]at h;split at h
    · rename_i h1 h2;exact(q5j h (qj ht h1) (qj ht h2)).next
    · cases h
  | index st x i=>
    simp only[jS]at h;split at h
    · rename_i h1 h2;exact(qa3 h (qj ht h1) (qj ht h2)).next
    · cases h
  | extract x i=>
    simp only[jS]at h;split at h
    · rename_i h1;exact(qes h (qj ht h1)).next
    · cases h
  | call c=>
    simp only[jS]at h;split at h
    · rename_i b hb;split at h
      · rename_i l hl;obtain⟨v,h1,h2⟩:=q79 (ty:=ty) (cs:=c.args.map λ| .const _=>true|_=>false) h (k_ ht hl);refine⟨v,λw=> ?_,h2⟩;have e:(⟨c.args.toList.map a.eval⟩:Array Value)=c.args.map a.eval:=(by apply Array.toList_inj.1;simp);rw[e]at h1;simp only[execOp,resolve,hb,Sem.run_bind,Sem.run_pure,Result.andThen,invoke];exact h1 w
      · cases h
    · cases h
  |_=>simp[jS]at h
def Q5(h:T AO) (id off n:Nat):Option (List AV):=
 match h.get id with
 |some (.cells _ _ _ l)=>takeN l off n
 |_=>none
variable {F:Bool->Nat->Prop} {h:T AO} {w:World}
def qey{I:In} (hs:Sim F I h w) {id off n b s t:Nat} {l:List AV} (e:Q5 h id off n=some l) (hi:I id=some (b,s,t)):
    ∃ys:List Value,VRs I l ys/\ys.length=n/\(∀(j:Nat) v,ys[j]? =some v->w.cell? ⟨b,s+off+j,none⟩=some v)/\∃c e fr,w.heap[b]? =some (.cells c e fr)/\(∀(j:Nat) v,ys[j]? =some v->c[s+off+j]? =some v):=by
  unfold Q5 at e;split at e
  · rename_i el fz g l0 hg;obtain⟨ob,hb,ho⟩:=hs.obj _ _ _ _ hg hi;cases ho with
    | @cells _ _ _ _ _ pre vs rest fr hv hg' hp ht hf hE=>
      obtain⟨ys,h1,h2,h3⟩:=rT (rest:=rest) hv hp e;exact⟨ys,h1,h2,λj v hj=>by rw[cell_of hb];exact h3 j v hj,_,_,_,hb,h3⟩
  · cases e
def AD(P:IW) (h:T AO) (s d:TypeId) (x:AV):Option AV:=none
def q9v{P:IW} {I:In} (hs:Sim F I h w) {s d:TypeId} {x r:AV} {u:Value} (e:AD P h s d x=some r) (hx:VR I x u):
  ∃v,(convert s d u).run P w= .ok v w/\VR I r v:=by unfold AD at e;cases e
abbrev tJ:=Value×AV×Nat
def SE(h:T AO) (id:Nat):Option (List tJ×Nat):=
 match h.get id with
 |some (.map es c)=>some (es,c)
 |_=>none
variable {F:Bool->Nat->Prop} {I:In} {h:T AO} {w:World}
def qev{P:IW} (hs:Sim F I h w) {id b:Nat} {t:Nat×Nat} {es:List tJ} {c:Nat} (e:SE h id=some (es,c)) (hi:I id=some (b,t)):
  ∃ms,MR I es ms/\w.heap[b]? =some (.map ⟨ms⟩ c)/\(getObj b).run P w= .ok (.map ⟨ms⟩ c) w/\h.get id=some (.map es c):=by
 unfold SE at e;split at e
 ·rename_i es' c' hg;cases e;obtain⟨ob,hb,ho⟩:=hs.obj _ _ _ _ hg hi;cases ho with
  | @map _ ms _ hm=>exact⟨ms,hm,hb,by simp[getObj,Sem.run,hb],hg⟩
 ·cases e
def MR.len{es ms} (h:MR I es ms):es.length=ms.length:=by
 induction h with
 |nil=>rfl
 |cons _ _ ih=>simp[ih]
def Ap(P:IW) (h:T AO) (t:TypeId) (x k:AV) (ok:Bool):Option AV:=none
def q8t{P:IW} (hs:Sim F I h w) {t:TypeId} {x k r:AV} {ok:Bool} {u v:Value} (e:Ap P h t x k ok=some r) (hx:VR I x u) (hk:VR I k v):
  ∃z,(Instr.lookup t u v ok).run P w= .ok z w/\VR I r z:=by unfold Ap at e;cases e
def Sf(P:IW) (h:T AO) (s d:TypeId) (x:AV):Option AV:=none
variable {F:Bool->Nat->Prop} {I:In} {h:T AO} {w:World}
def qch{P:IW} (hs:Sim F I h w) {s d:TypeId} {x r:AV} {u:Value} (e:Sf P h s d x=some r) (hx:VR I x u):
  ∃v,(convert s d u).run P w= .ok v w/\VR I r v:=by unfold Sf at e;cases e
def xh (P:IW) (t:T AV) (h:T AO) (o:Oper):Option AV:=
  match o.op with
  | .load ty x=>match ev t x with
    |some (.ptr id off)=>Wf P h ty id off
    |_=>none
  | .convert s d x=>match ev t x with
    | some a=>match AD P h s d a with
      |some r=>some r
      |none=>Sf P h s d a
    |none=>none
  | .lookup ty x k ok=>match ev t x,ev t k with
    |some a,some b=>Ap P h ty a b ok
    |_,_=>none
  | .call c=>match c.callee with
    | .builtin .len=>match ki t c.args.toList,c.argTypes.toList with
      | some [.map id],ty::_=>match P.underlying ty with
        | some (.map ..)=>match SE h id with
          |some (es,_)=>some (.int .i64 (.ofNat es.length))
          |none=>none
        |_=>none
      |_,_=>none
    |_=>none
  |_=>none
variable {t:T AV} {o:Oper}
def td {P :IW} {a:Act} {r:AV} (e:xh P t h o=some r) (ht:TR I t a.tmps) (hs:Sim F I h w):
    ∃v,(execOp a.eval o).run P w= .ok (.value v) w/\VR I r v:=by
  obtain⟨dst,op,ty,pos,after,guard⟩:=o;have lift:∀{s:Sem Value} {v:Value},s.run P w= .ok v w->(do pure (.value (←s)):Sem Next).run P w= .ok (.value v) w:=λhs=>by simp[hs,Result.andThen]
  cases op with
  | load lt x=>
    simp only[xh]at e;split at e
    · rename_i id off hx;have h1:=qj ht hx;generalize hv:a.eval x=v at h1;cases h1 with
      | ptr hI=>
        obtain⟨z,g1,g2⟩:=E_ hs e hI;refine⟨z,?_,g2⟩;simp only[execOp,Instr.loadAt,hv];exact lift (by simp[Instr.sureAddr,g1,Result.andThen])
    · cases e
  | convert s d x=>
    simp only[xh]at e;split at e
    · rename_i hx;split at e
      · rename_i r' hb;cases e;obtain⟨z,g1,g2⟩:=q9v hs hb (qj ht hx);exact⟨z,lift g1,g2⟩
      · obtain⟨z,g1,g2⟩:=qch hs e (qj ht hx);exact⟨z,lift g1,g2⟩
    · cases e
  | lookup lt x k ok=>
    simp only[xh]at e;split at e
    · rename_i hx hk;obtain⟨z,g1,g2⟩:=q8t hs e (qj ht hx) (qj ht hk);exact⟨z,lift g1,g2⟩
    · cases e
  | call c=>
    simp only[xh]at e;split at e
    · rename_i hb;split at e
      · rename_i id t0 tr hargs hts;split at e
        · rename_i kt et hu;split at e
          · rename_i es cl hm;cases e;have h1:=k_ ht hargs;obtain⟨v,hv,hvr⟩:=ud h1;cases hvr with
            | @map _ bb tt hI=>
              obtain⟨ms,k1,k2,k3,k4⟩:=qev (P:=P) hs hm hI;refine⟨_,?_, .int _ _⟩;have e2:c.args.map a.eval=⟨[Value.map (some bb)]⟩:=(by apply Array.toList_inj.1;simpa using hv);have e3:c.argTypes=⟨t0::tr⟩:=(by apply Array.toList_inj.1;exact hts);simp only[execOp,resolve,hb,Sem.run_bind,Sem.run_pure,Result.andThen,invoke,builtin];rw[e2,e3];simp[Builtin.len_,run_underlying hu,k3,Result.andThen,goInt,k1.len]
          · cases e
        · cases e
      · cases e
    · cases e
  |_=>simp[xh]at e
def Jg(z:List AV):Nat->List AV
 |0=>[]
 |n+1=>z++Jg z n
def wS (P:IW) (t:T AV) (nx:Nat) (o:Oper):Option (AV×AO):=
  match o.op with
  | .alloc e=>match uY P e with
    |some z=>some (.ptr nx 0, .cells e (some 0) false z)
    |none=>none
  | .box e x=>match ev t x with
    |some a=>some (.ptr nx 0, .cells e (some 0) false (Z3 a))
    |none=>none
  | .makeMap _ none=>some (.map nx, .map [] 0)
  | .makeMap ty (some x)=>match P.underlying ty,ev t x with
    |some (.map ..),some (.int _ _)=>some (.map nx, .map [] 0)
    |_,_=>none
  | .buildSlice ty n parts=>match P.underlying ty with
    | some (.slice e)=>match P.info? e with
      | some i=>if n*i.size>2 ^ 24 then none else
        match(if n*i.size=0 then some []else uY P e),K_ t parts.toList with
        |some z,some ps=>if z.length=i.size\/n*i.size=0 then
            (match Z9 (λk=>some (k*i.size,i.size)) (if n*i.size=0 then []else Jg z n) ps with
            |some l=>some (.sl nx 0 n n, .cells e (some 0) false l)
            |none=>none)else none
        |_,_=>none
      |none=>none
    |_=>none
  | .makeSlice ty x y=>match P.underlying ty,ev t x,ev t y with
    | some (.slice e),some (.int .i64 (.ofNat n)),some (.int .i64 (.ofNat c))=>match P.info? e with
      | some i=>if n<=c/\i.bytes*c<=2 ^ 47/\c<2 ^ 47 then
        (match(if c*i.size=0 then some []else uY P e)with
        |some z=>if z.length=i.size\/c*i.size=0 then some (.sl nx 0 n c, .cells e (some 0) false (if c*i.size=0 then []else Jg z c))else none
        |none=>none)else none
      |none=>none
    |_,_,_=>none
  | .convert s d x=>match P.underlying s,P.underlying d,ev t x with
    | some .string,some (.slice e),some (.str l)=>match P.underlying e with
      |some (.int .u8)=>some (.gsl nx 0 l.length 1, .cells e (some 0) true (l.map λb=> .int .u8 (.ofNat (b % 256))))
      |_=>none
    |_,_,_=>none
  |_=>none
def jx(z:List Value):Nat->List Value
 |0=>[]
 |n+1=>z++jx z n
def An{I:In} {z:List AV} {u:List Value} (h:VRs I z u):∀n,VRs I (Jg z n) (jx u n)
 |0=> .nil
 |n+1=>VRs.append h (An h n)
def rr(z:Array Value):∀n,(List.range (n*z.size)).map (λi=>z[i % z.size]!)=jx z.toList n
  |0=>by simp[jx]
  | n + 1=>by
    rw[Nat.succ_mul,Nat.add_comm,List.range_add,List.map_append,jx];congr 1
    · apply List.ext_getElem?;intro i;rw[List.getElem?_map];by_cases hi:i<z.size
      · rw[List.getElem?_range hi];simp[Nat.mod_eq_of_lt hi,hi]
      · rw[List.getElem?_eq_none (by simpa using hi)];simp;omega
    · rw[←rr z n,List.map_map];apply List.map_congr_left;intro i _;simp
def EU(z:Array Value) (n:Nat):(Array.range (n*z.size)).map (λi=>z[i % z.size]!)=(⟨jx z.toList n⟩:Array Value):=by apply Array.toList_inj.1;rw[Array.toList_map,Array.toList_range,rr]
def Wc(P:IW) (I:In) (s:Sem Next) (nx:Nat) (v:AV) (ob:AO):Prop:=
 ∀w,∃z obj tot w',s.run P w= .ok (.value z) w'/\w'.heap=w.heap.push obj/\Same w w'/\∀I':In,I.le I'->I' nx=some (w.heap.size,tot)->VR I' v z/\OR I' tot ob obj
variable {nx:Nat}
def X'{P:IW} {e:TypeId} {l:List AV} {vs:List Value} (h:VRs I l vs) {s:Sem Value} {v:AV} {f:Addr->Value} (hs:∀w,s.run P w= .ok (f ⟨w.heap.size,0,none⟩) (w.alloc (.cells ⟨vs⟩ e)))
  (hv:∀(I':In) b,I' nx=some (b,0,vs.length)->VR I' v (f ⟨b,0,none⟩)):Wc P I (do pure (.value (←s))) nx v (.cells e (some 0) false l):=λw=>by refine⟨_, .cells ⟨vs⟩ e,(0,vs.length),w.alloc (.cells ⟨vs⟩ e),by simp[hs w,Result.andThen],rfl,⟨rfl,rfl,rfl⟩,λI' hl hI=>⟨hv I' _ hI,?_⟩⟩;have:=OR.cells (I:=I') (t:=(0,vs.length)) (elem:=e) (fz:=some 0) (g:=false) (l:=l) (pre:=[]) (vs:=vs) (rest:=[]) (fr:=(0,0)) (VRs.mono hl h) (λ_=>⟨rfl,rfl⟩) rfl (by simp) (λ_ _ o _ _=>by simp) (.inl rfl);simpa using this
def grownCap_ge(w:World) (n m:Nat) (e:TypeId):n<=grownCap w n m e:=by unfold grownCap Question.cut;exact Nat.le_add_right _ _
def p9(I:In):∀l:List Nat,VRs I (l.map λb=>AV.int .u8 (.ofNat (b % 256))) (l.map λb=>Value.int .u8 ((UInt8.ofNat b).toNat:Int))
 | []=> .nil
 | b ::l=> .cons (by show VR I (.int .u8 (.ofNat (b % 256))) (.int .u8 ((UInt8.ofNat b).toNat:Int));rw[UInt8.toNat_ofNat'];exact .int _ _) (p9 I l)
def pJ(w:World) (e:TypeId) (s:IV):(Lib.bytesWorld w e s).heap=w.heap.push (.cells (Lib.bytesCells w e s) e ((Lib.bytesCells w e s).size,(Lib.bytesCells w e s).size+1)):=by
 apply Array.ext_getElem?;intro i;rw[Array.getElem?_push];by_cases h:i=w.heap.size
 ·subst h;rw[if_pos rfl,Lib.bytesWorld_at_new]
 ·rw[if_neg h];by_cases h2:i<w.heap.size
  ·exact Lib.bytesWorld_at_old w e s i h2
  ·rw[Array.getElem?_eq_none (by rw[Lib.bytesWorld_size];omega),Array.getElem?_eq_none (by omega)]
def sH {P : IW} {a:Act} {v:AV} {ob:AO} (e:wS P t nx o=some (v,ob)) (ht:TR I t a.tmps):Wc P I (execOp a.eval o) nx v ob:=by
  obtain⟨dst,op,ty,pos,after,guard⟩:=o;cases op with
  | alloc el=>
    simp only[wS]at e;split at e
    · rename_i z hz;cases e;obtain⟨zv,h1,h2⟩:=YY hz I;exact X' (f:=λad=> .pointer (some ad)) h2 (λw=>by simp[Instr.alloc,h1 w,Result.andThen,newVar,newRow,newObj,Sem.run]) (λI' b hI=> .ptr' hI rfl)
    · cases e
  | box el x=>
    simp only[wS]at e;split at e
    · rename_i z hz;cases e;exact X' (f:=λad=> .pointer (some ad)) (X7 (qj ht hz)) (λw=>by simp[Instr.box,Result.andThen,newVar,newRow,newObj,Sem.run]) (λI' b hI=> .ptr' hI rfl)
    · cases e
  | makeMap mt r=>
    cases r with
    | none=>
      simp only[wS]at e;cases e;intro w;refine⟨.map (some w.heap.size), .map #[] 0,(0,0),w.alloc (.map #[] 0),by simp[execOp,Instr.makeMap,newObj,Sem.run,Result.andThen],rfl,⟨rfl,rfl,rfl⟩,λI' hl hI=>⟨.map hI, .map .nil⟩⟩
    | some x=>
      simp only[wS]at e;split at e
      · rename_i kt et k n hu hx;cases e;have h1:=qj ht hx;generalize hv:a.eval x=xv at h1;cases h1;intro w;refine⟨.map (some w.heap.size), .map #[] 0,(0,0),w.alloc (.map #[] 0),by simp[execOp,Instr.makeMap,newObj,Sem.run,Result.andThen,hv,run_underlying hu,asInt,asIntOf],rfl,⟨rfl,rfl,rfl⟩,λI' hl hI=>⟨.map hI, .map .nil⟩⟩
      · cases e
  | buildSlice st n parts=>
    simp only[wS]at e;split at e
    · rename_i el hu;split at e
      · rename_i i hi;split at e
        · cases e
        · rename_i hbig;split at e
          · rename_i z ps hz hps;split at e
            · rename_i hzl;split at e
              · rename_i l hl;cases e;have hpr:=EX ht hps;have key:∀(zs:List Value) (m:Array Value),VRs I (if n*i.size=0 then []else Jg z n) zs->(n*i.size=0/\m= #[]\/¬n*i.size=0/\∃zv,(∀w,(zeroValue el).run P w= .ok zv w)/\m=zv.cells)->((Array.range (n*i.size)).map (λk=>m[k % m.size]!))=⟨zs⟩->Wc P I (do pure (.value (←Instr.buildSlice st n (parts.map λ(i,x)=>(i,a.eval x))))) nx (.sl nx 0 n n) (.cells el (some 0) false l):=λzs m hr hrun hrow=>by
                  obtain⟨us,h3,h4⟩:=Fe (λk=>some (k*i.size,i.size)) hpr _ _ _ hr hl;refine X' (f:=λad=> .slice (some ad) n n) h4 (λw=> ?_) (λI' b hI=> .sl' hI rfl);have h5:Instr.fill (λi_1=>some (i_1*i.size,i.size)) ⟨zs⟩ (parts.map λ(i,x)=>(i,a.eval x)).toList=some ⟨us⟩:=(by simpa using h3);simp only[Instr.buildSlice,Sem.run_bind,run_underlying hu,Result.andThen,run_sizeOf hi,if_neg hbig];rcases hrun with⟨g0,rfl⟩|⟨g0,zv,g1,rfl⟩
                  · simp only[if_pos g0,Sem.run_bind,Sem.run_pure,Result.andThen,hrow];rw[h5];simp[newRow,newObj,Sem.run,Result.andThen]
                  · simp only[if_neg g0,Sem.run_bind,Sem.run_pure,Result.andThen,g1 w,hrow];rw[h5];simp[newRow,newObj,Sem.run,Result.andThen]
                by_cases hn:n*i.size=0
                · refine key [] #[] (by rw[if_pos hn];exact .nil) (.inl ⟨hn,rfl⟩) (by rw[hn];simp)
                · rw[if_neg hn]at hz;obtain⟨zv,h1,h2⟩:=YY hz I;have hsz:zv.cells.size=i.size:=by
                    rw[←Array.length_toList,←h2.len];rcases hzl with h|h
                    · exact h
                    · exact absurd h hn
                  refine key (jx zv.cells.toList n) zv.cells (by rw[if_neg hn];exact An h2 n) (.inr ⟨hn,zv,h1,rfl⟩) (by rw[←hsz];exact EU zv.cells n)
              · cases e
            · cases e
          · cases e
      · cases e
    · cases e
  | makeSlice st x y=>
    simp only[wS]at e;split at e
    · rename_i el n c hu hx hy;split at e
      · rename_i i hi;split at e
        · rename_i hb;obtain⟨hnc,hbc,hc⟩:=hb;split at e
          · rename_i z hz;split at e
            · rename_i hzl;cases e;have hx1:=qj ht hx;generalize hxv:a.eval x=xv at hx1;have hy1:=qj ht hy;generalize hyv:a.eval y=yv at hy1;cases hx1;cases hy1;have wn:IntKind.i64.wrap (Int.ofNat n)=n:=(by simp[IntKind.wrap,IntKind.bits,IntKind.signed];omega);have wc:IntKind.i64.wrap (Int.ofNat c)=c:=(by simp[IntKind.wrap,IntKind.bits,IntKind.signed];omega);have key:∀(zs:List Value) (m:Array Value),VRs I (if c*i.size=0 then []else Jg z c) zs->(c*i.size=0/\m= #[]\/¬c*i.size=0/\∃zv,(∀w,(zeroValue el).run P w= .ok zv w)/\m=zv.cells)->((Array.range (c*i.size)).map (λk=>m[k % m.size]!))=⟨zs⟩->Wc P I (do pure (.value (←Instr.makeSlice st (.int .i64 (.ofNat n)) (.int .i64 (.ofNat c))))) nx (.sl nx 0 n c) (.cells el (some 0) false (if c*i.size=0 then []else Jg z c)):=λzs m hr hrun hrow=>by
                refine X' (f:=λad=> .slice (some ad) n c) hr (λw=> ?_) (λI' b hI=> .sl' hI rfl);have hti:(typeInfo el).run P w= .ok i w:=(by simp[typeInfo,program,Sem.run,hi,bind,Sem.bind,pure]);have b1:((i.bytes*c:Nat):Int)<=2 ^ 47:=(by exact_mod_cast hbc);have b2:((i.bytes:Int)*(c:Int))<=2 ^ 47:=(by rw[←Int.natCast_mul];exact b1);have t1:((decide ((c:Int)<0))||decide ((i.bytes:Int)*(c:Int)>2 ^ 48))=false:=(by simp only[Bool.or_eq_false_iff,decide_eq_false_iff_not];omega);have t2:¬(c*i.bytes>roomBytes):=Nat.not_lt.2 (by rw[Nat.mul_comm];exact hbc);simp only[Instr.makeSlice,asInt,asIntOf,Sem.run_bind,run_underlying hu,Sem.run_pure,Result.andThen,hti,wn,wc];have t0:(decide ((c:Int)<0)||decide ((i.bytes:Int)*(c:Int)>2 ^ 48)||decide ((n:Int)<0)||decide ((n:Int)>(c:Int)))=false:=(by rw[t1];simp only[Bool.false_or,Bool.or_eq_false_iff,decide_eq_false_iff_not];exact⟨by omega,by omega⟩);rw[t0];simp only[Bool.false_eq_true,if_false,Sem.run_bind,askRoom,Int.toNat_natCast,if_neg t2,Sem.run_pure,Result.andThen,run_sizeOf hi];rcases hrun with⟨g0,rfl⟩|⟨g0,zv,g1,rfl⟩
                · simp only[if_pos g0,Sem.run_bind,Sem.run_pure,Result.andThen,hrow];simp[newRow,newObj,Sem.run,Result.andThen]
                · simp only[if_neg g0,Sem.run_bind,Sem.run_pure,Result.andThen,g1 w,hrow];simp[newRow,newObj,Sem.run,Result.andThen]
              simp only[execOp,hxv,hyv];by_cases hn:c*i.size=0
              · refine key [] #[] (by rw[if_pos hn];exact .nil) (.inl ⟨hn,rfl⟩) (by rw[hn];simp)
              · rw[if_neg hn]at hz;obtain⟨zv,h1,h2⟩:=YY hz I;have hsz:zv.cells.size=i.size:=by
                  rw[←Array.length_toList,←h2.len];rcases hzl with h|h
                  · exact h
                  · exact absurd h hn
                refine key (jx zv.cells.toList c) zv.cells (by rw[if_neg hn];exact An h2 c) (.inr ⟨hn,zv,h1,rfl⟩) (by rw[←hsz];exact EU zv.cells c)
            · cases e
          · cases e
        · cases e
      · cases e
    · cases e
  | convert s d x=>
    simp only[wS]at e;split at e
    · rename_i el l hs hd hx;split at e
      · rename_i he;cases e;have hx1:=qj ht hx;generalize hxv:a.eval x=xv at hx1;cases hx1;simp only[execOp,hxv];intro w;have hrun:=Lib.run_convert_string_bytes (P:=P) w s d el (mkS l) hs hd he;rw[q0v]at hrun;have hheap:=pJ w el (mkS l);refine⟨_,_,(0,(Lib.bytesCells w el (mkS l)).size),_,by simp[hrun,Result.andThen];rfl,hheap,⟨rfl,rfl,rfl⟩,λI' hl hI=>⟨.gsl hI ?_ ?_ (.inl rfl),?_⟩⟩
        · exact grownCap_ge w l.length 0 el
        · have:(Lib.bytesCells w el (mkS l)).size=l.length+(grownCap w l.length 0 el- l.length):=(by simp only[Lib.bytesCells,q0v];simp[mkS]);have:=grownCap_ge w l.length 0 el;omega
        · have hr:=p9 I' l;have hc:Lib.bytesCells w el (mkS l)=⟨(l.map λb=>Value.int .u8 ((UInt8.ofNat b).toNat:Int))++List.replicate (grownCap w l.length 0 el- l.length) (.int .u8 0)⟩:=(by apply Array.toList_inj.1;simp only[Lib.bytesCells,q0v];simp[mkS]);rw[hc];exact .cells (pre:=[]) hr (λh=>by cases h) rfl rfl (λ_ _ o h1 h2=>by simp at h2⊢;omega) (.inl rfl)
      · cases e
    · cases e
  |_=>simp[wS]at e
end
end Go.Proofs.YtniogjgfomaicaaGreat.Eng
