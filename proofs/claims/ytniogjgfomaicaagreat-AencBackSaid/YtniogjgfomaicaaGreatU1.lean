/-
  The machine with unknown values: questions reckoned out of the code. No condition but what its theorems ask.
-/
import Derived.Calls
import Derived.Orders
import Derived.LoopN
import Derived.Laws.Sem
import Derived.Laws.World
import Derived.Below
import Derived.Laws.IdiomCopy
import Derived.Laws.Entries
import Derived.Laws.Strings
import Derived.Lib.SlBytesRow
import Derived.Lib.ConvBytes
import Derived.Lib.Builder
namespace Go.Proofs.YtniogjgfomaicaaGreat.Eng
open Go.RowKit
set_option linter.defProp false
set_option linter.unusedVariables false
set_option linter.unusedSimpArgs false
noncomputable section
abbrev O7:=Program
abbrev O6:=ByteArray
inductive T(α:Type)where
 |e:T α
 |n:T α->Option α->T α->T α
namespace T
variable {α:Type}
def getS:T α->Nat->Option α
  | .e,_=>none
  | .n l v r,k=>match k with
    |0=>v
    | k+1=>match Nat.beq (Nat.mod k 2) 0 with
      |true=>l.getS (Nat.div k 2)
      |false=>r.getS (Nat.div k 2)
def q9:Nat->Nat->Option α->T α->Option (T α)
  |0,_,_,_=>none
  | f + 1,k,x,t=>match k with
    | 0=>match t with
      | .e=>some (.n .e x .e)
      | .n l _ r=>some (.n l x r)
    | k +1=>match t with
      | .e=>match Nat.beq (Nat.mod k 2) 0 with
        |true=>match q9 f (Nat.div k 2) x .e with|some u=>some (.n u none .e)|none=>none
        |false=>match q9 f (Nat.div k 2) x .e with|some u=>some (.n .e none u)|none=>none
      | .n l v r=>match Nat.beq (Nat.mod k 2) 0 with
        |true=>match q9 f (Nat.div k 2) x l with|some u=>some (.n u v r)|none=>none
        |false=>match q9 f (Nat.div k 2) x r with|some u=>some (.n l v u)|none=>none
def parity(k:Nat):(Nat.beq (Nat.mod k 2) 0=true->k % 2=0)/\(Nat.beq (Nat.mod k 2) 0=false->k % 2=1):=by
 constructor
 ·intro h;exact Nat.eq_of_beq_eq_true h
 ·intro h;have:=Nat.ne_of_beq_eq_false h;have u:k % 2≠0:=this;omega
def div2(k:Nat):Nat.div k 2=k / 2:=rfl
def qc7:∀(f k:Nat) (x:Option α) (t u:T α),q9 f k x t=some u->∀j,u.getS j=if j=k then x else t.getS j:=by
  intro f;induction f with
  |zero=>intro k x t u h;cases h
  | succ f H =>
    intro k x t u h j;cases k with
    | zero=>
      cases t with
      | e=>
        simp[q9]at h;subst h;cases j with
        |zero=>simp[getS]
        |succ j=>simp only[getS];split<;>simp
      |n l v r=>simp[q9]at h;subst h;cases j<;>simp[getS]
    | succ k=>
      have step:∀(l r:T α) (v:Option α) (p:T α),(Nat.beq (Nat.mod k 2) 0=true->q9 f (Nat.div k 2) x l=some p->u= .n p v r->u.getS j=if j=k+1 then x else(T.n l v r).getS j)/\(Nat.beq (Nat.mod k 2) 0=false->q9 f (Nat.div k 2) x r=some p->u= .n l v p->u.getS j=if j=k+1 then x else(T.n l v r).getS j):=by
        intro l r v p;constructor
        · intro A hp hu;subst hu;have J:=(parity k).1 A;cases j with
          |zero=>simp[getS]
          | succ j=>
            simp only[getS];cases G:Nat.beq (Nat.mod j 2) 0 with
            | true=>
              have C:=(parity j).1 G;simp only[H _ _ _ _ hp,div2];by_cases e:j=k
              · subst e;simp
              · rw[if_neg (by omega),if_neg (by omega)]
            | false=>
              have C:=(parity j).2 G;simp only;rw[if_neg (by omega)]
        · intro A hp hu;subst hu;have J:=(parity k).2 A;cases j with
          |zero=>simp[getS]
          | succ j=>
            simp only[getS];cases G:Nat.beq (Nat.mod j 2) 0 with
            | true=>
              have C:=(parity j).1 G;simp only;rw[if_neg (by omega)]
            | false=>
              have C:=(parity j).2 G;simp only[H _ _ _ _ hp,div2];by_cases e:j=k
              · subst e;simp
              · rw[if_neg (by omega),if_neg (by omega)]
      cases t with
      | e =>
        simp only[q9]at h;have e0:∀i,(T.e:T α).getS i=(T.n T.e none T.e:T α).getS i:=λi=>by
          cases i with
          |zero=>simp[getS]
          |succ i=>simp only[getS];split<;>rfl
        rw[e0 j];split at h
        · rename_i A;split at h
          · rename_i p hp;cases h;exact(step .e .e none p).1 A hp rfl
          · cases h
        · rename_i A;split at h
          · rename_i p hp;cases h;exact(step .e .e none p).2 A hp rfl
          · cases h
      | n l v r=>
        simp only[q9]at h;split at h
        · rename_i A;split at h
          · rename_i p hp;cases h;exact(step l r v p).1 A hp rfl
          · cases h
        · rename_i A;split at h
          · rename_i p hp;cases h;exact(step l r v p).2 A hp rfl
          · cases h
def get(t:T α):Nat->Option α:=
 T.rec (motive:=λ_=>Nat->Option α) (λ_=>none)
  (λ_ v _ gl h k=>Nat.rec (motive:=λ_=>Option α) v (λk _=>Bool.rec (motive:=λ_=>Option α) (h (Nat.div k 2)) (gl (Nat.div k 2)) (Nat.beq (Nat.mod k 2) 0)) k) t
def k0(x:Option α) (t:T α):Nat->Option (T α):=
 T.rec (motive:=λ_=>Nat->Option (T α)) (λk=>q9 64 k x .e)
  (λl v r pl pr k=>Nat.rec (motive:=λ_=>Option (T α)) (some (.n l x r)) (λk _=>Bool.rec (motive:=λ_=>Option (T α))
   (Option.rec (motive:=λ_=>Option (T α)) none (λu=>some (.n l v u)) (pr (Nat.div k 2)))
   (Option.rec (motive:=λ_=>Option (T α)) none (λu=>some (.n u v r)) (pl (Nat.div k 2)))
   (Nat.beq (Nat.mod k 2) 0)) k) t
def put(f k:Nat) (x:Option α) (t:T α):Option (T α):=k0 x t k
def JD(l r:T α) (v:Option α) (k:Nat):(T.n l v r).get (k+1)=match Nat.beq (Nat.mod k 2) 0 with
   |true=>l.get (Nat.div k 2)
   |false=>r.get (Nat.div k 2):=by show Bool.rec (motive:=λ_=>Option α) (r.get (Nat.div k 2)) (l.get (Nat.div k 2)) (Nat.beq (Nat.mod k 2) 0)=_;cases Nat.beq (Nat.mod k 2) 0<;>rfl
def get_eq:∀(t:T α) (k:Nat),t.get k=t.getS k
  | .e,k=>rfl
  | .n l v r,0=>rfl
  | .n l v r,k+1=>by rw[JD];simp only[getS];split<;>exact get_eq _ _
def qgs(x:Option α) (l r:T α) (v:Option α) (k:Nat):k0 x (T.n l v r) (k+1)=match Nat.beq (Nat.mod k 2) 0 with
   |true=>match k0 x l (Nat.div k 2)with|some u=>some (.n u v r)|none=>none
   |false=>match k0 x r (Nat.div k 2)with|some u=>some (.n l v u)|none=>none:=by
 show Bool.rec (motive:=λ_=>Option (T α))
   (Option.rec (motive:=λ_=>Option (T α)) none (λu=>some (.n l v u)) (k0 x r (Nat.div k 2)))
   (Option.rec (motive:=λ_=>Option (T α)) none (λu=>some (.n u v r)) (k0 x l (Nat.div k 2)))
   (Nat.beq (Nat.mod k 2) 0)=_
 cases Nat.beq (Nat.mod k 2) 0
 ·cases k0 x r (Nat.div k 2)<;>rfl
 ·cases k0 x l (Nat.div k 2)<;>rfl
def get_e(k:Nat):(T.e:T α).get k=none:=rfl
def SH(x:Option α):∀(t:T α) (k:Nat) (u:T α),k0 x t k=some u->∀j,u.get j=if j=k then x else t.get j
  | .e,k,u,h,j=>by have:=qc7 64 k x .e u h j;rw[get_eq,this];rfl
  | .n l v r,0,u,h,j=>by
    have J:some (T.n l x r)=some u:=h;cases J;cases j with
    |zero=>rfl
    |succ j=>rw[if_neg (by omega),JD,JD]
  | .n l v r,k+1,u,h,j=>by
    rw[qgs]at h;cases G:Nat.beq (Nat.mod k 2) 0 with
    | true=>
      rw[G]at h;have N:=(parity k).1 G;simp only at h;split at h
      · rename_i p hp;cases h;have H:=SH x l _ p hp;cases j with
        |zero=>rw[if_neg (by omega)];rfl
        | succ j=>
          rw[JD,JD];cases C:Nat.beq (Nat.mod j 2) 0 with
          | true=>
            have A:=(parity j).1 C;simp only[H,div2];by_cases e:j=k
            · subst e;simp
            · rw[if_neg (by omega),if_neg (by omega)]
          | false=>
            have A:=(parity j).2 C;simp only;rw[if_neg (by omega)]
      · cases h
    | false =>
      rw[G]at h;have N:=(parity k).2 G;simp only at h;split at h
      · rename_i p hp;cases h;have H:=SH x r _ p hp;cases j with
        |zero=>rw[if_neg (by omega)];rfl
        | succ j=>
          rw[JD,JD];cases C:Nat.beq (Nat.mod j 2) 0 with
          | true=>
            have A:=(parity j).1 C;simp only;rw[if_neg (by omega)]
          | false=>
            have A:=(parity j).2 C;simp only[H,div2];by_cases e:j=k
            · subst e;simp
            · rw[if_neg (by omega),if_neg (by omega)]
      · cases h
def get_put(f k:Nat) (x:Option α) (t u:T α) (h:put f k x t=some u):∀j,u.get j=if j=k then x else t.get j:=SH x t k u h
end T
inductive AV where
 |bool (b:Bool)
 |int (k:IntKind) (n:Int)
 |str (s:List Nat)
 |nilp
 |ptr (id off:Nat)
 |nsl
 |sl (id off len cap:Nat)
 |gsl (id off len esz:Nat)
 |nmap
 |map (id:Nat)
 |fn (f:Nat) (caps:List AV)
 |nilf
 |nili
 |ifc (t:TypeId) (a:AV)
 |ifo
 |anyi (k:IntKind)
 |lin (k:IntKind) (c:Int) (l:List (Int×Nat×Int×Int))
 |bfn (f:Nat) (first caps:List AV)
 |agg (l:List AV)
 |tup (l:List AV)
 |sv (v:Value)
 |tsl (k:Nat)
 |ssl (id off len esz k:Nat)
 |msl (id len esz:Nat)
 |usl (id off len esz:Nat)
 |sptr (id off:Nat)
 |tpt (k:Nat)
 |tmap (k:Nat)
abbrev In:=Nat->Option (Nat×Nat×Nat)
def In.le(I J:In):Prop:=∀id x,I id=some x->J id=some x
def In.le_refl(I:In):I.le I:=λ_ _ h=>h
def In.le_trans{I J K:In} (h:I.le J) (g:J.le K):I.le K:=λi x e=>g i x (h i x e)
def GH(I:In) (id:Nat):Option Int:=match I id with
 |some (b,s,_)=>some (Int.ofNat b- Int.ofNat s)
 |none=>none
def qak{I J:In} (A:I.le J) {id:Nat} {v:Int} (h:GH I id=some v):GH J id=some v:=by
 unfold GH at h⊢;cases u:I id with
 |none=>rw[u]at h;cases h
 |some x=>rw[u]at h;rw[A _ _ u];exact h
inductive LR(I:In):List (Int×Nat×Int×Int)->Int->Prop
 |nil:LR I [] 0
 |cons {c id lo hi v l n} (h:GH I id=some v) (h1:lo<=v) (h2:v<=hi) (t:LR I l n):LR I ((c,id,lo,hi)::l) (c*v+n)
def LR.mono{I J:In} (C:I.le J) {l n} (h:LR I l n):LR J l n:=by
 induction h with
 |nil=>exact .nil
 |cons h u A t G=>exact .cons (qak C h) u A G
def mkS(l:List Nat):O6:=⟨⟨l.map UInt8.ofNat⟩⟩
def xu:Nat->Nat->Nat×Nat
 |0,_=>(0,0)
 |f+1,m=>if m % 2=1 then(0,m / 2)else((xu f (m / 2)).1+1,(xu f (m / 2)).2)
def Vw(c:Nat):∀(n f:Nat),n<f->xu f (2 ^ n*(2*c+1))=(n,c)
  | 0,f,h=>by obtain⟨f,rfl⟩:∃g,f=g+1:=⟨f- 1,by omega⟩;simp only[xu,Nat.pow_zero,Nat.one_mul];rw[if_pos (by omega)];congr 1;omega
  | n+1,f,h=>by obtain⟨f,rfl⟩:∃g,f=g+1:=⟨f- 1,by omega⟩;have e:2 ^ (n+1)*(2*c+1)=2*(2 ^ n*(2*c+1)):=(by rw[Nat.pow_succ,Nat.mul_comm (2 ^ n) 2,Nat.mul_assoc]);simp only[xu,e];rw[if_neg (by omega),show 2*(2 ^ n*(2*c+1)) / 2=2 ^ n*(2*c+1)by omega,Vw c n f (by omega)]
abbrev SV:=Option Addr×Nat×Nat
def zn(x:Nat×Nat×Nat):SV:=(if x.2.2 % 2=0 then none else some ⟨x.1,(xu x.2.1 x.2.1).1,if(xu x.2.1 x.2.1).2=0 then none else some ((xu x.2.1 x.2.1).2- 1)⟩,(xu (x.2.2 / 2) (x.2.2 / 2)).1,(xu (x.2.2 / 2) (x.2.2 / 2)).2)
def q8m(b o:Nat) (p:Option Nat) (n c:Nat):∃x,zn x=(some ⟨b,o,p⟩,n,c):=by
  have h:n<2 ^ n*(2*c+1):=Nat.lt_of_lt_of_le Nat.lt_two_pow_self (Nat.le_mul_of_pos_right _ (by omega));have g:∀q,o<2 ^ o*(2*q+1):=λq=>Nat.lt_of_lt_of_le Nat.lt_two_pow_self (Nat.le_mul_of_pos_right _ (by omega));cases p with
  | none=>
    refine⟨(b,2 ^ o*(2*0+1),2*(2 ^ n*(2*c+1))+1),?_⟩;unfold zn;rw[if_neg (by simp only;omega),show(2*(2 ^ n*(2*c+1))+1) / 2=2 ^ n*(2*c+1)by omega,Vw c n _ h];simp only[Vw 0 o _ (g 0),if_true]
  | some p=>
    refine⟨(b,2 ^ o*(2*(p+1)+1),2*(2 ^ n*(2*c+1))+1),?_⟩;unfold zn;rw[if_neg (by simp only;omega),show(2*(2 ^ n*(2*c+1))+1) / 2=2 ^ n*(2*c+1)by omega,Vw c n _ h];simp only[Vw (p+1) o _ (g (p+1)),Nat.add_sub_cancel,if_neg (Nat.succ_ne_zero p)]
def q8l(n c:Nat):∃x,zn x=(none,n,c):=by have h:n<2 ^ n*(2*c+1):=Nat.lt_of_lt_of_le Nat.lt_two_pow_self (Nat.le_mul_of_pos_right _ (by omega));refine⟨(0,0,2*(2 ^ n*(2*c+1))),?_⟩;unfold zn;rw[if_pos (by simp only;omega),show(2*(2 ^ n*(2*c+1))) / 2=2 ^ n*(2*c+1)by omega,Vw c n _ h]
def slV(x:SV):Value:= .slice x.1 x.2.1 x.2.2
mutual
inductive VR(I:In):AV->Value->Prop
 |bool (b):VR I (.bool b) (.bool b)
 |int (k n):VR I (.int k n) (.int k n)
 |str (l):VR I (.str l) (.string (mkS l))
 |nilp:VR I .nilp (.pointer none)
 |ptr {id off b s t} (h:I id=some (b,s,t)):VR I (.ptr id off) (.pointer (some ⟨b,s+off,none⟩))
 |nsl:VR I .nsl (.slice none 0 0)
 |sl {id off len cap b s t} (h:I id=some (b,s,t)):VR I (.sl id off len cap) (.slice (some ⟨b,s+off,none⟩) len cap)
 |gsl {id off len esz b s t c o} (h:I id=some (b,s,t)) (h1:len<=c) (h2:off+c*esz<=t) (h3:o=s+off\/c=0):VR I (.gsl id off len esz) (.slice (some ⟨b,o,none⟩) len c)
 |nmap:VR I .nmap (.map none)
 |map {id b t} (h:I id=some (b,t)):VR I (.map id) (.map (some b))
 |fn {f caps vs} (h:VRs I caps vs):VR I (.fn f caps) (.func (.func f) #[] ⟨vs⟩)
 |nilf:VR I .nilf .nilFunc
 |nili:VR I .nili .nilIface
 |ifc {t a v} (h:VR I a v):VR I (.ifc t a) (.iface t v)
 |ifo {t v}:VR I .ifo (.iface t v)
 |anyi {k n}:VR I (.anyi k) (.int k n)
 |lin {k c l n} (h:LR I l n):VR I (.lin k c l) (.int k (c+n))
 |bfn {f first caps fs vs} (h1:VRs I first fs) (h:VRs I caps vs):VR I (.bfn f first caps) (.func (.func f) ⟨fs⟩ ⟨vs⟩)
 |agg {l vs} (h:VRs I l vs):VR I (.agg l) (.agg ⟨vs⟩)
 |tup {l vs} (h:VRs I l vs):VR I (.tup l) (.tuple ⟨vs⟩)
 |sv (v):VR I (.sv v) v
 |tsl {k x} (h:I k=some x):VR I (.tsl k) (slV (zn x))
 |ssl {id off len esz k b s t c o x} (h:I id=some (b,s,t)) (h1:len<=c) (h2:off+c*esz<=t) (h3:o=s+off\/c=0) (hk:I k=some x) (hx:zn x=(some ⟨b,o,none⟩,len,c)):VR I (.ssl id off len esz k) (.slice (some ⟨b,o,none⟩) len c)
 |msl {id len esz b s t} (h:I id=some (b,s,t)) (h2:len*esz<=t) (h3:0<esz):VR I (.msl id len esz) (.slice (some ⟨b,s,none⟩) len (t / esz))
 |usl {id off len esz b s t c o} (h:I id=some (b,s,t)) (h1:len<=c) (h2:off+c*esz<=t) (h3:o=s+off\/c=0):VR I (.usl id off len esz) (.slice (some ⟨b,o,none⟩) len c)
 |usl0 {id off len esz} (h:len=0):VR I (.usl id off len esz) (.slice none 0 0)
 |sptr {id off b s t} (h:I id=some (b,s,t)):VR I (.sptr id off) (.pointer (some ⟨b,s+off,none⟩))
 |tpt {k x} (h:I k=some x):VR I (.tpt k) (.pointer (zn x).1)
 |tmap {k x} (h:I k=some x):VR I (.tmap k) (.map ((zn x).1.map (·.block)))
 |ssl0 {id off len esz k x} (h:len=0) (hk:I k=some x) (hx:zn x=(none,0,0)):VR I (.ssl id off len esz k) (.slice none 0 0)
inductive VRs(I:In):List AV->List Value->Prop
 |nil:VRs I [] []
 |cons {a l v vs} (h:VR I a v) (t:VRs I l vs):VRs I (a::l) (v::vs)
end
mutual
def VR.mono{I J:In} (u:I.le J):∀{a v},VR I a v->VR J a v
 |_,_, .bool b=> .bool b
 |_,_, .int k n=> .int k n
 |_,_, .str l=> .str l
 |_,_, .nilp=> .nilp
 |_,_, .ptr h=> .ptr (u _ _ h)
 |_,_, .nsl=> .nsl
 |_,_, .sl h=> .sl (u _ _ h)
 |_,_, .gsl h A C G=> .gsl (u _ _ h) A C G
 |_,_, .nmap=> .nmap
 |_,_, .map h=> .map (u _ _ h)
 |_,_, .fn h=> .fn (VRs.mono u h)
 |_,_, .nilf=> .nilf
 |_,_, .nili=> .nili
 |_,_, .ifc h=> .ifc (VR.mono u h)
 |_,_, .ifo=> .ifo
 |_,_, .anyi=> .anyi
 |_,_, .lin h=> .lin (h.mono u)
 |_,_, .bfn A h=> .bfn (VRs.mono u A) (VRs.mono u h)
 |_,_, .agg h=> .agg (VRs.mono u h)
 |_,_, .tup h=> .tup (VRs.mono u h)
 |_,_, .sv v=> .sv v
 |_,_, .tsl h=> .tsl (u _ _ h)
 |_,_, .ssl h A C G H hx=> .ssl (u _ _ h) A C G (u _ _ H) hx
 |_,_, .msl h C G=> .msl (u _ _ h) C G
 |_,_, .usl h A C G=> .usl (u _ _ h) A C G
 |_,_, .usl0 h=> .usl0 h
 |_,_, .sptr h=> .sptr (u _ _ h)
 |_,_, .tpt h=> .tpt (u _ _ h)
 |_,_, .tmap h=> .tmap (u _ _ h)
 |_,_, .ssl0 h H hx=> .ssl0 h (u _ _ H) hx
def VRs.mono{I J:In} (u:I.le J):∀{a v},VRs I a v->VRs J a v
 |_,_, .nil=> .nil
 |_,_, .cons h t=> .cons (VR.mono u h) (VRs.mono u t)
end
variable {I:In}
def VR.ptr'{id off b s t o:Nat} (h:I id=some (b,s,t)) (e:o=s+off):VR I (.ptr id off) (.pointer (some ⟨b,o,none⟩)):=by subst e;exact .ptr h
def VR.sl'{id off len cap b s t o:Nat} (h:I id=some (b,s,t)) (e:o=s+off):VR I (.sl id off len cap) (.slice (some ⟨b,o,none⟩) len cap):=by subst e;exact .sl h
def VRs.len{I:In}:∀{l vs},VRs I l vs->l.length=vs.length
 |_,_, .nil=>rfl
 |_,_, .cons _ t=>by simp[VRs.len t]
def VRs.get{I:In}:∀{l:List AV} {vs:List Value},VRs I l vs->∀(i:Nat) (a:AV),l[i]? =some a->∃v,vs[i]? =some v/\VR I a v
  |_,_, .nil=>λi a h=>by simp at h
  | _,_, .cons h t=>λi a e=>by
    cases i with
    |zero=>simp at e;subst e;exact⟨_,rfl,h⟩
    |succ i=>exact VRs.get t i a (by simpa using e)
def VRs.take{I:In}:∀{l vs},VRs I l vs->∀n,VRs I (l.take n) (vs.take n)
  |_,_, .nil=>λn=>by simp;exact .nil
  | _,_, .cons h t=>λn=>by
    cases n with
    |zero=>exact .nil
    |succ n=>exact .cons h (VRs.take t n)
def VRs.drop{I:In}:∀{l vs},VRs I l vs->∀n,VRs I (l.drop n) (vs.drop n)
  |_,_, .nil=>λn=>by simp;exact .nil
  | _,_, .cons h t=>λn=>by
    cases n with
    |zero=>exact .cons h t
    |succ n=>exact VRs.drop t n
def VRs.append{I:In}:∀{l vs},VRs I l vs->∀{m us},VRs I m us->VRs I (l++m) (vs++us)
 |_,_, .nil=>λh=>h
 |_,_, .cons h t=>λg=> .cons h (VRs.append t g)
def VRs.set{I:In}:∀{l vs},VRs I l vs->∀(i:Nat) {a v},VR I a v->VRs I (l.set i a) (vs.set i v)
  |_,_, .nil=>λi _ _ _=>by simp;exact .nil
  | _,_, .cons h t=>λi _ _ g=>by
    cases i with
    |zero=>exact .cons g t
    |succ i=>exact .cons h (VRs.set t i g)
def wE{α:Type} (P:O7):Sem α->Option α
 | .pure a=>some a
 | .program k=>wE P (k P)
 | .mark _ k=>wE P k
 |_=>none
def tj{α:Type} (P:O7):∀(s:Sem α) (a:α),wE P s=some a->∀w,s.run P w= .ok a w:=by
 intro s;induction s with
 |pure b=>intro a h w;simp[wE]at h;subst h;rfl
 |program k u=>intro a h w;exact u P a h w
 |mark m k u=>intro a h w;exact u a h w
 |_=>intro a h w;simp[wE]at h
def xn:AV->Option Value
 | .bool b=>some (.bool b)
 | .int k n=>some (.int k n)
 | .str l=>some (.string (mkS l))
 | .nilp=>some (.pointer none)
 | .nsl=>some (.slice none 0 0)
 | .nmap=>some (.map none)
 | .nilf=>some .nilFunc
 |_=>none
def Wn{a:AV} {v u:Value} (h:xn a=some v) (r:VR I a u):u=v:=by cases r<;>simp[xn]at h<;>exact h
def tT{a:AV} {v:Value} (h:xn a=some v):VR I a v:=by cases a<;>simp[xn]at h<;>subst h<;>constructor
mutual
def z6:Value->Option AV
 | .bool b=>some (.bool b)
 | .int k n=>some (.int k n)
 | .string s=>some (.str (s.data.toList.map UInt8.toNat))
 | .pointer none=>some .nilp
 | .slice none 0 0=>some .nsl
 | .map none=>some .nmap
 | .nilFunc=>some .nilf
 | .nilIface=>some .nili
 | .agg ⟨l⟩=>match ofVals l with|some x=>some (.agg x)|none=>none
 | .tuple ⟨l⟩=>match ofVals l with|some x=>some (.tup x)|none=>none
 |_=>none
def ofVals:List Value->Option (List AV)
  | []=>some []
  | v ::l=>match z6 v with
    | some a=>match ofVals l with
      |some x=>some (a::x)
      |none=>none
    |none=>none
end
def qgn(s:O6):mkS (s.data.toList.map UInt8.toNat)=s:=by obtain⟨⟨l⟩⟩:=s;simp only[mkS,List.map_map];congr 2;exact(List.map_congr_left λx _=>by simp).trans (List.map_id l)
mutual
def Sy(I:In):∀(v:Value) (a:AV),z6 v=some a->VR I a v
  | .bool b,a,h=>by simp[z6]at h;subst h;exact .bool b
  | .int k n,a,h=>by simp[z6]at h;subst h;exact .int k n
  | .string s,a,h=>by simp only[z6,Option.some.injEq]at h;subst h;have:=VR.str (I:=I) (s.data.toList.map UInt8.toNat);rw[qgn]at this;exact this
  | .pointer none,a,h=>by simp[z6]at h;subst h;exact .nilp
  | .pointer (some x),a,h=>by simp[z6]at h
  | .slice none 0 0,a,h=>by simp[z6]at h;subst h;exact .nsl
  | .slice none 0 (n+1),a,h=>by simp[z6]at h
  | .slice none (n+1) m,a,h=>by simp[z6]at h
  | .slice (some x) n m,a,h=>by simp[z6]at h
  | .map none,a,h=>by simp[z6]at h;subst h;exact .nmap
  | .map (some x),a,h=>by simp[z6]at h
  | .nilFunc,a,h=>by simp[z6]at h;subst h;exact .nilf
  | .agg ⟨l⟩,a,h=>by
    simp only[z6]at h;split at h
    · rename_i x hx;cases h;exact .agg (ofVals_rel I l _ hx)
    · cases h
  | .tuple ⟨l⟩,a,h=>by
    simp only[z6]at h;split at h
    · rename_i x hx;cases h;exact .tup (ofVals_rel I l _ hx)
    · cases h
  | .float ..,a,h=>by simp[z6]at h
  | .complex ..,a,h=>by simp[z6]at h
  | .chan ..,a,h=>by simp[z6]at h
  | .func ..,a,h=>by simp[z6]at h
  | .iface ..,a,h=>by simp[z6]at h
  | .nilIface,a,h=>by simp[z6]at h;subst h;exact .nili
def ofVals_rel(I:In):∀(v:List Value) (a:List AV),ofVals v=some a->VRs I a v
  | [],a,h=>by simp[ofVals]at h;subst h;exact .nil
  | v ::l,a,h=>by
    simp only[ofVals]at h;split at h
    · rename_i x hx;split at h
      · rename_i y u;cases h;exact .cons (Sy I v _ hx) (ofVals_rel I l _ u)
      · cases h
    · cases h
end
def Fw(v:Value):Option AV:=
 match v with
 | .bool b=>some (.bool b)
 | .int k n=>some (.int k n)
 | .string s=>some (.str (s.data.toList.map UInt8.toNat))
 | .nilFunc=>some .nilf
 | .nilIface=>some .nili
 |v=>z6 v
def qdf(v:Value):Fw v=z6 v:=by cases v<;>first|rfl|simp[Fw,z6]
def jE:Nat:=1000000
def slot(tmps:Array Value) (n:Nat):Value:=if n<jE then tmps.getD n undef else .pointer (some ⟨n- jE,0,none⟩)
def TR(I:In) (t:T AV) (tmps:Array Value):Prop:=∀n a,t.get n=some a->VR I a (slot tmps n)
def Zd{x:Array Value} {n:Nat} (h:n<jE):slot x n=x.getD n undef:=if_pos h
def TR.mono{I J:In} (u:I.le J) {t:T AV} {x:Array Value} (h:TR I t x):TR J t x:=λn a e=>(h n a e).mono u
def ev(t:T AV):Operand->Option AV
  | .tmp n=>match Nat.blt n jE with
    |true=>t.get n
    |false=>none
  | .const v=>Fw v
  | .global g=>t.get (jE+g)
  | .func f=>some (.fn f [])
def qn{I:In} {t:T AV} {a:Act} (h:TR I t a.tmps) {x:Operand} {v:AV} (e:ev t x=some v):VR I v (a.eval x):=by
  cases x with
  | tmp n=>
    simp only[ev]at e;split at e
    · rename_i u;have u:n<jE:=(by simpa[Nat.blt_eq]using u);have:=h n v e;rw[Zd u]at this;exact this
    · cases e
  |const c=>exact Sy I c v ((qdf c).symm.trans e)
  | global g=>
    have:=h _ v e;unfold slot at this;rw[if_neg (by omega),Nat.add_sub_cancel_left]at this;exact this
  |func f=>simp[ev]at e;subst e;exact .fn .nil
inductive AO where
 |cells (elem:TypeId) (fz:Option Nat) (grown:Bool) (l:List AV)
 |map (es:List (Value×AV×Nat)) (clock:Nat)
 |row (elem:TypeId) (fz:Nat) (vs:List Value)
 |mrow (es:List MapEntry) (clock:Nat)
 |iter (m since:Nat) (seen:List Nat) (c:Nat)
inductive MR(I:In):List (Value×AV×Nat)->List MapEntry->Prop
 |nil:MR I [] []
 |cons {k a n l v ms} (h:VR I a v) (t:MR I l ms):MR I ((k,a,n)::l) (⟨k,v,n⟩::ms)
def MR.mono{I J:In} (u:I.le J) {l ms} (h:MR I l ms):MR J l ms:=by
 induction h with
 |nil=>exact .nil
 |cons h t A=>exact .cons (h.mono u) A
inductive OR(I:In) (t:Nat×Nat):AO->Obj->Prop
 |cells {elem elem' fz g l pre vs rest fr} (h:VRs I l vs) (hg:g=false->rest=[]/\pre=[]) (hp:pre.length=t.1) (ht:(vs++rest).length=t.2) (hf:∀f,fz=some f->∀o,f<=o->o<t.2->¬(fr.1<=t.1+o/\t.1+o<fr.2)) (hE:elem'=elem\/fz=none/\g=true):OR I t (.cells elem fz g l) (.cells ⟨pre++(vs++rest)⟩ elem' fr)
 |map {es ms clock} (h:MR I es ms):OR I t (.map es clock) (.map ⟨ms⟩ clock)
 |row {elem fz pre vs rest fr} (hp:pre.length=t.1) (ht:(vs++rest).length=t.2) (hf:∀o,fz<=o->o<t.2->¬(fr.1<=t.1+o/\t.1+o<fr.2)):OR I t (.row elem fz vs) (.cells ⟨pre++(vs++rest)⟩ elem fr)
 |mrow {es clock}:OR I t (.mrow es clock) (.map ⟨es⟩ clock)
 |iter {m since seen c b t'} (h:I m=some (b,t')) (hp:t.1=0):OR I t (.iter m since seen c) (.mapIter (some b) since ⟨seen⟩ c)
def AO.rw:AO->Bool
 | .cells _ none _ _=>false
 |_=>true
def OR.mono{I J:In} (A:I.le J) {t o ob} (h:OR I t o ob):OR J t o ob:=by
 cases h with
 |cells h H hp C u G=>exact .cells (VRs.mono A h) H hp C u G
 |map h=>exact .map (h.mono A)
 |row hp C u=>exact .row hp C u
 |mrow=>exact .mrow
 |iter h hp=>exact .iter (A _ _ h) hp
structure Sim(F:Bool->Nat->Prop) (I:In) (h:T AO) (w:World):Prop where
 obj:∀id o b t,h.get id=some o->I id=some (b,t)->∃ob,w.heap[b]? =some ob/\OR I t o ob
 inj:∀id id' o o' b t t',h.get id=some o->h.get id'=some o'->I id=some (b,t)->I id'=some (b,t')->id=id'
 fr:∀id o b t,h.get id=some o->I id=some (b,t)->F true b->o.rw=false/\F false b
structure Same(w w':World):Prop where
 os:w'.os=w.os
 tape:w'.tape=w.tape
 output:w'.output=w.output
def Same.refl(w:World):Same w w:=⟨rfl,rfl,rfl⟩
def Same.trans{a b c:World} (h:Same a b) (g:Same b c):Same a c:=⟨g.os.trans h.os,g.tape.trans h.tape,g.output.trans h.output⟩
def kh(b o n:Nat):(⟨b,o,none⟩:Addr).add n=⟨b,o+n,none⟩:=by unfold Addr.add;split<;>simp_all
variable {w:World}
def cell_of{b:Nat} {c:Array Value} {e fr} (h:w.heap[b]? =some (.cells c e fr)) (o:Nat):w.cell? ⟨b,o,none⟩=c[o]? :=by simp[World.cell?,h]
def sZ{P:O7} {w:World} {b o:Nat} {c:Array Value} {e fr} (h:w.heap[b]? =some (.cells c e fr)) (cs:List Value) (u:∀(j:Nat) v,cs[j]? =some v->c[o+j]? =some v):
  (loadCells ⟨b,o,none⟩ cs.length).run P w= .ok ⟨cs⟩ w:=
 run_loadCells_list w ⟨b,o,none⟩ cs λj v A=>by rw[kh,cell_of h];exact u j v A
def shapeOf(P:O7) (t:TypeId):Option (Option Nat):=
 match P.underlying t with
 |some (.struct _)|some (.array _ _)=>match P.info? t with|some i=>some (some i.size)|none=>none
 |some _=>some none
 |none=>none
def takeN(l:List AV) (o n:Nat):Option (List AV):=
 let x:=(l.drop o).take n
 if x.length=n then some x else none
def tX{I:In} {l:List AV} {pre vs rest:List Value} (h:VRs I l vs) {o n s:Nat} (hs:pre.length=s) {x:List AV} (e:takeN l o n=some x):
  ∃A,VRs I x A/\A.length=n/\∀(j:Nat) v,A[j]? =some v->(⟨pre++(vs++rest)⟩:Array Value)[s+o+j]? =some v:=by
 unfold takeN at e;simp only at e;split at e
 ·rename_i G;cases e;have hr:=VRs.take (VRs.drop h o) n;refine⟨_,hr,by rw[←hr.len];exact G,λj v C=> ?_⟩;have u:((vs.drop o).take n)[j]? =some v:=C;rw[List.getElem?_take]at u;split at u
  ·rw[List.getElem?_drop]at u;simp only[List.getElem?_toArray];rw[List.getElem?_append_right (by omega),show s+o+j- pre.length=o+j by omega,List.getElem?_append_left (by have:=(List.getElem?_eq_some_iff.1 u).1;exact this)];exact u
  ·cases u
 ·cases e
def Gf(P:O7) (h:T AO) (t:TypeId) (id off:Nat):Option AV:=
  match h.get id with
  | some (.cells _ _ _ l)=>match shapeOf P t with
    |some (some n)=>match takeN l off n with|some x=>some (.agg x)|none=>none
    |some none=>match l.drop off with|x::_=>some x| []=>none
    |none=>none
  |_=>none
def Vp{P:O7} {t:TypeId} {s} (h:shapeOf P t=some s):(isAgg t).run P w= .ok s.isSome w/\(∀n,s=some n->(sizeOf t).run P w= .ok n w):=by
  unfold shapeOf at h;have hu:∀d,P.underlying t=some d->(underlying t).run P w= .ok d w:=λd hd=>run_underlying (P:=P) hd w;cases hd:P.underlying t with
  |none=>rw[hd]at h;cases h
  | some d=>
    rw[hd]at h;have:=hu d hd;have key:∀n,(match P.info? t with|some i=>some (some i.size)|none=>none)=some (some n)->(sizeOf t).run P w= .ok n w:=λn u=>by
      cases hi:P.info? t with
      |none=>rw[hi]at u;cases u
      | some i=>
        rw[hi]at u;cases u;simp[sizeOf,typeInfo,program,Sem.run,hi,bind,Sem.bind,pure]
    cases d<;>simp only at h;case struct fs=>
      cases hi:P.info? t with
      |none=>rw[hi]at h;cases h
      | some i=>
        rw[hi]at h;cases h;refine⟨by simp[isAgg,this,Result.andThen],λn u=>key n (by rw[hi];exact congrArg some u)⟩
    case array k e=>
      cases hi:P.info? t with
      |none=>rw[hi]at h;cases h
      | some i=>
        rw[hi]at h;cases h;refine⟨by simp[isAgg,this,Result.andThen],λn u=>key n (by rw[hi];exact congrArg some u)⟩
    all_goals
      cases h;exact⟨by simp[isAgg,this,Result.andThen],λn u=>by cases u⟩
def tI {P :O7} {F:Bool->Nat->Prop} {I:In} {h:T AO} {w:World} (hs:Sim F I h w) {t:TypeId} {id off b s k:Nat} {a:AV} (e:Gf P h t id off=some a) (hi:I id=some (b,s,k)):
    ∃v,(loadVar t ⟨b,s+off,none⟩).run P w= .ok v w/\VR I a v:=by
  unfold Gf at e;split at e
  · rename_i el fz g l X;obtain⟨ob,O,ho⟩:=hs.obj _ _ _ _ X hi;cases ho with
    | @cells _ _ _ _ _ pre vs rest fr h Y hp ht hf hE=>
      split at e
      · rename_i n A;split at e
        · rename_i x hx;cases e;obtain⟨U,hy,Z,V⟩:=tX (rest:=rest) h hp hx;have hr:=sZ (P:=P) O U V;rw[Z]at hr;obtain⟨H,N⟩:=Vp (P:=P) (w:=w) A;refine⟨.agg ⟨U⟩,?_, .agg hy⟩;simp[loadVar,H,N n rfl,hr,Result.andThen]
        · cases e
      · rename_i A;split at e
        · rename_i x r hx;cases e;have hd:=VRs.drop h off;rw[hx]at hd;obtain⟨H,N⟩:=Vp (P:=P) (w:=w) A;cases C:vs.drop off with
          |nil=>rw[C]at hd;cases hd
          | cons v vr=>
            rw[C]at hd;cases hd with
            | cons hv _=>
              refine⟨v,?_,hv⟩;have G:vs[off]? =some v:=by have:(vs.drop off)[0]? =some v:=(by rw[C];rfl);rw[List.getElem?_drop]at this;simpa using this
              have u:w.cell? ⟨b,s+off,none⟩=some v:=(by rw[cell_of O];simp only[List.getElem?_toArray];simp only at hp;rw[List.getElem?_append_right (by omega),show s+off- pre.length=off by omega,List.getElem?_append_left (List.getElem?_eq_some_iff.1 G).1];exact G);have J:(load ⟨b,s+off,none⟩).run P w= .ok v w:=(by simp[load,Sem.run,u]);simp[loadVar,H,J,Result.andThen]
        · cases e
      · cases e
  · cases e
def spl{α:Type} (l:List α) (k:Nat):List α->List α
 | []=>l
 |x::xs=>spl (l.set k x) (k+1) xs
def q73{α:Type}:∀(xs:List α) (l:List α) (k:Nat),(spl l k xs).length=l.length
 | [],_,_=>rfl
 |x::xs,l,k=>by rw[spl,q73 xs];simp
def Sl{α:Type}:∀(xs l r:List α) (k:Nat),k+xs.length<=l.length->spl (l++r) k xs=spl l k xs++r
  | [],_,_,_,_=>rfl
  | x::xs,l,r,k,h=>by simp only[List.length_cons]at h;rw[spl,spl,List.set_append_left _ _ (by omega),Sl xs _ r (k+1) (by simp;omega)]
def S0{I:In}:∀{xs:List AV} {us:List Value},VRs I xs us->∀{l vs} (k:Nat),VRs I l vs->VRs I (spl l k xs) (spl vs k us)
 |_,_, .nil=>λ_ h=>h
 |_,_, .cons h t=>λk g=>S0 t (k+1) (VRs.set g k h)
def FZ{α:Type}:∀(xs p l:List α) (k:Nat),spl (p++l) (p.length+k) xs=p++spl l k xs
  | [],_,_,_=>rfl
  | x::xs,p,l,k=>by rw[spl,spl,List.set_append_right _ _ (by omega),Nat.add_sub_cancel_left,Nat.add_assoc,FZ xs p _ (k+1)]
def atom:AV->Bool
 | .agg _| .tup _=>false
 | .sv v=>v.oneCell'
 |_=>true
def qbq{I:In} {a:AV} {v:Value} (h:VR I a v) (u:atom a=true):v.oneCell'=true:=by cases h<;>first|rfl|exact u|simp[atom]at u
def FC{I:In}:∀{xs:List AV} {us:List Value},VRs I xs us->xs.all atom=true->∀v∈us,v.oneCell'=true
  |_,_, .nil=>λ_ v A=>by cases A
  | _,_, .cons h t=>λu v A=>by
    simp only[List.all_cons,Bool.and_eq_true]at u;cases A with
    |head=>exact qbq h u.1
    |tail _ hm=>exact FC t u.2 v hm
def FA{P:O7} {b o:Nat} {e:TypeId} {fr:Nat×Nat}:∀(vs:List Value) (i:Nat) (cur:List Value) (w:World),w.heap[b]? =some (.cells ⟨cur⟩ e fr)->o+i+vs.length<=cur.length->
    (∀j,o+i<=j->j<o+i+vs.length->¬(fr.1<=j/\j<fr.2))->(∀v∈vs,v.oneCell'=true)->
    ∃C,(storeCells ⟨b,o,none⟩ vs i).run P w= .ok () C/\C.heap[b]? =some (.cells ⟨spl cur (o+i) vs⟩ e fr)/\(∀c,c≠b->C.heap[c]? =w.heap[c]?)/\C.heap.size=w.heap.size/\Same w C
  | [],i,cur,w,h,_,_,_=>⟨w,rfl,h,λ_ _=>rfl,rfl, .refl w⟩
  | v ::r,i,cur,w,h,hl,H,T=>by
    simp only[List.length_cons]at hl H;have A:∃u,w.cell? ⟨b,o+i,none⟩=some u:=(by rw[cell_of h];exact⟨_,by simp only[List.getElem?_toArray];exact List.getElem?_eq_getElem (by omega)⟩);obtain⟨u,hu⟩:=A;have N:w.frozen? ⟨b,o+i,none⟩=false:=by have:=H (o+i) (Nat.le_refl _) (by omega);simp only[World.frozen?,h];simp only[Bool.and_eq_false_iff,decide_eq_false_iff_not];omega
    have O:(store ((⟨b,o,none⟩:Addr).add i) v).run P w= .ok () (w.setCell ⟨b,o+i,none⟩ v):=(by rw[kh,run_store P w _ v _ (T v (by simp))];simp[hu,N]);have G:(w.setCell ⟨b,o+i,none⟩ v).heap[b]? =some (.cells ⟨cur.set (o+i) v⟩ e fr):=(by simp only[World.setCell,Array.getElem?_modify,if_true,h,Option.map_some];simp);have J:∀j,o+(i+1)<=j->j<o+(i+1)+r.length->¬(fr.1<=j/\j<fr.2):=λj a1 a2=>H j (by omega) (by omega);obtain⟨C,V,X,Y,Z,h6⟩:=FA r (i+1) (cur.set (o+i) v) (w.setCell ⟨b,o+i,none⟩ v) G (by rw[List.length_set];omega) J (λv hv=>T v (by simp[hv]));refine⟨C,?_,?_,?_,?_,?_⟩
    · simp only[storeCells,Sem.run_bind,O,Result.andThen];exact V
    · rw[X,spl];rfl
    · intro c U;rw[Y c U,Below.heap_setCell _ _ _ _ U]
    · rw[Z];simp
    · exact Same.trans (b:=w.setCell ⟨b,o+i,none⟩ v) ⟨rfl,rfl,rfl⟩ h6
structure Grow(F:Bool->Nat->Prop) (I:In) (nx:Nat) (w:World) (I':In) (nx':Nat) (h':T AO) (w':World):Prop where
 le:I.le I'
 new:∀i x,I' i=some x->I i=some x\/nx<=i/\i<nx'
 sim:Sim F I' h' w'
 fr:∀b,F true b->w'.heap[b]? =w.heap[b]?
 size:w.heap.size<=w'.heap.size
 same:Same w w'
def Sim.grow{F I h w} (s:Sim F I h w) (nx:Nat):Grow F I nx w I nx h w:=⟨In.le_refl I,λ_ _ h=> .inl h,s,λ_ _=>rfl,Nat.le_refl _, .refl w⟩
def Sim.upd{F I h w} (s:Sim F I h w) {id b t o o' h'} (X:h.get id=some o) (N:o.rw=true) (hi:I id=some (b,t)) (hp:T.put 64 id (some o') h=some h') {U O} (hb:U.heap[b]? =some O) (ho:OR I t o' O) (G:∀c,c≠b->U.heap[c]? =w.heap[c]?) (Z:U.heap.size=w.heap.size) (H:Same w U) (nx:Nat):
  Grow F I nx w I nx h' U:=by
 have A:=T.get_put _ _ _ _ _ hp;refine⟨In.le_refl I,λ_ _ h=> .inl h,⟨?_,?_,?_⟩,λc hc=> ?_,Nat.le_of_eq Z.symm,H⟩
 ·intro J o1 V t1 u C;rw[A]at u;split at u
  ·rename_i e;subst e;cases u;rw[hi]at C;cases C;exact⟨_,hb,ho⟩
  ·rename_i e;obtain⟨ob,h3,h4⟩:=s.obj _ _ _ _ u C;have:V≠b:=λeb=>e (s.inj J id o1 o b t1 t u X (eb ▸ C) hi);exact⟨ob,(G V this).trans h3,h4⟩
 ·intro J id2 o1 o2 V t1 t2 u C i1 i2;have live:∀k ok,h'.get k=some ok->∃o,h.get k=some o:=λk ok Y=>by
   rw[A]at Y;split at Y
   ·rename_i e;subst e;exact⟨_,X⟩
   ·exact⟨_,Y⟩
  obtain⟨p1,q1⟩:=live _ _ u;obtain⟨p2,q2⟩:=live _ _ C;exact s.inj _ _ _ _ _ _ _ q1 q2 i1 i2
 ·intro J o1 V t1 u C hf;rw[A]at u;split at u
  ·rename_i e;subst e;have:=(s.fr _ _ _ _ X C hf).1;rw[N]at this;cases this
  ·exact s.fr _ _ _ _ u C hf
 ·exact G c λe=>by have:=(s.fr _ _ _ _ X hi (e ▸ hc)).1;rw[N]at this;cases this
def ext(I:In) (nx:Nat) (x:Nat×Nat×Nat):In:=λi=>if i=nx then some x else I i
def zT(I:In) (nx:Nat) (x:Nat×Nat×Nat):ext I nx x nx=some x:=by simp[ext]
variable {nx:Nat}
def Zh{I:In} (x:Nat×Nat×Nat) (h:I nx=none):I.le (ext I nx x):=λi y hi=>by
 unfold ext;split
 ·rename_i e;subst e;rw[h]at hi;cases hi
 ·exact hi
def qa0{I:In} {x:Nat×Nat×Nat}:∀i y,ext I nx x i=some y->I i=some y\/nx<=i/\i<nx+1:=λi y h=>by
 unfold ext at h;split at h
 ·rename_i e;subst e;exact .inr ⟨Nat.le_refl _,Nat.lt_succ_self _⟩
 ·exact .inl h
def Sim.push{F I h w} (s:Sim F I h w) {nx t o h'} (hi:I nx=none) (Y:∀b,F true b->b<w.heap.size) (hp:T.put 64 nx (some o) h=some h') {U ob} (X:U.heap=w.heap.push ob) (ho:OR (ext I nx (w.heap.size,t)) t o ob) (G:Same w U):
  Grow F I nx w (ext I nx (w.heap.size,t)) (nx+1) h' U:=by
 have C:=T.get_put _ _ _ _ _ hp;have hle:=Zh (w.heap.size,t) hi;have N:∀c,c<w.heap.size->U.heap[c]? =w.heap[c]? :=λc Z=>by rw[X,Array.getElem?_push,if_neg (by omega)]
 refine⟨hle,qa0,⟨?_,?_,?_⟩,λc Z=>N c (Y c Z),by rw[X];simp,G⟩
 ·intro H o1 V t1 A u;rw[C]at A;split at A
  ·rename_i e;subst e;cases A;rw[zT]at u;cases u;exact⟨ob,by rw[X];simp,ho⟩
  ·rename_i e;simp only[ext,if_neg e]at u;obtain⟨J,O,h4⟩:=s.obj _ _ _ _ A u;exact⟨J,(N V (Array.getElem?_eq_some_iff.1 O).1).trans O,h4.mono hle⟩
 ·intro H id2 o1 o2 V t1 t2 A u i1 i2;rw[C]at A u;have low:∀k ok b t,h.get k=some ok->I k=some (b,t)->b≠w.heap.size:=λk ok b t hk hi=>by obtain⟨J,O,_⟩:=s.obj _ _ _ _ hk hi;have:=(Array.getElem?_eq_some_iff.1 O).1;omega
  split at A<;>split at u<;>rename_i e1 e2
  ·rw[e1,e2]
  ·subst e1;rw[zT]at i1;cases i1;simp only[ext,if_neg e2]at i2;exact absurd rfl (low _ _ _ _ u i2)
  ·subst e2;rw[zT]at i2;cases i2;simp only[ext,if_neg e1]at i1;exact absurd rfl (low _ _ _ _ A i1)
  ·simp only[ext,if_neg e1]at i1;simp only[ext,if_neg e2]at i2;exact s.inj _ _ _ _ _ _ _ A u i1 i2
 ·intro H o1 V t1 A u hf;rw[C]at A;split at A
  ·rename_i e;subst e;rw[zT]at u;cases u;have:=Y _ hf;omega
  ·rename_i e;simp only[ext,if_neg e]at u;exact s.fr _ _ _ _ A u hf
def Sim.over{F I h w} (s:Sim F I h w) {id b t o0 nx o u h'} (Z:h.get id=some o0) (V:o0.rw=true) (hid:I id=some (b,t)) {H:Nat×Nat} (hi:I nx=none) (hp1:T.put 64 id none h=some u) (hp:T.put 64 nx (some o) u=some h') {X ob} (hb:X.heap[b]? =some ob) (ho:OR (ext I nx (b,H)) H o ob) (G:∀c,c≠b->X.heap[c]? =w.heap[c]?) (hsz:X.heap.size=w.heap.size) (N:Same w X):
  Grow F I nx w (ext I nx (b,H)) (nx+1) h' X:=by
 have J:=T.get_put _ _ _ _ _ hp1;have C:∀j,h'.get j=if j=nx then some o else if j=id then none else h.get j:=λj=>by rw[T.get_put _ _ _ _ _ hp j,J]
 have hle:=Zh (b,H) hi;refine⟨hle,qa0,⟨?_,?_,?_⟩,λc hc=>G c λe=>(by have:=(s.fr _ _ _ _ Z hid (e ▸ hc)).1;rw[V]at this;cases this),by omega,N⟩
 ·intro O o1 Y t1 u A;rw[C]at u;split at u
  ·rename_i e;subst e;cases u;rw[zT]at A;cases A;exact⟨ob,hb,ho⟩
  ·rename_i e;split at u
   ·cases u
   ·rename_i U;simp only[ext,if_neg e]at A;obtain⟨ob1,h3,h4⟩:=s.obj _ _ _ _ u A;have:Y≠b:=λeb=>U (s.inj O id o1 o0 b t1 t u Z (eb ▸ A) hid);exact⟨ob1,(G Y this).trans h3,h4.mono hle⟩
 ·intro O id2 o1 o2 Y t1 t2 u A i1 i2;rw[C]at u A;have low:∀k ok H,k≠id->h.get k=some ok->I k=some (b,H)->False:=λk ok H hne hk hi=>hne (s.inj k id ok o0 b H t hk Z hi hid);split at u<;>split at A<;>rename_i e1 e2
  ·rw[e1,e2]
  ·subst e1;rw[zT]at i1;cases i1;split at A
   ·cases A
   ·rename_i U;simp only[ext,if_neg e2]at i2;exact(low _ _ _ U A i2).elim
  ·subst e2;rw[zT]at i2;cases i2;split at u
   ·cases u
   ·rename_i U;simp only[ext,if_neg e1]at i1;exact(low _ _ _ U u i1).elim
  ·simp only[ext,if_neg e1]at i1;simp only[ext,if_neg e2]at i2;split at u
   ·cases u
   ·split at A
    ·cases A
    ·exact s.inj _ _ _ _ _ _ _ u A i1 i2
 ·intro O o1 Y t1 u A hf;rw[C]at u;split at u
  ·rename_i e;subst e;rw[zT]at A;cases A;have:=(s.fr _ _ _ _ Z hid hf).1;rw[V]at this;cases this
  ·rename_i e;split at u
   ·cases u
   ·simp only[ext,if_neg e]at A;exact s.fr _ _ _ _ u A hf
def Ge(P:O7) (s:Sem Next) (I:In) (a:AV):Prop:=∃v,(∀w,s.run P w= .ok (.value v) w)/\VR I a v
def zj(P:O7) (s:Sem Value) (I:In) (a:AV):Prop:=∃v,(∀w,s.run P w= .ok v w)/\VR I a v
variable {s:Sem Value} {I:In}
def zj.next{P:O7} {a:AV} (h:zj P s I a):Ge P (do pure (.value (←s))) I a:=by obtain⟨v,u,A⟩:=h;exact⟨v,λw=>by simp[u w,Result.andThen],A⟩
def Ss{P:O7} {a:AV} {v:Value} (h:wE P s=some v) (g:z6 v=some a):zj P s I a:=
 ⟨v,tj P s v h,Sy I v a g⟩
def nth{α:Type}:List α->Nat->Option α
  | [],_=>none
  | x::l,n=>match n with
    |0=>some x
    |n+1=>nth l n
def jY{α:Type}:∀(l:List α) (n:Nat),nth l n=l[n]?
 | [],_=>by simp[nth]
 |x::l,0=>by simp[nth]
 |x::l,n+1=>by simp[nth,jY l n]
def Z8:List Nat->List Nat->Bool
 | [],[]=>true
 |a::x,b::y=>if a % 256=b % 256 then Z8 x y else false
 |_,_=>false
def s9(l:List Nat):(mkS l).toList=l.map UInt8.ofNat:=by rw[ByteArray.toList_eq];rfl
def Qi(l:List Nat):(mkS l).size=l.length:=by simp[mkS,ByteArray.size]
def q8f(l m:List Nat):mkS l++mkS m=mkS (l++m):=by unfold mkS;apply ByteArray.ext;simp
def qex(l:List Nat) (i:Nat):(mkS l)[i]? =(l[i]?).map UInt8.ofNat:=by
 by_cases h:i<l.length
 ·have u:i<(mkS l).size:=by rw[Qi];exact h
  rw[ByteArray.getElem?_lt' _ _ u,List.getElem?_eq_getElem h];simp only[Option.map_some,Option.some.injEq];show(mkS l).data[i]=_;simp[mkS]
 ·rw[ByteArray.getElem?_ge' _ _ (by rw[Qi];exact h),List.getElem?_eq_none (by omega)];rfl
def ofNat_eq(a b:Nat):(UInt8.ofNat a=UInt8.ofNat b)↔a % 256=b % 256:=by
 constructor
 ·intro h;have:=congrArg UInt8.toNat h;simpa[UInt8.toNat_ofNat']using this
 ·intro h;apply UInt8.toNat_inj.1;simpa[UInt8.toNat_ofNat']using h
def qd5:∀(a b:List Nat),Z8 a b=(a.map UInt8.ofNat==b.map UInt8.ofNat)
  | [],[]=>rfl
  | [],_::_=>rfl
  |_::_,[]=>rfl
  | a ::x,b::y=>by
    rw[Z8];split
    · rename_i h;rw[qd5 x y,List.map_cons,List.map_cons,List.cons_beq_cons,(ofNat_eq a b).2 h];simp
    · rename_i h;rw[List.map_cons,List.map_cons,List.cons_beq_cons];have:(UInt8.ofNat a==UInt8.ofNat b)=false:=(by rw[beq_eq_false_iff_ne];exactλe=>h ((ofNat_eq a b).1 e));rw[this];rfl
def Jo:List Nat->List Nat->Bool
 |_,[]=>false
 | [],_::_=>true
 |a::x,b::y=>if a % 256<b % 256 then true else if a % 256=b % 256 then Jo x y else false
def qdd:∀(a b:List Nat),Jo a b=Op.bytesLess (a.map UInt8.ofNat) (b.map UInt8.ofNat)
  | [],[]=>rfl
  | [],_::_=>rfl
  |_::_,[]=>rfl
  | a ::x,b::y=>by
    rw[Jo,List.map_cons,List.map_cons,Op.bytesLess,←qdd x y];have u:decide (UInt8.ofNat a<UInt8.ofNat b)=decide (a % 256<b % 256):=(by simp[UInt8.lt_iff_toNat_lt,UInt8.toNat_ofNat']);have A:(UInt8.ofNat a==UInt8.ofNat b)=decide (a % 256=b % 256):=by
      by_cases h:a % 256=b % 256
      · rw[(ofNat_eq a b).2 h];simp[h]
      · rw[decide_eq_false h,beq_eq_false_iff_ne];exactλe=>h ((ofNat_eq a b).1 e)
    rw[u,A];by_cases h:a % 256<b % 256
    · simp[h]
    · by_cases g:a % 256=b % 256<;>simp[h,g]
def NN(op:BinOp) (a b:List Nat):Option AV:=
 match op with
 | .add=>if a.length+b.length<9223372036854775808 then some (.str (a++b))else none
 | .eql=>some (.bool (Z8 a b))
 | .neq=>some (.bool (!Z8 a b))
 | .lss=>some (.bool (Jo a b))
 | .leq=>some (.bool (Jo a b||Z8 a b))
 | .gtr=>some (.bool (!(Jo a b||Z8 a b)))
 | .geq=>some (.bool (!Jo a b))
 |_=>none
variable {op:BinOp}
def qct{P:O7} {a b:List Nat} {r:AV} (h:NN op a b=some r):zj P (Op.stringOp op (mkS a) (mkS b)) I r:=by
 unfold Op.stringOp;rw[s9,s9,←qd5,←qdd];cases op<;>simp only[NN]at h;case add=>
  split at h
  ·rename_i A;cases h;refine⟨.string (mkS (a++b)),λw=> ?_, .str _⟩;have u:¬(((mkS a).size+(mkS b).size:Nat):Int)>IntKind.i64.max:=(by rw[Qi,Qi];simp[IntKind.max,IntKind.signed,IntKind.bits];omega);simp only[if_neg u,q8f];rfl
  ·cases h
 all_goals (first| (cases h;done)| (cases h;exact⟨_,λw=>rfl, .bool _⟩))
def fits:IntKind->Int->Bool
 | .i64, .ofNat n=>Nat.ble n 9223372036854775807
 | .i64, .negSucc n=>Nat.ble n 9223372036854775807
 | .u64, .ofNat n=>Nat.ble n 18446744073709551615
 | .i32, .ofNat n=>Nat.ble n 2147483647
 | .i32, .negSucc n=>Nat.ble n 2147483647
 | .u32, .ofNat n=>Nat.ble n 4294967295
 | .u8, .ofNat n=>Nat.ble n 255
 |_,_=>false
variable {k:IntKind}
def Sr{n:Int} (h:fits k n=true):k.wrap n=n:=by
 unfold fits at h;split at h;all_goals (try (cases h;done))
 all_goals
  have h:=Nat.le_of_ble_eq_true h;simp only[IntKind.wrap,IntKind.bits,IntKind.signed,Int.negSucc_eq,Int.ofNat_eq_natCast];simp;try omega
def yJ:Int->Int->Bool
 | .ofNat a, .ofNat b=>Nat.blt a b
 | .ofNat _, .negSucc _=>false
 | .negSucc _, .ofNat _=>true
 | .negSucc a, .negSucc b=>Nat.blt b a
def yF:Int->Int->Bool
 | .ofNat a, .ofNat b=>Nat.beq a b
 | .negSucc a, .negSucc b=>Nat.beq a b
 |_,_=>false
def blt_eq(a b:Nat):Nat.blt a b=decide (a<b):=by
 by_cases h:a<b
 ·rw[decide_eq_true h];simpa[Nat.blt_eq]using h
 ·rw[decide_eq_false h];rw[Bool.eq_false_iff];simpa[Nat.blt_eq]using h
def qe8(a b:Nat):Nat.beq a b=decide (a=b):=by
 by_cases h:a=b
 ·subst h;simp
 ·rw[decide_eq_false h];cases u:Nat.beq a b with
  |true=>exact absurd (Nat.eq_of_beq_eq_true u) h
  |false=>rfl
def VF(a b:Int):yJ a b=decide (a<b):=by cases a<;>cases b<;>simp only[yJ,blt_eq,Int.ofNat_eq_natCast,Int.negSucc_eq]<;>first| (apply decide_eq_decide.2;omega)| (symm;apply decide_eq_true;omega)| (symm;apply decide_eq_false;omega)
def F7(a b:Int):yF a b=decide (a=b):=by cases a<;>cases b<;>simp only[yF,qe8,Int.ofNat_eq_natCast,Int.negSucc_eq]<;>first| (apply decide_eq_decide.2;omega)| (symm;apply decide_eq_false;omega)
def NH(op:BinOp) (k:IntKind) (x y:Int):Option AV:=
 match op with
 | .add=>let r:=Int.add x y;match fits k r with|true=>some (.int k r)|false=>none
 | .sub=>let r:=Int.sub x y;match fits k r with|true=>some (.int k r)|false=>none
 | .eql=>some (.bool (yF x y))
 | .neq=>some (.bool (!yF x y))
 | .lss=>some (.bool (yJ x y))
 | .gtr=>some (.bool (yJ y x))
 | .leq=>some (.bool (!yJ y x))
 | .geq=>some (.bool (!yJ x y))
 |_=>none
def qgy:IntKind->IntKind->Bool
 | .i64, .i64| .u64, .u64| .i32, .i32| .u32, .u32| .u8, .u8=>true
 |_,_=>false
def qco{k u:IntKind} (h:qgy k u=true):k=u:=by cases k<;>cases u<;>first|rfl|cases h
def qc4{P:O7} {t:TypeId} {x y:Int} {r:AV} (h:NH op k x y=some r):zj P (binOp op t (.int k x) (.int k y)) I r:=by
 cases op<;>simp only[NH]at h;case add=>
  split at h
  ·rename_i u;cases h;exact⟨_,λw=>by simp only[binOp,ne_eq,not_true,if_false,Op.intArith,Sem.run_pure];rw[show x+y=Int.add x y from rfl,Sr u], .int _ _⟩
  ·cases h
 case sub=>
  split at h
  ·rename_i u;cases h;exact⟨_,λw=>by simp only[binOp,ne_eq,not_true,if_false,Op.intArith,Sem.run_pure];rw[show x- y=Int.sub x y from rfl,Sr u], .int _ _⟩
  ·cases h
 case eql=>cases h;exact⟨.bool (x==y),λw=>by simp only[binOp,ne_eq,not_true,if_false,Op.intCmp,Sem.run_pure],by rw[show(x==y)=decide (x=y)from rfl,←F7];exact .bool _⟩
 case neq=>cases h;exact⟨.bool (x !=y),λw=>by simp only[binOp,ne_eq,not_true,if_false,Op.intCmp,Sem.run_pure],by rw[show(x !=y)= !decide (x=y)from rfl,←F7];exact .bool _⟩
 case lss=>cases h;exact⟨.bool (decide (x<y)),λw=>by simp only[binOp,ne_eq,not_true,if_false,Op.intCmp,Sem.run_pure],by rw[←VF];exact .bool _⟩
 case gtr=>cases h;exact⟨.bool (decide (x>y)),λw=>by simp only[binOp,ne_eq,not_true,if_false,Op.intCmp,Sem.run_pure],by rw[show decide (x>y)=decide (y<x)from rfl,←VF];exact .bool _⟩
 case leq=>cases h;exact⟨.bool (decide (x<=y)),λw=>by simp only[binOp,ne_eq,not_true,if_false,Op.intCmp,Sem.run_pure],by
  have:decide (x<=y)= !yJ y x:=by rw[VF];by_cases h:y<x<;>simp[h]<;>omega
  rw[this];exact .bool _⟩
 case geq=>cases h;exact⟨.bool (decide (x>=y)),λw=>by simp only[binOp,ne_eq,not_true,if_false,Op.intCmp,Sem.run_pure],by
  have:decide (x>=y)= !yJ x y:=by rw[VF];by_cases h:x<y<;>simp[h]<;>omega
  rw[this];exact .bool _⟩
 all_goals cases h
def ur(P:O7) (op:BinOp) (t:TypeId) (a b:AV):Option AV:=
  match a,b with
  | .int k x, .int h y=>match(match qgy k h with|true=>NH op k x y|false=>none)with
    |some r=>some r
    |none=>match wE P (binOp op t (.int k x) (.int h y))with|some v=>Fw v|none=>none
  | .str x, .str y=>NN op x y
  | .bool x, .bool y=>match wE P (binOp op t (.bool x) (.bool y))with|some v=>z6 v|none=>none
  | a,b=>
    match op with
    | .eql| .neq=>match aeq P t a b with|some r=>some (.bool (if op matches .eql then r else !r))|none=>none
    |_=>none
where
  aeq (P:O7) (t:TypeId) (a b:AV):Option Bool:=
    match P.underlying t,a,b with
    |some (.pointer _), .nilp, .nilp=>some true
    |some (.pointer _), .nilp, .ptr .. =>some false
    |some (.pointer _), .ptr .., .nilp=>some false
    |some (.pointer e), .ptr i f, .ptr j g=>if i=j then(match P.info? e with|some k=>if k.size=0 then none else some (f==g)|none=>none)else none
    |some (.slice _), .nsl, .nsl=>some true
    |some (.slice _), .nsl, .sl .. |some (.slice _), .nsl, .gsl .. =>some false
    |some (.slice _), .sl .., .nsl|some (.slice _), .gsl .., .nsl=>some false
    |some (.map ..), .nmap, .nmap=>some true
    |some (.map ..), .nmap, .map .. |some (.map ..), .map .., .nmap=>some false
    |some (.func ..), .nilf, .nilf=>some true
    |some (.func ..), .nilf, .fn .. |some (.func ..), .fn .., .nilf=>some false
    | _, .agg x, .agg y=>match concs x,concs y with
      |some u,some v=>wE P (do (if(←program).eqGuardType (←program).depth t then stuck "" else pure ());Op.equal t (.agg ⟨u⟩) (.agg ⟨v⟩))
      |_,_=>none
    |_,_,_=>none
  concs:List AV->Option (List Value)
    | []=>some []
    | a::l=>match xn a,concs l with
      |some v,some x=>some (v::x)
      |_,_=>none
def Wi{I:In}:∀{l:List AV} {x:List Value},ur.concs l=some x->∀{u},VRs I l u->u=x
  | [],x,h,u,r=>by simp[ur.concs]at h;subst h;cases r;rfl
  | a ::l,x,h,u,r=>by
    simp only[ur.concs]at h;split at h
    · rename_i v y A C;cases h;cases r with
      |cons G H=>rw[Wn A G,Wi C H]
    · cases h
variable {op:BinOp} {t:TypeId}
def Za{P:O7} {x y:Operand} {a b:Value} (h:a= .nilIface->False) (u:∀c,a= .agg c->False) (w:World):(eqGuard op t x y a b).run P w= .ok () w:=by cases a<;>first|exact(h rfl).elim|exact(u _ rfl).elim| (unfold eqGuard;cases op<;>rfl)
def q6v{P:O7} {x y:Operand} {a b:Array Value} (h:P.eqGuardType P.depth t=false) (w:World):(eqGuard op t x y (.agg a) (.agg b)).run P w= .ok () w:=by unfold eqGuard;cases op<;>first|rfl|simp[program,Sem.run,bind,Sem.bind,pure,h]
def binOp_eql{a b:Value} (h:∀k n,a≠ .int k n) (A:∀k n,a≠ .float k n) (u:∀k n m,a≠ .complex k n m) (hs:∀s,a≠ .string s):binOp .eql t a b=(do pure (.bool (←Op.equal t a b)))/\binOp .neq t a b=(do pure (.bool (!(←Op.equal t a b)))):=by
 constructor
 ·unfold binOp;cases a<;>first|rfl|exact absurd rfl (h _ _)|exact absurd rfl (A _ _)|exact absurd rfl (u _ _ _)|exact absurd rfl (hs _)
 ·unfold binOp;cases a<;>first|rfl|exact absurd rfl (h _ _)|exact absurd rfl (A _ _)|exact absurd rfl (u _ _ _)|exact absurd rfl (hs _)
def Jr{P:O7} {a b:Value} {d:TypeDesc} (h:P.underlying t=some d) (w:World) (r:Bool)
  (hr:∀n,(Op.equalIn (n+1) t a b).run P w= .ok r w):(Op.equal t a b).run P w= .ok r w:=hr 9999
variable {I:In}
def qfx {P : O7} {a b:AV} {u v:Value} {r:Bool} (h:ur.aeq P t a b=some r) (A:VR I a u) (C:VR I b v):
    (∀w,(Op.equal t u v).run P w= .ok r w)/\(∀k n,u≠ .int k n)/\(∀k n,u≠ .float k n)/\(∀k n m,u≠ .complex k n m)/\(∀s,u≠ .string s)/\(u= .nilIface->False)/\((∀c,u≠ .agg c)\/(∃c d,u= .agg c/\v= .agg d/\P.eqGuardType P.depth t=false)):=by
  unfold ur.aeq at h;split at h;case h_4=>
    rename_i e i f j g hd;split at h
    · rename_i H;subst H;split at h
      · rename_i k V;split at h
        · cases h
        · rename_i X;cases h;cases A with
          | @ptr _ _ N ss Y U=>
            cases C with
            | ptr O=>
              rw[U]at O;cases O;refine⟨λw=>Jr hd w _ λn=> ?_,by simp,by simp,by simp,by simp,by simp, .inl (by simp)⟩;have J:(sizeOf e).run P w= .ok k.size w:=(by simp[sizeOf,typeInfo,program,Sem.run,V,bind,Sem.bind,pure]);simp only[Op.equalIn,Sem.run_bind,run_underlying hd,Result.andThen,J];rw[if_pos X];have:((⟨N,ss+f,none⟩:Addr)==⟨N,ss+g,none⟩)=(f==g):=by
                by_cases G:f=g
                · subst G;simp
                · rw[beq_eq_false_iff_ne.2 G,beq_eq_false_iff_ne];intro he;injection he;omega
              simp[sameAddr,this]
      · cases h
    · cases h
  case h_16 =>
    rename_i x y hd;split at h
    · rename_i p q hp hq;cases A with
      | agg A=>
        cases C with
        | agg C=>
          have e1:=Wi hp A;have e2:=Wi hq C;subst e1 e2;cases T:P.eqGuardType P.depth t with
          |true=>simp[program,wE,bind,Sem.bind,T,stuck]at h
          | false=>
            simp[program,wE,bind,Sem.bind,T,pure]at h;exact⟨λw=>tj P _ _ h w,by simp,by simp,by simp,by simp,by simp, .inr ⟨_,_,rfl,rfl,rfl⟩⟩
    · cases h
  case h_17=>cases h
  all_goals
    rename_i hd;cases h;cases A;cases C;refine⟨λw=>Jr hd w _ λn=> ?_,by simp,by simp,by simp,by simp,by simp, .inl (by simp)⟩;simp[Op.equalIn,run_underlying hd,Result.andThen]
def qdu{P:O7} {x y:Operand} {a b r:AV} {u v:Value} (h:ur P op t a b=some r) (H:VR I a u) (J:VR I b v):
  zj P (do eqGuard op t x y u v;binOp op t u v) I r:=by
 have A:∀{s:Sem Value},(∀w,(eqGuard op t x y u v).run P w= .ok () w)->zj P s I r->zj P (do eqGuard op t x y u v;s) I r:=λN ⟨z,G,O⟩=>
  ⟨z,λw=>by simp[N w,G w,Result.andThen],O⟩
 unfold ur at h;split at h
 ·cases H;cases J;split at h
  ·rename_i z C;cases h;split at C
   ·rename_i hk;have:=qco hk;subst this;exact A (Za (by simp) (by simp)) (qc4 C)
   ·cases C
  ·split at h
   ·rename_i z C;rw[qdf]at h;exact A (Za (by simp) (by simp)) (Ss C h)
   ·cases h
 ·rename_i p q;cases H;cases J;exact A (Za (by simp) (by simp)) (by have:binOp op t (.string (mkS p)) (.string (mkS q))=Op.stringOp op (mkS p) (mkS q):=(by unfold binOp;cases op<;>rfl);rw[this];exact qct h)
 ·cases H;cases J;split at h
  ·rename_i z C;exact A (Za (by simp) (by simp)) (Ss C h)
  ·cases h
 ·have key:∀q,ur.aeq P t a b=some q->zj P (do eqGuard .eql t x y u v;binOp .eql t u v) I (.bool q)/\zj P (do eqGuard .neq t x y u v;binOp .neq t u v) I (.bool !q):=λq hq=>by
   obtain⟨G,O,V,X,Y,Z,T⟩:=qfx hq H J;obtain⟨e1,e2⟩:=binOp_eql (t:=t) (b:=v) O V X Y;have N:∀o w,(eqGuard o t x y u v).run P w= .ok () w:=λo w=>by
    rcases T with T|⟨c,d,rfl,rfl,U⟩
    ·exact Za Z (λc e=>T c e) w
    ·exact q6v U w
   constructor
   ·exact⟨_,λw=>by rw[e1];simp[N .eql w,G w,Result.andThen], .bool _⟩
   ·exact⟨_,λw=>by rw[e2];simp[N .neq w,G w,Result.andThen], .bool _⟩
  cases op<;>simp only at h<;>try (cases h;done)
  all_goals
   split at h
   ·rename_i q hq;cases h;first|exact(key q hq).1|exact(key q hq).2
   ·cases h
def yG:Operand->Bool
 | .const _=>true
 |_=>false
def NJ(P:O7) (t:TypeId) (a b:AV):Option Bool:=none
def qc9{P:O7} {a b:AV} {u v:Value} {q:Bool} (h:NJ P t a b=some q) (G:VR I a u) (H:VR I b v):
  (∀w,(Op.equal t u v).run P w= .ok q w)/\∃t1 A t2 C,u= .iface t1 A/\v= .iface t2 C:=by unfold NJ at h;cases h
def Nl(P:O7) (op:BinOp) (t:TypeId) (a b:AV):Option AV:=
  match NJ P t a b with
  | some q=>match op with
    | .eql=>some (.bool q)
    | .neq=>some (.bool !q)
    |_=>none
  |none=>none
def qab{P:O7} {x y:Operand} {a b r:AV} {u v:Value} (h:Nl P op t a b=some r) (J:VR I a u) (N:VR I b v):
  zj P (do eqGuard op t x y u v;binOp op t u v) I r:=by
 unfold Nl at h;split at h
 ·rename_i q hq;obtain⟨A,t1,G,t2,H,rfl,rfl⟩:=qc9 hq J N;have C:∀o w,(eqGuard o t x y (.iface t1 G) (.iface t2 H)).run P w= .ok () w:=λo w=>by unfold eqGuard;cases o<;>rfl
  obtain⟨e1,e2⟩:=binOp_eql (t:=t) (a:= .iface t1 G) (b:= .iface t2 H) (by simp) (by simp) (by simp) (by simp);cases op<;>simp only at h<;>try (cases h;done)
  ·cases h;exact⟨_,λw=>by rw[e1];simp[C .eql w,A w,Result.andThen], .bool _⟩
  ·cases h;exact⟨_,λw=>by rw[e2];simp[C .neq w,A w,Result.andThen], .bool _⟩
 ·cases h
def Nt (P:O7) (op:BinOp) (t:TypeId) (y:Operand) (a b:AV):Option AV:=
  match a with
  | .nili =>match b with
    | .nili=>match yG y with
      | true=>match P.underlying t with
        | some (.interface _)=>match op with
          | .eql=>some (.bool true)
          | .neq=>some (.bool false)
          |_=>none
        |_=>none
      |false=>none
    |_=>none
  | .ifc _ _=>match b with
    | .nili=>match P.underlying t with
      | some (.interface _)=>match op with
        | .eql=>some (.bool false)
        | .neq=>some (.bool true)
        |_=>none
      |_=>none
    | .ifc _ _=>Nl P op t a b
    |_=>none
  |a=>ur P op t a b
def qbk{P:O7} {x y:Operand} {a b r:AV} {u v:Value} (h:Nt P op t y a b=some r) (H:VR I a u) (J:VR I b v):
  zj P (do eqGuard op t x y u v;binOp op t u v) I r:=by
 unfold Nt at h;split at h
 ·split at h
  ·split at h
   ·rename_i N;split at h
    ·rename_i ms hd;cases H;cases J;obtain⟨c,rfl⟩:∃c,y= .const c:=by cases y<;>first|exact⟨_,rfl⟩|cases N
     have G:∀o w,(eqGuard o t x (.const c) .nilIface .nilIface).run P w= .ok () w:=λo w=>(by unfold eqGuard;cases o<;>cases x<;>rfl);obtain⟨e1,e2⟩:=binOp_eql (t:=t) (a:= .nilIface) (b:= .nilIface) (by simp) (by simp) (by simp) (by simp);have q:∀w,(Op.equal t .nilIface .nilIface).run P w= .ok true w:=λw=>Jr hd w _ λn=>(by simp[Op.equalIn,run_underlying hd,Result.andThen]);cases op<;>simp only at h<;>try (cases h;done)
     ·cases h;exact⟨_,λw=>by rw[e1];simp[G .eql w,q w,Result.andThen], .bool _⟩
     ·cases h;exact⟨_,λw=>by rw[e2];simp[G .neq w,q w,Result.andThen], .bool _⟩
    ·cases h
   ·cases h
  ·cases h
 ·split at h
  ·split at h
   ·rename_i ms hd;have main:∀A C,zj P (do eqGuard op t x y (.iface A C) .nilIface;binOp op t (.iface A C) .nilIface) I r:=by
     intro A C;have G:∀o w,(eqGuard o t x y (.iface A C) .nilIface).run P w= .ok () w:=λo w=>(by unfold eqGuard;cases o<;>rfl);obtain⟨e1,e2⟩:=binOp_eql (t:=t) (a:= .iface A C) (b:= .nilIface) (by simp) (by simp) (by simp) (by simp);have q:∀w,(Op.equal t (.iface A C) .nilIface).run P w= .ok false w:=λw=>Jr hd w _ λn=>(by simp[Op.equalIn,run_underlying hd,Result.andThen]);cases op<;>simp only at h<;>try (cases h;done)
     ·cases h;exact⟨_,λw=>by rw[e1];simp[G .eql w,q w,Result.andThen], .bool _⟩
     ·cases h;exact⟨_,λw=>by rw[e2];simp[G .neq w,q w,Result.andThen], .bool _⟩
    cases J;cases H with
    |ifc O=>exact main _ _
   ·cases h
  ·exact qab h H J
  ·cases h
 ·exact qdu h H J
def uk:List (Int×Nat×Int×Int)->Int
 | []=>0
 | (c,_,lo,hi)::l=>Int.add (match yJ c 0 with|true=>Int.mul c hi|false=>Int.mul c lo) (uk l)
def JN:List (Int×Nat×Int×Int)->Int
 | []=>0
 | (c,_,lo,hi)::l=>Int.add (match yJ c 0 with|true=>Int.mul c lo|false=>Int.mul c hi) (JN l)
def qij{a b:Int} (h:yJ a b=true):a<b:=by rw[VF]at h;exact of_decide_eq_true h
def qii{a b:Int} (h:yJ a b=false):b<=a:=by rw[VF]at h;have:=of_decide_eq_false h;omega
def LR.bounds{l n} (h:LR I l n):uk l<=n/\n<=JN l:=by
  induction h with
  |nil=>exact⟨Int.le_refl _,Int.le_refl _⟩
  | @cons c id lo hi v l n h G H t u=>
    simp only[uk,JN];cases J:yJ c 0 with
    | true=>
      have:=qij J;have A:c*hi<=c*v:=Int.mul_le_mul_of_nonpos_left (by omega) H;have C:c*v<=c*lo:=Int.mul_le_mul_of_nonpos_left (by omega) G;exact⟨Int.add_le_add A u.1,Int.add_le_add C u.2⟩
    | false=>
      have:=qii J;have A:c*lo<=c*v:=Int.mul_le_mul_of_nonneg_left G this;have C:c*v<=c*hi:=Int.mul_le_mul_of_nonneg_left H this;exact⟨Int.add_le_add A u.1,Int.add_le_add C u.2⟩
def VL{a b:Int} (h:yF a b=true):a=b:=by rw[F7]at h;exact of_decide_eq_true h
def Ik(s:Int):List (Int×Nat×Int×Int)->List (Int×Nat×Int×Int)
 | []=>[]
 | (c,id,lo,hi)::l=>(Int.mul s c,id,lo,hi)::Ik s l
def qgz{s:Int} {l n} (h:LR I l n):LR I (Ik s l) (s*n):=by
  induction h with
  |nil=>rw[Int.mul_zero];exact .nil
  | @cons c id lo hi v l n h u A t C=>
    have:=LR.cons (c:=Int.mul s c) h u A C;have e:Int.mul s c*v+s*n=s*(c*v+n):=(by show s*c*v+s*n=_;rw[Int.mul_add,Int.mul_assoc]);rw[e]at this;exact this
def Qp(p:Int):List (Int×Nat×Int×Int)->List (Int×Nat×Int×Int)×List (Int×Nat×Int×Int)
  | []=>([],[])
  | (c,id,lo,hi)::l=>match yF (Int.emod c p) 0 with
    |true=>((Int.ediv c p,id,lo,hi)::(Qp p l).1,(Qp p l).2)
    |false=>((Qp p l).1,(c,id,lo,hi)::(Qp p l).2)
def qeh{p:Int} {l n} (h:LR I l n):∃a b,LR I (Qp p l).1 a/\LR I (Qp p l).2 b/\n=p*a+b:=by
  induction h with
  |nil=>exact⟨0,0, .nil, .nil,by rw[Int.mul_zero,Int.add_zero]⟩
  | @cons c id lo hi v l n h G H t N=>
    obtain⟨a,b,A,C,rfl⟩:=N;simp only[Qp];cases u:yF (Int.emod c p) 0 with
    | true=>
      have u:c % p=0:=VL u;refine⟨_,_, .cons (c:=Int.ediv c p) h G H A,C,?_⟩;have J:p*Int.ediv c p=c:=by have:=Int.mul_ediv_add_emod c p;rw[u,Int.add_zero]at this;exact this
      rw[Int.mul_add,←Int.mul_assoc,J,Int.add_assoc]
    | false=>
      refine⟨_,_,A, .cons h G H C,?_⟩;omega
def A9(k:IntKind) (c:Int):List (Int×Nat×Int×Int)->AV
 | []=> .int k c
 |l=> .lin k c l
variable {k:IntKind}
def qde{c:Int} {l n} (h:LR I l n):VR I (A9 k c l) (.int k (c+n)):=by
 cases h with
 |nil=>rw[Int.add_zero];exact .int _ _
 |cons h u A t=>exact .lin (.cons h u A t)
def JE:IntKind->Option (Int×Int)
 | .i64=>some (18446744073709551616, -9223372036854775808)
 | .u64=>some (18446744073709551616,0)
 | .i32=>some (4294967296, -2147483648)
 | .u32=>some (4294967296,0)
 | .u8=>some (256,0)
 |_=>none
def qba{w m n q:Int} (h:JE k=some (w,m)) (u:m<=n- q*w) (A:n- q*w<m+w):k.wrap n=n- q*w:=by
 cases k<;>simp only[JE,Option.some.injEq,Prod.mk.injEq,reduceCtorEq]at h;all_goals
  obtain⟨rfl,rfl⟩:=h;simp only[IntKind.wrap,IntKind.bits,IntKind.signed];simp;omega
def qcx{w m n q:Int} (h:JE k=some (w,m)):k.wrap (n+w*q)=k.wrap n:=by
 cases k<;>simp only[JE,Option.some.injEq,Prod.mk.injEq,reduceCtorEq]at h;all_goals
  obtain⟨rfl,rfl⟩:=h;simp only[IntKind.wrap,IntKind.bits,IntKind.signed];simp;try omega
def GG(w m c:Int) (l:List (Int×Nat×Int×Int)):Option Int:=
 match yF (Int.ediv (Int.sub (Int.add c (uk l)) m) w) (Int.ediv (Int.sub (Int.add c (JN l)) m) w)with
 |true=>some (Int.sub c (Int.mul (Int.ediv (Int.sub (Int.add c (uk l)) m) w) w))
 |false=>none
def WE{w m c d:Int} {l n} (u:JE k=some (w,m)) (h:LR I l n) (e:GG w m c l=some d):k.wrap (c+n)=d+n:=by
 unfold GG at e;split at e
 ·rename_i hq;have hq:(c+uk l- m) / w=(c+JN l- m) / w:=VL hq;cases e;have G:=h.bounds;have hw:0<w:=by cases k<;>simp[JE]at u<;>omega
  have e:c- (c+uk l- m) / w*w+n=c+n- (c+uk l- m) / w*w:=by omega
  show k.wrap (c+n)=c- (c+uk l- m) / w*w+n;rw[e];have C:(c+uk l- m) / w*w<=c+uk l- m:=Int.ediv_mul_le _ (by omega);have A:c+JN l- m<((c+JN l- m) / w+1)*w:=Int.lt_ediv_add_one_mul_self _ hw;rw[←hq,Int.add_mul,Int.one_mul]at A;exact qba u (by omega) (by omega)
 ·cases e
def Gw(k:IntKind) (c:Int) (l:List (Int×Nat×Int×Int)):Option AV:=
  match JE k with
  | some (w,m)=>match GG w m c l with
    |some d=>some (A9 k d l)
    | none=>match GG w m c (Qp w l).2 with
      |some d=>some (A9 k d (Qp w l).2)
      |none=>none
  |none=>none
def tZ{c:Int} {l n} {r:AV} (h:LR I l n) (e:Gw k c l=some r):VR I r (.int k (k.wrap (c+n))):=by
 unfold Gw at e;split at e
 ·rename_i w m u;split at e
  ·rename_i d hd;cases e;rw[WE u h hd];exact qde h
  ·split at e
   ·rename_i d hd;cases e;obtain⟨a,b,C,A,rfl⟩:=qeh (p:=w) h;have:c+(w*a+b)=(c+b)+w*a:=(by omega);rw[this,qcx u,WE u A hd];exact qde A
   ·cases e
 ·cases e
def WO(op:BinOp) (a b:AV):Option AV:=none
def qev{P:O7} {a b r:AV} {u v:Value} (h:WO op a b=some r) (A:VR I a u) (C:VR I b v):
  zj P (binOp op t u v) I r/\∃k n,u= .int k n:=by unfold WO at h;cases h
def Ns(P:O7) (op:BinOp) (t:TypeId) (y:Operand) (a b:AV):Option AV:=
  match a with
  | .lin _ _ _=>WO op a b
  | _=>match b with
    | .lin _ _ _=>WO op a b
    |_=>Nt P op t y a b
def qbj{P:O7} {x y:Operand} {a b r:AV} {u v:Value} (h:Ns P op t y a b=some r) (A:VR I a u) (C:VR I b v):
  zj P (do eqGuard op t x y u v;binOp op t u v) I r:=by
 have main:WO op a b=some r->zj P (do eqGuard op t x y u v;binOp op t u v) I r:=λh=>by obtain⟨⟨z,G,H⟩,k,n,rfl⟩:=qev (P:=P) (t:=t) h A C;refine⟨z,λw=> ?_,H⟩;have J:=Za (P:=P) (op:=op) (t:=t) (x:=x) (y:=y) (a:= .int k n) (b:=v) (by simp) (by simp) w;simp[J,G w,Result.andThen]
 unfold Ns at h;split at h
 ·exact main h
 ·split at h
  ·exact main h
  ·exact qbk h A C
def N9(op:UnOp) (k:IntKind) (c:Int) (l:List (Int×Nat×Int×Int)):Option AV:=
 match op with
 | .neg=>Gw k (Int.sub 0 c) (Ik (-1) l)
 |_=>none
def qew{P:O7} {op:UnOp} {k c l r} {u:Value} (h:N9 op k c l=some r) (A:VR I (.lin k c l) u):zj P (Op.unary op u) I r:=by
  unfold N9 at h;split at h
  · cases A with
    | @lin _ _ _ n C=>
      refine⟨_,λw=> ?_,tZ (qgz (s:= -1) C) h⟩;have e:Int.sub 0 c+ -1*n=0- (c+n):=(by show 0- c+ -1*n=_;omega);rw[e];simp only[Op.unary,Op.intArith,Sem.run_pure]
  · cases h
def WT(P:O7) (f:Value->Sem Value) (a:AV):Option AV:=
  match xn a with
  | some v=>match wE P (f v)with
    |some u=>z6 u
    |none=>none
  |none=>none
variable {I:In} {u:Value}
def S2{P:O7} {f:Value->Sem Value} {a r:AV} (h:WT P f a=some r) (A:VR I a u):zj P (f u) I r:=by
 unfold WT at h;split at h
 ·rename_i v C;rw[Wn C A];split at h
  ·rename_i z G;exact Ss G h
  ·cases h
 ·cases h
def Nu(P:O7) (s d:TypeId) (a:AV):Option AV:=
  match a with
  | .int _ n=>match P.underlying s,P.underlying d with
    | some _,some (.int k)=>(match fits k n with
      |true=>some (.int k n)
      |false=>WT P (convert s d) a)
    |_,_=>WT P (convert s d) a
  | .str l=>match P.underlying s,P.underlying d with
    |some _,some .string=>some (.str l)
    |_,_=>none
  | .lin _ c l=>match P.underlying s,P.underlying d with
    |some _,some (.int k)=>Gw k c l
    |_,_=>none
  |_=>none
def RD(P:O7) (op:UnOp) (a:AV):Option AV:=
 match a with
 | .lin k c l=>N9 op k c l
 |_=>WT P (Op.unary op) a
def qg2{P:O7} {op:UnOp} {a r:AV} (h:RD P op a=some r) (A:VR I a u):zj P (Op.unary op u) I r:=by
 unfold RD at h;split at h
 ·exact qew h A
 ·exact S2 h A
def qbl{P:O7} {s d:TypeId} {a r:AV} (h:Nu P s d a=some r) (A:VR I a u):zj P (convert s d u) I r:=by
 unfold Nu at h;split at h
 ·split at h
  ·rename_i x k hs hd;split at h
   ·rename_i C;cases h;cases A;exact⟨_,λw=>by simp[convert,run_underlying hs,run_underlying hd,Result.andThen,Conv.intToInt,Sr C], .int _ _⟩
   ·exact S2 h A
  ·exact S2 h A
 ·split at h
  ·rename_i l x hs hd;cases h;cases A;refine⟨_,λw=> ?_, .str _⟩;unfold convert;simp[run_underlying hs,run_underlying hd,Result.andThen]
  ·cases h
 ·split at h
  ·rename_i x k hs hd;cases A with
   |lin G=>exact⟨_,λw=>by simp[convert,run_underlying hs,run_underlying hd,Result.andThen,Conv.intToInt],tZ G h⟩
  ·cases h
 ·cases h
def kA(t:T AV):List Operand->Option (List AV)
  | []=>some []
  | x ::l=>match ev t x with
    | some a=>match kA t l with
      |some r=>some (a::r)
      |none=>none
    |none=>none
def vm{I:In} {t:T AV} {a:Act} (h:TR I t a.tmps):∀{l:List Operand} {r},kA t l=some r->VRs I r (l.map a.eval)
  | [],r,e=>by simp[kA]at e;subst e;exact .nil
  | x ::l,r,e=>by
    simp only[kA]at e;split at e
    · rename_i v u;split at e
      · rename_i y A;cases e;exact .cons (qn h u) (vm h A)
      · cases e
    · cases e
def amk(t:T AV) (fn:Fn) (first h:List Operand):Option AV:=
 match fn,first with
 | .func f,[]=>match kA t h with|some l=>some (.fn f l)|none=>none
 | .func f,x::xs=>match kA t (x::xs),kA t h with|some a,some l=>some (.bfn f a l)|_,_=>none
 |_,_=>none
def S5(P:O7) (s:TypeId) (a:AV) (f:Nat):Option AV:=
  match a,P.underlying s with
  | .ptr id off,some (.struct fs)=>match fs.toList[f]? with
    | some fd=>match P.info? fd.type with
      |some i=>if i.size=0 then none else some (.ptr id (off+fd.offset))
      |none=>none
    |none=>none
  |_,_=>none
variable {t:TypeId}
def run_sizeOf{P:O7} {i:TypeInfo} (h:P.info? t=some i) (w:World):(sizeOf t).run P w= .ok i.size w:=by simp[sizeOf,typeInfo,program,Sem.run,h,bind,Sem.bind,pure]
def q99{P:O7} {s:TypeId} {a r:AV} {f:Nat} (h:S5 P s a f=some r) (H:VR I a u):zj P (Instr.fieldAt s u f) I r:=by
  unfold S5 at h;split at h
  · rename_i id off fs hs;split at h
    · rename_i fd J;split at h
      · rename_i i hi;split at h
        · cases h
        · rename_i N;cases h;cases H with
          | @ptr _ _ C ss O G=>
            refine⟨.pointer (some ⟨C,ss+off+fd.offset,none⟩),λw=> ?_, .ptr' G (by omega)⟩;have A:fs[f]? =some fd:=(by simpa using J);simp[Instr.fieldAt,run_underlying hs,A,Instr.sureAddr,fieldPlace,run_sizeOf hi,N,Result.andThen,kh]
      · cases h
    · cases h
  · cases h
def Sg(P:O7) (t:TypeId) (x i:AV):Option AV:=
  match i with
  | .int k (.ofNat n)=>
    match P.underlying t,x with
    |some (.array len e), .ptr id off=>if n<len then(match P.info? e with|some j=>some (.ptr id (off+n*j.size))|none=>none)else none
    |some (.slice e), .sl id off len _|some (.slice e), .gsl id off len _=>if n<len then(match P.info? e with|some j=>some (.ptr id (off+n*j.size))|none=>none)else none
    |_,_=>none
  |_=>none
def q50{P:O7} {x i r:AV} {u v:Value} (h:Sg P t x i=some r) (hx:VR I x u) (hi:VR I i v):zj P (Instr.indexAt t u v) I r:=by
  unfold Sg at h;split at h
  · rename_i k n;cases hi;split at h
    · rename_i len e id off H;split at h
      · rename_i T;split at h
        · rename_i j G;cases h;cases hx with
          | @ptr _ _ A ss U C=>
            refine⟨.pointer (some ⟨A,ss+off+n*j.size,none⟩),λw=> ?_, .ptr' C (by omega)⟩;have N:(0:Int)<=(n:Int)/\(n:Int)<len:=(by omega);simp[Instr.indexAt,asIntOf,run_underlying H,Instr.sureAddr,run_sizeOf G,Result.andThen,kh];intro O;omega
        · cases h
      · cases h
    · rename_i e id off len cap H;split at h
      · rename_i T;split at h
        · rename_i j G;cases h;cases hx with
          | @sl _ _ _ _ A ss U C=>
            refine⟨.pointer (some ⟨A,ss+off+n*j.size,none⟩),λw=> ?_, .ptr' C (by omega)⟩;have N:(0:Int)<=(n:Int)/\(n:Int)<len:=(by omega);simp[Instr.indexAt,asIntOf,run_underlying H,Instr.sureAddr,run_sizeOf G,Result.andThen,kh];intro O;omega
        · cases h
      · cases h
    · rename_i e id off len esz H;split at h
      · rename_i T;split at h
        · rename_i j G;cases h;cases hx with
          | @gsl _ _ _ _ A ss U c o C X Y J=>
            have V:o=ss+off:=by
              rcases J with J|J
              · exact J
              · omega
            subst V;refine⟨.pointer (some ⟨A,ss+off+n*j.size,none⟩),λw=> ?_, .ptr' C (by omega)⟩;have N:(0:Int)<=(n:Int)/\(n:Int)<len:=(by omega);simp[Instr.indexAt,asIntOf,run_underlying H,Instr.sureAddr,run_sizeOf G,Result.andThen,kh];intro O;omega
        · cases h
      · cases h
    · cases h
  · cases h
def apart(P:O7) (t:TypeId) (l:List AV) (off:Nat):Option AV:=
 match shapeOf P t with
 |some (some n)=>match takeN l off n with|some x=>some (.agg x)|none=>none
 |some none=>match l.drop off with|x::_=>some x| []=>none
 |none=>none
def tJ{P:O7} {l:List AV} {vs:List Value} {off:Nat} {r:AV} (h:apart P t l off=some r) (H:VRs I l vs):zj P (part t ⟨vs⟩ off) I r:=by
  unfold apart at h;split at h
  · rename_i n hs;split at h
    · rename_i x hx;cases h;unfold takeN at hx;simp only at hx;split at hx
      · rename_i N;cases hx;have hr:=VRs.take (VRs.drop H off) n;refine⟨.agg ⟨(vs.drop off).take n⟩,λw=> ?_, .agg hr⟩;obtain⟨A,G⟩:=Vp (P:=P) (w:=w) hs;simp[part,A,G n rfl,Result.andThen]
      · cases hx
    · cases h
  · rename_i hs;split at h
    · rename_i x r hx;cases h;have hd:=VRs.drop H off;rw[hx]at hd;cases u:vs.drop off with
      |nil=>rw[u]at hd;cases hd
      | cons v O=>
        rw[u]at hd;cases hd with
        | cons J _=>
          refine⟨v,λw=> ?_,J⟩;obtain⟨A,G⟩:=Vp (P:=P) (w:=w) hs;have C:vs[off]? =some v:=by have:(vs.drop off)[0]? =some v:=(by rw[u];rfl);rw[List.getElem?_drop]at this;simpa using this
          simp[part,A,Result.andThen,C]
    · cases h
  · cases h
def NR(P:O7) (t:TypeId) (a:AV) (f:Nat):Option AV:=
  match a,P.underlying t with
  | .agg l,some (.struct fs)=>match fs.toList[f]? with
    |some fd=>apart P fd.type l fd.offset
    |none=>none
  |_,_=>none
def qdy{P:O7} {a r:AV} {f:Nat} (h:NR P t a f=some r) (H:VR I a u):zj P (Instr.field t u f) I r:=by
  unfold NR at h;split at h
  · rename_i l fs O;split at h
    · rename_i fd J;cases H with
      | agg N=>
        obtain⟨v,C,G⟩:=tJ h N;have A:fs[f]? =some fd:=(by simpa using J);exact⟨v,λw=>by simp[Instr.field,run_underlying O,A,asAgg,C w,Result.andThen],G⟩
    · cases h
  · cases h
def S7(P:O7) (t:TypeId) (x i:AV):Option AV:=
  match i with
  | .int k (.ofNat n)=>
    match P.underlying t,x with
    |some .string, .str l=>match nth l n with|some b=>some (.int .u8 (.ofNat (b % 256)))|none=>none
    |some (.array len e), .agg l=>if n<len then(match P.info? e with|some j=>apart P e l (n*j.size)|none=>none)else none
    |_,_=>none
  |_=>none
def q9c{P:O7} {x i r:AV} {u v:Value} (h:S7 P t x i=some r) (hx:VR I x u) (hi:VR I i v):zj P (Instr.index t u v) I r:=by
  unfold S7 at h;split at h
  · rename_i k n;cases hi;split at h
    · rename_i l C;split at h
      · rename_i b N;cases h;cases hx;refine⟨_,λw=> ?_, .int _ _⟩;have O:(mkS l)[n]? =some (UInt8.ofNat b):=(by rw[qex,←jY,N];rfl);have G:(if(0:Int)<=(n:Int)then(mkS l)[(n:Int).toNat]? else none)=some (UInt8.ofNat b):=(by rw[if_pos (by omega)];exact O);simp only[Instr.index,asIntOf,Sem.run_bind,Sem.run_pure,Result.andThen,run_underlying C,Int.ofNat_eq_natCast,G,UInt8.toNat_ofNat']
      · cases h
    · rename_i len e l C;split at h
      · rename_i V;split at h
        · rename_i j T;cases hx with
          | agg A=>
            obtain⟨z,H,J⟩:=tJ h A;refine⟨z,λw=> ?_,J⟩;simp[Instr.index,asIntOf,run_underlying C,run_sizeOf T,H w,Result.andThen];intro U;omega
        · cases h
      · cases h
    · cases h
  · cases h
def NQ(x:AV) (i:Nat):Option AV:=
 match x with
 | .tup l=>nth l i
 |_=>none
def qdx{P:O7} {x r:AV} {i:Nat} (h:NQ x i=some r) (hx:VR I x u):zj P (Instr.extract u i) I r:=by
  unfold NQ at h;split at h
  · cases hx with
    | tup G=>
      rw[jY]at h;obtain⟨v,A,C⟩:=VRs.get G _ _ h;exact⟨v,λw=>by simp[Instr.extract,A],C⟩
  · cases h
inductive VO(I:In):Option AV->Option Value->Prop
 |none:VO I none none
 |some {a v} (h:VR I a v):VO I (some a) (some v)
def S8(P:O7) (t:TypeId) (x:AV) (lo hi:Option AV):Option AV:=none
def q9h{P:O7} {x r:AV} {lo hi:Option AV} {a b:Option Value} (e:S8 P t x lo hi=some r) (hx:VR I x u) (A:VO I lo a) (h:VO I hi b):
  zj P (Instr.sliceAt t u a b none) I r:=by unfold S8 at e;cases e
def Jv:AV->List AV
  | .agg l=>l
  | .sv v=>match v.oneCell' with
    |true=>[.sv v]
    |false=>v.cells.toList.map .sv
  |a=>[a]
def VRs.svs{I:In}:∀l:List Value,VRs I (l.map .sv) l
 | []=> .nil
 |v::l=> .cons (.sv v) (VRs.svs l)
def FD{I:In} {a:AV} {v:Value} (h:VR I a v):VRs I (Jv a) v.cells.toList:=by
 cases h;case sv=>
  unfold Jv;simp only;split
  ·rename_i u;cases v<;>first|exact .cons (.sv _) .nil|simp[Value.oneCell']at u
  ·exact VRs.svs _
 case agg=>assumption
 all_goals exact .cons (by constructor<;>assumption) .nil
def JB(place:Nat->Option (Nat×Nat)) (l:List AV):List (Nat×AV)->Option (List AV)
  | []=>some l
  | (i,a)::rest=>
    match place i with
    |none=>none
    | some (off,size)=>
      let x:=Jv a
      if x.length=size then(if off+size<=l.length then JB place (spl l off x) rest else none)else none
inductive PR(I:In):List (Nat×AV)->List (Nat×Value)->Prop
 |nil:PR I [] []
 |cons {i a v l vs} (h:VR I a v) (t:PR I l vs):PR I ((i,a)::l) ((i,v)::vs)
def tK(off:Nat):∀(xs:List Value) (k:Nat) (l:List Value),(xs.zipIdx k).foldl (λ(cs:Array Value) (c,j)=>cs.setIfInBounds (off+j) c) ⟨l⟩=(⟨spl l (off+k) xs⟩:Array Value)
  | [],_,_=>rfl
  | x::xs,k,l=>by simp only[List.zipIdx_cons,List.foldl_cons,spl];have:(⟨l⟩:Array Value).setIfInBounds (off+k) x=⟨l.set (off+k) x⟩:=(by simp);rw[this,tK off xs (k+1)];rfl
def qa2(off:Nat) (xs:Array Value) (l:List Value):(xs.zipIdx).foldl (λ(cs:Array Value) (c,j)=>cs.setIfInBounds (off+j) c) ⟨l⟩=(⟨spl l off xs.toList⟩:Array Value):=by have:=tK off xs.toList 0 l;rw[Nat.add_zero]at this;rw[←this,←Array.foldl_toList];congr 1;simp
def FJ{I:In} (place:Nat->Option (Nat×Nat)):∀{parts:List (Nat×AV)} {ps:List (Nat×Value)},PR I parts ps->∀(l r:List AV) (vs:List Value),VRs I l vs->JB place l parts=some r->∃us,Instr.fill place ⟨vs⟩ ps=some ⟨us⟩/\VRs I r us
  |_,_, .nil=>λl r vs u h=>by simp[JB]at h;subst h;exact⟨vs,rfl,u⟩
  | _, _, .cons (i:=i) (v:=v) T O=>λl r vs u h=>by
    simp only[JB]at h;split at h
    · cases h
    · rename_i off size hp;split at h
      · rename_i H;split at h
        · rename_i U;have G:=FD T;have A:v.cells.size=size:=(by rw[←Array.length_toList,←G.len];exact H);have C:vs.length=l.length:=u.len.symm;obtain⟨us,J,N⟩:=FJ place O _ _ _ (S0 G off u) h;refine⟨us,?_,N⟩;have hlen:(⟨vs⟩:Array Value).size=vs.length:=rfl;simp only[Instr.fill,hp,A,hlen,C];rw[if_neg (by simp;omega),qa2];exact J
        · cases h
      · cases h
def xh(P:O7) (t:TypeId):Option (List AV):=
  match P.info? t with
  | some i=>match i.zero with
    |some z=>ofVals z.cells.toList
    |none=>none
  |none=>none
variable {t:TypeId}
def Wk{P:O7} {l:List AV} (h:xh P t=some l) (I:In):∃z,(∀w,(zeroValue t).run P w= .ok z w)/\VRs I l z.cells.toList:=by
 unfold xh at h;split at h
 ·rename_i i hi;split at h
  ·rename_i z u;exact⟨z,λw=>by simp[zeroValue,typeInfo,program,Sem.run,hi,bind,Sem.bind,pure,u],ofVals_rel I _ _ h⟩
  ·cases h
 ·cases h
def Vy(t:T AV):List (Nat×Operand)->Option (List (Nat×AV))
  | []=>some []
  | (i,x)::l=>match ev t x with
    | some a=>match Vy t l with
      |some r=>some ((i,a)::r)
      |none=>none
    |none=>none
def Sp{I:In} {t:T AV} {a:Act} (h:TR I t a.tmps):∀{l:List (Nat×Operand)} {r},Vy t l=some r->PR I r (l.map λ(i,x)=>(i,a.eval x))
  | [],r,e=>by simp[Vy]at e;subst e;exact .nil
  | (i,x)::l,r,e=>by
    simp only[Vy]at e;split at e
    · rename_i v u;split at e
      · rename_i y A;cases e;exact .cons (qn h u) (Sp h A)
      · cases e
    · cases e
def places(P:O7):List Field->Option (List (Nat×Nat))
  | []=>some []
  | f ::l=>match P.info? f.type with
    | some i=>match places P l with
      |some r=>some ((f.offset,i.size)::r)
      |none=>none
    |none=>none
inductive All2{α β:Type} (R:α->β->Prop):List α->List β->Prop
 |nil:All2 R [] []
 |cons {x y l r} (h:R x y) (t:All2 R l r):All2 R (x::l) (y::r)
def tO{α β:Type} {P:O7} (f:α->Sem β):∀(l:List α) (r:List β),(All2 (λx y=>∀w,(f x).run P w= .ok y w) l r)->∀w,(l.mapM f).run P w= .ok r w
  | [],r,h,w=>by cases h;simp
  | x::l,r,h,w=>by
    cases h with
    |cons u A=>simp[u w,tO f l _ A w,Result.andThen]
def qae{α β:Type} {P:O7} (f:α->Sem β) (l:Array α) (r:List β) (h:All2 (λx y=>∀w,(f x).run P w= .ok y w) l.toList r) (w:World):(l.mapM f).run P w= .ok ⟨r⟩ w:=by rw[Array.mapM_eq_mapM_toList];simp[tO f l.toList r h w,Result.andThen]
def tv{P:O7}:∀{l:List Field} {r},places P l=some r->All2 (λ(x:Field) y=>∀w,((do pure (x.offset,←sizeOf x.type)):Sem (Nat×Nat)).run P w= .ok y w) l r
  | [],r,e=>by simp[places]at e;subst e;exact .nil
  | f ::l,r,e=>by
    simp only[places]at e;split at e
    · rename_i i hi;split at e
      · rename_i y h;cases e;exact .cons (λw=>by simp[run_sizeOf hi,Result.andThen]) (tv h)
      · cases e
    · cases e
def S3(P:O7) (t:TypeId) (parts:List (Nat×AV)):Option AV:=
  match xh P t with
  | some z=>match P.underlying t with
    | some (.struct fs)=>match places P fs.toList with
      |some pl=>match JB (λi=>nth pl i) z parts with|some x=>some (.agg x)|none=>none
      |none=>none
    | some (.array _ e)=>match P.info? e with
      |some i=>match JB (λk=>some (k*i.size,i.size)) z parts with|some x=>some (.agg x)|none=>none
      |none=>none
    |_=>none
  |none=>none
def q92{P:O7} {I:In} {parts:List (Nat×AV)} {ps:Array (Nat×Value)} {r:AV} (h:S3 P t parts=some r) (hp:PR I parts ps.toList):zj P (Instr.build t ps) I r:=by
 unfold S3 at h;split at h
 ·rename_i z U;obtain⟨C,O,T⟩:=Wk U I;split at h
  ·rename_i fs N;split at h
   ·rename_i pl J;split at h
    ·rename_i x hx;cases h;obtain⟨us,G,H⟩:=FJ _ hp _ _ _ T hx;refine⟨.agg ⟨us⟩,λw=> ?_, .agg H⟩;have hm:=qae (P:=P) (λ(f:Field)=>(do pure (f.offset,←sizeOf f.type):Sem (Nat×Nat))) fs pl (tv J) w;have A:(λi=>(⟨pl⟩:Array (Nat×Nat))[i]?)=(λi=>nth pl i):=(by funext i;rw[jY];simp);have u:C.cells=⟨C.cells.toList⟩:=rfl;simp only[Instr.build,Sem.run_bind,O w,Result.andThen,run_underlying N,hm,A];rw[u,G];rfl
    ·cases h
   ·cases h
  ·rename_i n e N;split at h
   ·rename_i i hi;split at h
    ·rename_i x hx;cases h;obtain⟨us,G,H⟩:=FJ _ hp _ _ _ T hx;refine⟨.agg ⟨us⟩,λw=> ?_, .agg H⟩;have u:C.cells=⟨C.cells.toList⟩:=rfl;simp only[Instr.build,Sem.run_bind,O w,Result.andThen,run_underlying N,run_sizeOf hi];rw[u,G];rfl
    ·cases h
   ·cases h
  ·cases h
 ·cases h
def NS(P:O7) (t:TypeId) (x:AV):Option AV:=
 match P.underlying t,x with
 |some .string, .str l=>some (.int .i64 (.ofNat l.length))
 |some (.slice _), .nsl=>some (.int .i64 0)
 |some (.slice _), .sl _ _ n _|some (.slice _), .gsl _ _ n _=>some (.int .i64 (.ofNat n))
 |some (.array n _),_=>some (.int .i64 (.ofNat n))
 |some (.map ..), .nmap=>some (.int .i64 0)
 |_,_=>none
variable {I:In} {ts:Array TypeId} {ty:TypeId}
def qdz{P:O7} {t:TypeId} {x r:AV} {u:Value} {args:Array Value} (h:NS P t x=some r) (hx:VR I x u) (C:ts[0]? =some t) (A:args[0]? =some u):zj P (Builtin.len_ ts ty args) I r:=by
  unfold NS at h;split at h;all_goals (try (rename_i hd))
  all_goals first
    | (cases h;done)
    | (cases h
       cases hx;refine⟨_,λw=> ?_, .int _ _⟩;simp[Builtin.len_,C,A,run_underlying hd,Result.andThen,goInt,Qi]
       done)
    | (cases h
       refine⟨_,λw=> ?_, .int _ _⟩;simp[Builtin.len_,C,A,run_underlying hd,Result.andThen,goInt,Qi]
       done)
def SR(b:Builtin) (l:List AV):Option AV:=
 match b,l with
 | .max,[.int k x, .int _ y]=>some (.int k (if y>x then y else x))
 | .min,[.int k x, .int _ y]=>some (.int k (if y<x then y else x))
 |_,_=>none
def SB(P:O7) (b:Builtin) (ts:List TypeId) (l:List AV):Option AV:=
  match b with
  | .len=>match ts,l with
    |t::_,x::_=>NS P t x
    |_,_=>none
  | .cap=>match ts,l with
    |t::_,[.sl _ _ _ c]=>match P.underlying t with|some (.slice _)=>some (.int .i64 (.ofNat c))|_=>none
    |t::_,[.nsl]=>match P.underlying t with|some (.slice _)=>some (.int .i64 0)|_=>none
    |_,_=>none
  | .max| .min=>SR b l
  | .unsafeSliceData=>match l with
    | [.nsl]=>some .nilp
    | [.sl id off _ c]=>if c=0 then none else some (.ptr id off)
    | [.gsl id off n _]=>if n=0 then none else some (.ptr id off)
    |_=>none
  |_=>none
def usd{P:O7} (ts:List TypeId) (ty:TypeId) (a:Addr) (n c:Nat) (w:World) (h:¬c=0):(Builtin.unsafeSliceData_ ⟨ts⟩ ty ⟨[.slice (some a) n c]⟩).run P w= .ok (.pointer (some a)) w:=by show Sem.run P (if c≠0 then(pure (Value.pointer (some a)):Sem Value)else _) w=_;rw[if_pos h];rfl
variable {vs:List Value}
def ux{a:AV} (h:VRs I [a] vs):∃v,vs=[v]/\VR I a v:=by cases h with|cons h t=>cases t;exact⟨_,rfl,h⟩
def q6m{P:O7} {b:Builtin} {l:List AV} {r:AV} {cs:Array Bool} (h:SB P b ts.toList l=some r) (A:VRs I l vs):Ge P (builtin b ts ty cs ⟨vs⟩) I r:=by
  obtain⟨ts⟩:=ts;unfold SB at h;split at h
  · split at h
    · rename_i t _ x _ e1;simp only at e1;subst e1;cases A with
      |cons C G=>exact(qdz h C (by simp) (by simp)).next
    · cases h
  · split at h
    · rename_i t _ id off n c e1;simp only at e1;subst e1;split at h
      · rename_i e he;cases h;obtain⟨v,rfl,u⟩:=ux A;cases u;exact zj.next ⟨_,λw=>by simp[Builtin.cap_,run_underlying he,Result.andThen,goInt], .int _ _⟩
      · cases h
    · rename_i t _ e1;simp only at e1;subst e1;split at h
      · rename_i e he;cases h;obtain⟨v,rfl,u⟩:=ux A;cases u;exact zj.next ⟨_,λw=>by simp[Builtin.cap_,run_underlying he,Result.andThen,goInt], .int _ _⟩
      · cases h
    · cases h
  · unfold SR at h;split at h
    · rename_i k x X y heq;cases h;cases A with|cons C G=>obtain⟨v,rfl,u⟩:=ux G;cases C;cases u;exact zj.next ⟨_,λw=>by simp[Builtin.max_,Builtin.max2], .int _ _⟩
    · cases ‹Builtin.max=Builtin.min›
    · cases h
  · unfold SR at h;split at h
    · cases ‹Builtin.min=Builtin.max›
    · cases h;cases A with|cons C G=>obtain⟨v,rfl,u⟩:=ux G;cases C;cases u;exact zj.next ⟨_,λw=>by simp[Builtin.min_,Builtin.min2], .int _ _⟩
    · cases h
  · split at h
    · cases h;obtain⟨v,rfl,u⟩:=ux A;cases u;exact zj.next ⟨_,λw=>rfl, .nilp⟩
    · split at h
      · cases h
      · rename_i J;cases h;obtain⟨v,rfl,u⟩:=ux A;cases u with
        |sl H=>exact zj.next ⟨_,λw=>usd ts ty _ _ _ w J, .ptr H⟩
    · split at h
      · cases h
      · rename_i J;cases h;obtain⟨v,rfl,u⟩:=ux A;cases u with
        | @gsl _ _ _ _ _ ss Y c o H U V O=>
          have N:¬c=0:=(by omega);have T:o=ss+_:=O.resolve_right N;exact zj.next ⟨_,λw=>usd ts ty _ _ _ w N, .ptr' H T⟩
    · cases h
  · cases h
def YW(t:T AV):Option Operand->Option (Option AV)
  |none=>some none
  | some x=>match ev t x with
    |some a=>some (some a)
    |none=>none
variable {t:T AV}
def qd6{a:Act} (h:TR I t a.tmps) {x:Option Operand} {v} (e:YW t x=some v):VO I v (x.map a.eval):=by
  cases x with
  |none=>simp[YW]at e;subst e;exact .none
  | some x=>
    simp only[YW]at e;split at e
    · rename_i y u;cases e;exact .some (qn h u)
    · cases e
def NU(P:O7) (h:TypeId) (a:AV):Option AV:=
 match P.underlying h with
 |some (.interface _)=>none
 |some _=>some (.ifc h a)
 |none=>none
def qe1{P:O7} {u:TypeId} {a r:AV} {v:Value} (h:NU P u a=some r) (C:VR I a v):zj P (Instr.makeInterface u v) I r:=by
 unfold NU at h;split at h
 ·cases h
 ·rename_i d A hd;cases h;refine⟨.iface u v,λw=> ?_, .ifc C⟩;unfold Instr.makeInterface;simp only[Sem.run_bind,run_underlying hd,Result.andThen];cases d with
  |interface ms=>exact(A ms rfl).elim
  |_=>rfl
 ·cases h
def jO(P:O7) (t:T AV) (o:Oper):Option AV:=
  match o.op with
  | .move x| .assign x=>ev t x
  | .pick c a b=>match ev t c with
    |some (.bool true)=>ev t a
    |some (.bool false)=>ev t b
    |_=>none
  | .build ty parts=>match Vy t parts.toList with
    |some ps=>S3 P ty ps
    |none=>none
  | .nilCheck x=>match ev t x with
    |some (.ptr i f)=>some (.ptr i f)
    |some (.fn f c)=>some (.fn f c)
    |some (.ifc f c)=>some (.ifc f c)
    |some (.bfn f b c)=>some (.bfn f b c)
    |_=>none
  | .binOp op A x y _=>match ev t x,ev t y with
    |some a,some b=>Ns P op A y a b
    |_,_=>none
  | .unOp op _ x=>match ev t x with
    |some a=>RD P op a
    |none=>none
  | .convert s d x=>match ev t x with
    |some a=>Nu P s d a
    |none=>none
  | .makeInterface A x=>match ev t x with
    |some a=>NU P A a
    |none=>none
  | .makeFunc fn first u=>amk t fn first.toList u.toList
  | .slice ty x lo hi C=>match C,ev t x,YW t lo,YW t hi with
    |none,some a,some l,some h=>S8 P ty a l h
    |_,_,_,_=>none
  | .fieldAddr s x f=>match ev t x with
    |some a=>S5 P s a f
    |none=>none
  | .field A x f=>match ev t x with
    |some a=>NR P A a f
    |none=>none
  | .indexAddr ty x i=>match ev t x,ev t i with
    |some a,some b=>Sg P ty a b
    |_,_=>none
  | .index ty x i=>match ev t x,ev t i with
    |some a,some b=>S7 P ty a b
    |_,_=>none
  | .extract x i=>match ev t x with
    |some a=>NQ a i
    |none=>none
  | .call c=>match c.callee with
    | .builtin b=>match kA t c.args.toList with
      |some l=>SB P b c.argTypes.toList l
      |none=>none
    |_=>none
  |_=>none
def qgw{P:O7} {a:Act} {o:Oper} {r:AV} (h:jO P t o=some r) (A:TR I t a.tmps):Ge P (execOp a.eval o) I r:=by
  obtain⟨dst,op,ty,pos,after,guard⟩:=o;cases op with
  |move x=>exact⟨_,λw=>rfl,qn A h⟩
  |assign x=>exact⟨_,λw=>rfl,qn A h⟩
  | pick c x y=>
    simp only[jO]at h;split at h
    · rename_i V;have u:=qn A V;generalize O:a.eval c=cv at u;cases u;exact⟨_,λw=>by simp[execOp,O,asBool,Result.andThen],qn A h⟩
    · rename_i V;have u:=qn A V;generalize O:a.eval c=cv at u;cases u;exact⟨_,λw=>by simp[execOp,O,asBool,Result.andThen],qn A h⟩
    · cases h
  | build bt parts=>
    simp only[jO]at h;split at h
    · rename_i ps Y;have u:=Sp A Y;exact(q92 (ps:=parts.map λ(i,x)=>(i,a.eval x)) h (by simpa using u)).next
    · cases h
  | nilCheck x=>
    simp only[jO]at h;split at h
    · rename_i hx;cases h;have u:=qn A hx;generalize T:a.eval x=v at u;cases u with
      |ptr N=>exact⟨_,λw=>by simp[execOp,T], .ptr N⟩
    · rename_i hx;cases h;have u:=qn A hx;generalize T:a.eval x=v at u;cases u with
      |fn N=>exact⟨_,λw=>by simp[execOp,T], .fn N⟩
    · rename_i hx;cases h;have u:=qn A hx;generalize T:a.eval x=v at u;cases u with
      |ifc N=>exact⟨_,λw=>by simp[execOp,T], .ifc N⟩
    · rename_i hx;cases h;have u:=qn A hx;generalize T:a.eval x=v at u;cases u with
      |bfn N hJ=>exact⟨_,λw=>by simp[execOp,T], .bfn N hJ⟩
    · cases h
  | binOp op Z x y yt=>
    simp only[jO]at h;split at h
    · rename_i u G;exact(qbj h (qn A u) (qn A G)).next
    · cases h
  | unOp op Z x=>
    simp only[jO]at h;split at h
    · rename_i u;exact(qg2 h (qn A u)).next
    · cases h
  | convert s d x=>
    simp only[jO]at h;split at h
    · rename_i u;exact(qbl h (qn A u)).next
    · cases h
  | makeInterface Z x=>
    simp only[jO]at h;split at h
    · rename_i u;exact(qe1 h (qn A u)).next
    · cases h
  | makeFunc fn first C=>
    simp only[jO,amk]at h;split at h
    · rename_i f X;split at h
      · rename_i l U;cases h;have H:first= #[]:=by apply Array.toList_inj.1;simpa using X
        subst H;have hr:=vm A U;have e:(⟨C.toList.map a.eval⟩:Array Value)=C.map a.eval:=(by apply Array.toList_inj.1;simp);have J:=VR.fn (f:=f) hr;rw[e]at J;exact⟨_,λw=>by simp[execOp,Instr.makeFunc],J⟩
      · cases h
    · rename_i f x xs X;split at h
      · rename_i a1 l ha U;cases h;have hr:=vm A U;have hq:=vm A ha;have e:(⟨C.toList.map a.eval⟩:Array Value)=C.map a.eval:=(by apply Array.toList_inj.1;simp);have e2:(⟨(x::xs).map a.eval⟩:Array Value)=first.map a.eval:=(by rw[←X];apply Array.toList_inj.1;simp);have J:=VR.bfn (f:=f) hq hr;rw[e,e2]at J;exact⟨_,λw=>by simp[execOp,Instr.makeFunc],J⟩
      · cases h
    · cases h
  | slice st x lo hi mx=>
    simp only[jO]at h;split at h
    · rename_i u G J;exact(q9h h (qn A u) (qd6 A G) (qd6 A J)).next
    · cases h
  | fieldAddr s x f=>
    simp only[jO]at h;split at h
    · rename_i u;exact(q99 h (qn A u)).next
    · cases h
  | field s x f=>
    simp only[jO]at h;split at h
    · rename_i u;exact(qdy h (qn A u)).next
    · cases h
  | indexAddr st x i=>
    simp only[jO]at h;split at h
    · rename_i u G;exact(q50 h (qn A u) (qn A G)).next
    · cases h
  | index st x i=>
    simp only[jO]at h;split at h
    · rename_i u G;exact(q9c h (qn A u) (qn A G)).next
    · cases h
  | extract x i=>
    simp only[jO]at h;split at h
    · rename_i u;exact(qdx h (qn A u)).next
    · cases h
  | call c=>
    simp only[jO]at h;split at h
    · rename_i b hb;split at h
      · rename_i l U;obtain⟨v,u,G⟩:=q6m (ty:=ty) (cs:=c.args.map λ| .const _=>true|_=>false) h (vm A U);refine⟨v,λw=> ?_,G⟩;have e:(⟨c.args.toList.map a.eval⟩:Array Value)=c.args.map a.eval:=(by apply Array.toList_inj.1;simp);rw[e]at u;simp only[execOp,resolve,hb,Sem.run_bind,Sem.run_pure,Result.andThen,invoke];exact u w
      · cases h
    · cases h
  |_=>simp[jO]at h
def Zn(h:T AO) (id off n:Nat):Option (List AV):=
 match h.get id with
 |some (.cells _ _ _ l)=>takeN l off n
 |_=>none
variable {F:Bool->Nat->Prop} {h:T AO} {w:World}
def qe3{I:In} (hs:Sim F I h w) {id off n b s t:Nat} {l:List AV} (e:Zn h id off n=some l) (hi:I id=some (b,s,t)):
    ∃u:List Value,VRs I l u/\u.length=n/\(∀(j:Nat) v,u[j]? =some v->w.cell? ⟨b,s+off+j,none⟩=some v)/\∃c e fr,w.heap[b]? =some (.cells c e fr)/\(∀(j:Nat) v,u[j]? =some v->c[s+off+j]? =some v):=by
  unfold Zn at e;split at e
  · rename_i V fz g l0 J;obtain⟨ob,C,T⟩:=hs.obj _ _ _ _ J hi;cases T with
    | @cells _ _ _ _ _ pre vs rest fr U N hp Z Y X=>
      obtain⟨u,G,H,A⟩:=tX (rest:=rest) U hp e;exact⟨u,G,H,λj v O=>by rw[cell_of C];exact A j v O,_,_,_,C,A⟩
  · cases e
def S4(P:O7) (h:T AO) (s d:TypeId) (x:AV):Option AV:=none
def q94{P:O7} {I:In} (hs:Sim F I h w) {s d:TypeId} {x r:AV} {u:Value} (e:S4 P h s d x=some r) (hx:VR I x u):
  ∃v,(convert s d u).run P w= .ok v w/\VR I r v:=by unfold S4 at e;cases e
abbrev qiv:=Value×AV×Nat
def NT(h:T AO) (id:Nat):Option (List qiv×Nat):=
 match h.get id with
 |some (.map es c)=>some (es,c)
 |_=>none
variable {F:Bool->Nat->Prop} {I:In} {h:T AO} {w:World}
def qe0{P:O7} (hs:Sim F I h w) {id b:Nat} {t:Nat×Nat} {es:List qiv} {c:Nat} (e:NT h id=some (es,c)) (hi:I id=some (b,t)):
  ∃ms,MR I es ms/\w.heap[b]? =some (.map ⟨ms⟩ c)/\(getObj b).run P w= .ok (.map ⟨ms⟩ c) w/\h.get id=some (.map es c):=by
 unfold NT at e;split at e
 ·rename_i C H A;cases e;obtain⟨ob,u,G⟩:=hs.obj _ _ _ _ A hi;cases G with
  | @map _ ms _ hm=>exact⟨ms,hm,u,by simp[getObj,Sem.run,u],A⟩
 ·cases e
def MR.len{es ms} (h:MR I es ms):es.length=ms.length:=by
 induction h with
 |nil=>rfl
 |cons _ _ u=>simp[u]
def SQ(P:O7) (h:T AO) (t:TypeId) (x k:AV) (ok:Bool):Option AV:=none
def q85{P:O7} (hs:Sim F I h w) {t:TypeId} {x k r:AV} {ok:Bool} {u v:Value} (e:SQ P h t x k ok=some r) (hx:VR I x u) (A:VR I k v):
  ∃z,(Instr.lookup t u v ok).run P w= .ok z w/\VR I r z:=by unfold SQ at e;cases e
def Nw(P:O7) (h:T AO) (s d:TypeId) (x:AV):Option AV:=none
variable {F:Bool->Nat->Prop} {I:In} {h:T AO} {w:World}
def qbo{P:O7} (hs:Sim F I h w) {s d:TypeId} {x r:AV} {u:Value} (e:Nw P h s d x=some r) (hx:VR I x u):
  ∃v,(convert s d u).run P w= .ok v w/\VR I r v:=by unfold Nw at e;cases e
def xr (P:O7) (t:T AV) (h:T AO) (o:Oper):Option AV:=
  match o.op with
  | .load ty x=>match ev t x with
    |some (.ptr id off)=>Gf P h ty id off
    |_=>none
  | .convert s d x=>match ev t x with
    | some a=>match S4 P h s d a with
      |some r=>some r
      |none=>Nw P h s d a
    |none=>none
  | .lookup ty x k ok=>match ev t x,ev t k with
    |some a,some b=>SQ P h ty a b ok
    |_,_=>none
  | .call c=>match c.callee with
    | .builtin .len=>match kA t c.args.toList,c.argTypes.toList with
      | some [.map id],ty::_=>match P.underlying ty with
        | some (.map ..)=>match NT h id with
          |some (es,_)=>some (.int .i64 (.ofNat es.length))
          |none=>none
        |_=>none
      |_,_=>none
    |_=>none
  |_=>none
variable {t:T AV} {o:Oper}
def qdl {P :O7} {a:Act} {r:AV} (e:xr P t h o=some r) (G:TR I t a.tmps) (hs:Sim F I h w):
    ∃v,(execOp a.eval o).run P w= .ok (.value v) w/\VR I r v:=by
  obtain⟨dst,op,ty,pos,after,guard⟩:=o;have lift:∀{s:Sem Value} {v:Value},s.run P w= .ok v w->(do pure (.value (←s)):Sem Next).run P w= .ok (.value v) w:=λhs=>by simp[hs,Result.andThen]
  cases op with
  | load lt x=>
    simp only[xr]at e;split at e
    · rename_i id off hx;have H:=qn G hx;generalize T:a.eval x=v at H;cases H with
      | ptr J=>
        obtain⟨z,u,A⟩:=tI hs e J;refine⟨z,?_,A⟩;simp only[execOp,Instr.loadAt,T];exact lift (by simp[Instr.sureAddr,u,Result.andThen])
    · cases e
  | convert s d x=>
    simp only[xr]at e;split at e
    · rename_i hx;split at e
      · rename_i r' N;cases e;obtain⟨z,u,A⟩:=q94 hs N (qn G hx);exact⟨z,lift u,A⟩
      · obtain⟨z,u,A⟩:=qbo hs e (qn G hx);exact⟨z,lift u,A⟩
    · cases e
  | lookup lt x k ok=>
    simp only[xr]at e;split at e
    · rename_i hx X;obtain⟨z,u,A⟩:=q85 hs e (qn G hx) (qn G X);exact⟨z,lift u,A⟩
    · cases e
  | call c=>
    simp only[xr]at e;split at e
    · rename_i N;split at e
      · rename_i id t0 tr C O;split at e
        · rename_i kt et hu;split at e
          · rename_i es cl hm;cases e;have H:=vm G C;obtain⟨v,T,U⟩:=ux H;cases U with
            | @map _ V tt J=>
              obtain⟨ms,Y,k2,Z,k4⟩:=qe0 (P:=P) hs hm J;refine⟨_,?_, .int _ _⟩;have e2:c.args.map a.eval=⟨[Value.map (some V)]⟩:=(by apply Array.toList_inj.1;simpa using T);have e3:c.argTypes=⟨t0::tr⟩:=(by apply Array.toList_inj.1;exact O);simp only[execOp,resolve,N,Sem.run_bind,Sem.run_pure,Result.andThen,invoke,builtin];rw[e2,e3];simp[Builtin.len_,run_underlying hu,Z,Result.andThen,goInt,Y.len]
          · cases e
        · cases e
      · cases e
    · cases e
  |_=>simp[xr]at e
def JK(z:List AV):Nat->List AV
 |0=>[]
 |n+1=>z++JK z n
def ui (P:O7) (t:T AV) (nx:Nat) (o:Oper):Option (AV×AO):=
  match o.op with
  | .alloc e=>match xh P e with
    |some z=>some (.ptr nx 0, .cells e (some 0) false z)
    |none=>none
  | .box e x=>match ev t x with
    |some a=>some (.ptr nx 0, .cells e (some 0) false (Jv a))
    |none=>none
  | .makeMap _ none=>some (.map nx, .map [] 0)
  | .makeMap ty (some x)=>match P.underlying ty,ev t x with
    |some (.map ..),some (.int _ _)=>some (.map nx, .map [] 0)
    |_,_=>none
  | .buildSlice ty n parts=>match P.underlying ty with
    | some (.slice e)=>match P.info? e with
      | some i=>if n*i.size>2 ^ 24 then none else
        match(if n*i.size=0 then some []else xh P e),Vy t parts.toList with
        |some z,some ps=>if z.length=i.size\/n*i.size=0 then
            (match JB (λk=>some (k*i.size,i.size)) (if n*i.size=0 then []else JK z n) ps with
            |some l=>some (.sl nx 0 n n, .cells e (some 0) false l)
            |none=>none)else none
        |_,_=>none
      |none=>none
    |_=>none
  | .makeSlice ty x y=>match P.underlying ty,ev t x,ev t y with
    | some (.slice e),some (.int .i64 (.ofNat n)),some (.int .i64 (.ofNat c))=>match P.info? e with
      | some i=>if n<=c/\i.bytes*c<=2 ^ 47/\c<2 ^ 47 then
        (match(if c*i.size=0 then some []else xh P e)with
        |some z=>if z.length=i.size\/c*i.size=0 then some (.sl nx 0 n c, .cells e (some 0) false (if c*i.size=0 then []else JK z c))else none
        |none=>none)else none
      |none=>none
    |_,_,_=>none
  | .convert s d x=>match P.underlying s,P.underlying d,ev t x with
    | some .string,some (.slice e),some (.str l)=>match P.underlying e with
      |some (.int .u8)=>some (.gsl nx 0 l.length 1, .cells e (some 0) true (l.map λb=> .int .u8 (.ofNat (b % 256))))
      |_=>none
    |_,_,_=>none
  |_=>none
def ju(z:List Value):Nat->List Value
 |0=>[]
 |n+1=>z++ju z n
def SO{I:In} {z:List AV} {u:List Value} (h:VRs I z u):∀n,VRs I (JK z n) (ju u n)
 |0=> .nil
 |n+1=>VRs.append h (SO h n)
def tx(z:Array Value):∀n,(List.range (n*z.size)).map (λi=>z[i % z.size]!)=ju z.toList n
  |0=>by simp[ju]
  | n + 1=>by
    rw[Nat.succ_mul,Nat.add_comm,List.range_add,List.map_append,ju];congr 1
    · apply List.ext_getElem?;intro i;rw[List.getElem?_map];by_cases hi:i<z.size
      · rw[List.getElem?_range hi];simp[Nat.mod_eq_of_lt hi,hi]
      · rw[List.getElem?_eq_none (by simpa using hi)];simp;omega
    · rw[←tx z n,List.map_map];apply List.map_congr_left;intro i _;simp
def Sm(z:Array Value) (n:Nat):(Array.range (n*z.size)).map (λi=>z[i % z.size]!)=(⟨ju z.toList n⟩:Array Value):=by apply Array.toList_inj.1;rw[Array.toList_map,Array.toList_range,tx]
def Wz(P:O7) (I:In) (s:Sem Next) (nx:Nat) (v:AV) (ob:AO):Prop:=
 ∀w,∃z obj h A,s.run P w= .ok (.value z) A/\A.heap=w.heap.push obj/\Same w A/\∀u:In,I.le u->u nx=some (w.heap.size,h)->VR u v z/\OR u h ob obj
variable {nx:Nat}
def FG{P:O7} {e:TypeId} {l:List AV} {vs:List Value} (h:VRs I l vs) {s:Sem Value} {v:AV} {f:Addr->Value} (hs:∀w,s.run P w= .ok (f ⟨w.heap.size,0,none⟩) (w.alloc (.cells ⟨vs⟩ e)))
  (G:∀(u:In) b,u nx=some (b,0,vs.length)->VR u v (f ⟨b,0,none⟩)):Wz P I (do pure (.value (←s))) nx v (.cells e (some 0) false l):=λw=>by refine⟨_, .cells ⟨vs⟩ e,(0,vs.length),w.alloc (.cells ⟨vs⟩ e),by simp[hs w,Result.andThen],rfl,⟨rfl,rfl,rfl⟩,λu C A=>⟨G u _ A,?_⟩⟩;have:=OR.cells (I:=u) (t:=(0,vs.length)) (elem:=e) (fz:=some 0) (g:=false) (l:=l) (pre:=[]) (vs:=vs) (rest:=[]) (fr:=(0,0)) (VRs.mono C h) (λ_=>⟨rfl,rfl⟩) rfl (by simp) (λ_ _ o _ _=>by simp) (.inl rfl);simpa using this
def grownCap_ge(w:World) (n m:Nat) (e:TypeId):n<=grownCap w n m e:=by unfold grownCap Question.cut;exact Nat.le_add_right _ _
def te(I:In):∀l:List Nat,VRs I (l.map λb=>AV.int .u8 (.ofNat (b % 256))) (l.map λb=>Value.int .u8 ((UInt8.ofNat b).toNat:Int))
 | []=> .nil
 | b ::l=> .cons (by show VR I (.int .u8 (.ofNat (b % 256))) (.int .u8 ((UInt8.ofNat b).toNat:Int));rw[UInt8.toNat_ofNat'];exact .int _ _) (te I l)
def sR(w:World) (e:TypeId) (s:O6):(Lib.bytesWorld w e s).heap=w.heap.push (.cells (Lib.bytesCells w e s) e ((Lib.bytesCells w e s).size,(Lib.bytesCells w e s).size+1)):=by
 apply Array.ext_getElem?;intro i;rw[Array.getElem?_push];by_cases h:i=w.heap.size
 ·subst h;rw[if_pos rfl,Lib.bytesWorld_at_new]
 ·rw[if_neg h];by_cases u:i<w.heap.size
  ·exact Lib.bytesWorld_at_old w e s i u
  ·rw[Array.getElem?_eq_none (by rw[Lib.bytesWorld_size];omega),Array.getElem?_eq_none (by omega)]
def qd1 {P : O7} {a:Act} {v:AV} {ob:AO} (e:ui P t nx o=some (v,ob)) (ht:TR I t a.tmps):Wz P I (execOp a.eval o) nx v ob:=by
  obtain⟨dst,op,ty,pos,after,guard⟩:=o;cases op with
  | alloc C=>
    simp only[ui]at e;split at e
    · rename_i z U;cases e;obtain⟨A,O,T⟩:=Wk U I;exact FG (f:=λY=> .pointer (some Y)) T (λw=>by simp[Instr.alloc,O w,Result.andThen,newVar,newRow,newObj,Sem.run]) (λX b J=> .ptr' J rfl)
    · cases e
  | box C x=>
    simp only[ui]at e;split at e
    · rename_i z U;cases e;exact FG (f:=λY=> .pointer (some Y)) (FD (qn ht U)) (λw=>by simp[Instr.box,Result.andThen,newVar,newRow,newObj,Sem.run]) (λX b J=> .ptr' J rfl)
    · cases e
  | makeMap mt r=>
    cases r with
    | none=>
      simp only[ui]at e;cases e;intro w;refine⟨.map (some w.heap.size), .map #[] 0,(0,0),w.alloc (.map #[] 0),by simp[execOp,Instr.makeMap,newObj,Sem.run,Result.andThen],rfl,⟨rfl,rfl,rfl⟩,λX hl J=>⟨.map J, .map .nil⟩⟩
    | some x=>
      simp only[ui]at e;split at e
      · rename_i kt et k n hu hx;cases e;have O:=qn ht hx;generalize hv:a.eval x=xv at O;cases O;intro w;refine⟨.map (some w.heap.size), .map #[] 0,(0,0),w.alloc (.map #[] 0),by simp[execOp,Instr.makeMap,newObj,Sem.run,Result.andThen,hv,run_underlying hu,asInt,asIntOf],rfl,⟨rfl,rfl,rfl⟩,λX hl J=>⟨.map J, .map .nil⟩⟩
      · cases e
  | buildSlice st n parts=>
    simp only[ui]at e;split at e
    · rename_i C hu;split at e
      · rename_i i hi;split at e
        · cases e
        · rename_i hbig;split at e
          · rename_i z ps U hps;split at e
            · rename_i hzl;split at e
              · rename_i l hl;cases e;have hpr:=Sp ht hps;have key:∀(V:List Value) (m:Array Value),VRs I (if n*i.size=0 then []else JK z n) V->(n*i.size=0/\m= #[]\/¬n*i.size=0/\∃A,(∀w,(zeroValue C).run P w= .ok A w)/\m=A.cells)->((Array.range (n*i.size)).map (λk=>m[k % m.size]!))=⟨V⟩->Wz P I (do pure (.value (←Instr.buildSlice st n (parts.map λ(i,x)=>(i,a.eval x))))) nx (.sl nx 0 n n) (.cells C (some 0) false l):=λV m hr u G=>by
                  obtain⟨us,h3,h4⟩:=FJ (λk=>some (k*i.size,i.size)) hpr _ _ _ hr hl;refine FG (f:=λY=> .slice (some Y) n n) h4 (λw=> ?_) (λX b J=> .sl' J rfl);have h5:Instr.fill (λi_1=>some (i_1*i.size,i.size)) ⟨V⟩ (parts.map λ(i,x)=>(i,a.eval x)).toList=some ⟨us⟩:=(by simpa using h3);simp only[Instr.buildSlice,Sem.run_bind,run_underlying hu,Result.andThen,run_sizeOf hi,if_neg hbig];rcases u with⟨Z,rfl⟩|⟨Z,A,g1,rfl⟩
                  · simp only[if_pos Z,Sem.run_bind,Sem.run_pure,Result.andThen,G];rw[h5];simp[newRow,newObj,Sem.run,Result.andThen]
                  · simp only[if_neg Z,Sem.run_bind,Sem.run_pure,Result.andThen,g1 w,G];rw[h5];simp[newRow,newObj,Sem.run,Result.andThen]
                by_cases H:n*i.size=0
                · refine key [] #[] (by rw[if_pos H];exact .nil) (.inl ⟨H,rfl⟩) (by rw[H];simp)
                · rw[if_neg H]at U;obtain⟨A,O,T⟩:=Wk U I;have hsz:A.cells.size=i.size:=by
                    rw[←Array.length_toList,←T.len];rcases hzl with h|h
                    · exact h
                    · exact absurd h H
                  refine key (ju A.cells.toList n) A.cells (by rw[if_neg H];exact SO T n) (.inr ⟨H,A,O,rfl⟩) (by rw[←hsz];exact Sm A.cells n)
              · cases e
            · cases e
          · cases e
      · cases e
    · cases e
  | makeSlice st x y=>
    simp only[ui]at e;split at e
    · rename_i C n c hu hx hy;split at e
      · rename_i i hi;split at e
        · rename_i hb;obtain⟨hnc,hbc,hc⟩:=hb;split at e
          · rename_i z U;split at e
            · rename_i hzl;cases e;have N:=qn ht hx;generalize hxv:a.eval x=xv at N;have hy1:=qn ht hy;generalize hyv:a.eval y=yv at hy1;cases N;cases hy1;have wn:IntKind.i64.wrap (Int.ofNat n)=n:=(by simp[IntKind.wrap,IntKind.bits,IntKind.signed];omega);have wc:IntKind.i64.wrap (Int.ofNat c)=c:=(by simp[IntKind.wrap,IntKind.bits,IntKind.signed];omega);have key:∀(V:List Value) (m:Array Value),VRs I (if c*i.size=0 then []else JK z c) V->(c*i.size=0/\m= #[]\/¬c*i.size=0/\∃A,(∀w,(zeroValue C).run P w= .ok A w)/\m=A.cells)->((Array.range (c*i.size)).map (λk=>m[k % m.size]!))=⟨V⟩->Wz P I (do pure (.value (←Instr.makeSlice st (.int .i64 (.ofNat n)) (.int .i64 (.ofNat c))))) nx (.sl nx 0 n c) (.cells C (some 0) false (if c*i.size=0 then []else JK z c)):=λV m hr u G=>by
                refine FG (f:=λY=> .slice (some Y) n c) hr (λw=> ?_) (λX b J=> .sl' J rfl);have hti:(typeInfo C).run P w= .ok i w:=(by simp[typeInfo,program,Sem.run,hi,bind,Sem.bind,pure]);have b1:((i.bytes*c:Nat):Int)<=2 ^ 47:=(by exact_mod_cast hbc);have b2:((i.bytes:Int)*(c:Int))<=2 ^ 47:=(by rw[←Int.natCast_mul];exact b1);have t1:((decide ((c:Int)<0))||decide ((i.bytes:Int)*(c:Int)>2 ^ 48))=false:=(by simp only[Bool.or_eq_false_iff,decide_eq_false_iff_not];omega);have t2:¬(c*i.bytes>roomBytes):=Nat.not_lt.2 (by rw[Nat.mul_comm];exact hbc);simp only[Instr.makeSlice,asInt,asIntOf,Sem.run_bind,run_underlying hu,Sem.run_pure,Result.andThen,hti,wn,wc];have t0:(decide ((c:Int)<0)||decide ((i.bytes:Int)*(c:Int)>2 ^ 48)||decide ((n:Int)<0)||decide ((n:Int)>(c:Int)))=false:=(by rw[t1];simp only[Bool.false_or,Bool.or_eq_false_iff,decide_eq_false_iff_not];exact⟨by omega,by omega⟩);rw[t0];simp only[Bool.false_eq_true,if_false,Sem.run_bind,askRoom,Int.toNat_natCast,if_neg t2,Sem.run_pure,Result.andThen,run_sizeOf hi];rcases u with⟨Z,rfl⟩|⟨Z,A,g1,rfl⟩
                · simp only[if_pos Z,Sem.run_bind,Sem.run_pure,Result.andThen,G];simp[newRow,newObj,Sem.run,Result.andThen]
                · simp only[if_neg Z,Sem.run_bind,Sem.run_pure,Result.andThen,g1 w,G];simp[newRow,newObj,Sem.run,Result.andThen]
              simp only[execOp,hxv,hyv];by_cases H:c*i.size=0
              · refine key [] #[] (by rw[if_pos H];exact .nil) (.inl ⟨H,rfl⟩) (by rw[H];simp)
              · rw[if_neg H]at U;obtain⟨A,O,T⟩:=Wk U I;have hsz:A.cells.size=i.size:=by
                  rw[←Array.length_toList,←T.len];rcases hzl with h|h
                  · exact h
                  · exact absurd h H
                refine key (ju A.cells.toList c) A.cells (by rw[if_neg H];exact SO T c) (.inr ⟨H,A,O,rfl⟩) (by rw[←hsz];exact Sm A.cells c)
            · cases e
          · cases e
        · cases e
      · cases e
    · cases e
  | convert s d x=>
    simp only[ui]at e;split at e
    · rename_i C l hs hd hx;split at e
      · rename_i he;cases e;have N:=qn ht hx;generalize hxv:a.eval x=xv at N;cases N;simp only[execOp,hxv];intro w;have u:=Lib.run_convert_string_bytes (P:=P) w s d C (mkS l) hs hd he;rw[Qi]at u;have hheap:=sR w C (mkS l);refine⟨_,_,(0,(Lib.bytesCells w C (mkS l)).size),_,by simp[u,Result.andThen];rfl,hheap,⟨rfl,rfl,rfl⟩,λX hl J=>⟨.gsl J ?_ ?_ (.inl rfl),?_⟩⟩
        · exact grownCap_ge w l.length 0 C
        · have:(Lib.bytesCells w C (mkS l)).size=l.length+(grownCap w l.length 0 C- l.length):=(by simp only[Lib.bytesCells,Qi];simp[mkS]);have:=grownCap_ge w l.length 0 C;omega
        · have hr:=te X l;have hc:Lib.bytesCells w C (mkS l)=⟨(l.map λb=>Value.int .u8 ((UInt8.ofNat b).toNat:Int))++List.replicate (grownCap w l.length 0 C- l.length) (.int .u8 0)⟩:=(by apply Array.toList_inj.1;simp only[Lib.bytesCells,Qi];simp[mkS]);rw[hc];exact .cells (pre:=[]) hr (λh=>by cases h) rfl rfl (λ_ _ o O T=>by simp at T⊢;omega) (.inl rfl)
      · cases e
    · cases e
  |_=>simp[ui]at e
end
end Go.Proofs.YtniogjgfomaicaaGreat.Eng
