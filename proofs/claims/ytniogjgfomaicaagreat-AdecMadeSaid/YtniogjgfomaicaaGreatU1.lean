/-
  The machine with unknown values: questions reckoned out of the code. No condition but what its theorems ask.
-/
import Derived.Calls
import Derived.Orders
import Derived.LoopN
import Derived.Laws.Sem
import Derived.Laws.World
import Derived.Below
import Derived.Laws.IdiomCopy
import Derived.Laws.Entries
import Derived.Laws.Strings
import Derived.Lib.SlBytesRow
import Derived.Lib.ConvBytes
import Derived.Lib.Builder
namespace Go.Proofs.YtniogjgfomaicaaGreat.Eng
open Go.RowKit
set_option linter.defProp false
set_option linter.unusedVariables false
set_option linter.unusedSimpArgs false
noncomputable section
open _root_.Array renaming getElem?_eq_none->qqc,getElem?_push->qqm,length_toList->Ε,range->qqj
open _root_.Bool renaming false->μ,or_eq_false_iff->qqo,rec->qql,true->ς
open _root_.Go.Builtin renaming cap_->qq2,len_->Λ,max->qq6,min->qq7
open _root_.Go.Conv renaming intToInt->qq9
open _root_.Go.Instr renaming build->qqi,buildSlice->qqy,extract->qq5,field->qzc,fieldAt->qq4,fill->qqr,index->qqh,indexAt->Θ,makeFunc->qq3,makeInterface->qqn,makeMap->qq8,makeSlice->qq1,sureAddr->φ
open _root_.Go.IntKind renaming bits->τ,signed->ρ,wrap->χ
open _root_.Go.Op renaming equal->Α,equalIn->Ξ,intArith->qqu,intCmp->Κ,stringOp->qqt,unary->qqv
open _root_.Go.Result renaming andThen->γ
open _root_.Go.Sem renaming bind->ω,run->ξ,run_bind->θ,run_pure->η
open _root_.Int renaming add->Ρ,add_le_add->Δ,add_zero->qqg,ediv->Τ,mul->Η,mul_assoc->qzb,mul_le_mul_of_nonneg_left->Χ,mul_le_mul_of_nonpos_left->Φ,mul_zero->qze,negSucc_eq->qqa,ofNat->qqd,ofNat_eq_natCast->υ,sub->Ζ
open _root_.List renaming cons_beq_cons->qqs,getElem?_append_left->Ω,getElem?_append_right->Ψ,getElem?_drop->Μ,getElem?_eq_getElem->qqb,getElem?_eq_none->qqf,getElem?_toArray->Β,length_cons->qq0,map_congr_left->qqp,map_cons->σ,map_map->qza
open _root_.Nat renaming add_sub_cancel_left->qqe,beq->ι,ble->Ο,blt->qqz,blt_eq->qqw,div->κ,eq_of_beq_eq_true->qqk,le_mul_of_pos_right->ψ,le_refl->qqq,lt_of_lt_of_le->Ν,lt_two_pow_self->Ι,mod->ν,mul_comm->qzd
open _root_.Option renaming map_some->qqx,none->ε,rec->Υ,some->δ
open _root_.UInt8 renaming ofNat->ζ,toNat->Γ,toNat_ofNat'->π
abbrev Cl:=Program
abbrev Ck:=ByteArray
inductive T(α:Type)where
 |e:T α
 |n:T α->Option α->T α->T α
namespace T
variable {α:Type}
def getS:T α->Nat->Option α
  | .e,_=>ε
  | .n l v r,k=>match k with
    |0=>v
    | k+1=>match ι (ν k 2) 0 with
      |true=>l.getS (κ k 2)
      |false=>r.getS (κ k 2)
def qO:Nat->Nat->Option α->T α->Option (T α)
  |0,_,_,_=>ε
  | f + 1,k,x,t=>match k with
    | 0=>match t with
      | .e=>δ (.n .e x .e)
      | .n l _ r=>δ (.n l x r)
    | k +1=>match t with
      | .e=>match ι (ν k 2) 0 with
        |true=>match qO f (κ k 2) x .e with|some u=>δ (.n u ε .e)|none=>ε
        |false=>match qO f (κ k 2) x .e with|some u=>δ (.n .e ε u)|none=>ε
      | .n l v r=>match ι (ν k 2) 0 with
        |true=>match qO f (κ k 2) x l with|some u=>δ (.n u v r)|none=>ε
        |false=>match qO f (κ k 2) x r with|some u=>δ (.n l v u)|none=>ε
def parity(k:Nat):(ι (ν k 2) 0=ς->k % 2=0)/\(ι (ν k 2) 0=μ->k % 2=1):=by
 constructor
 ·intro h;exact qqk h
 ·intro h;have:=Nat.ne_of_beq_eq_false h;have u:k % 2≠0:=this;omega
def div2(k:Nat):κ k 2=k / 2:=rfl
def qcy:∀(f k:Nat) (x:Option α) (t u:T α),qO f k x t=δ u->∀j,u.getS j=if j=k then x else t.getS j:=by
  intro f;induction f with
  |zero=>intro k x t u h;cases h
  | succ f G =>
    intro k x t u h j;cases k with
    | zero=>
      cases t with
      | e=>
        simp[qO]at h;subst h;cases j with
        |zero=>simp[getS]
        |succ j=>simp only[getS];split<;>simp
      |n l v r=>simp[qO]at h;subst h;cases j<;>simp[getS]
    | succ k=>
      have step:∀(l r:T α) (v:Option α) (p:T α),(ι (ν k 2) 0=ς->qO f (κ k 2) x l=δ p->u= .n p v r->u.getS j=if j=k+1 then x else(T.n l v r).getS j)/\(ι (ν k 2) 0=μ->qO f (κ k 2) x r=δ p->u= .n l v p->u.getS j=if j=k+1 then x else(T.n l v r).getS j):=by
        intro l r v p;constructor
        · intro A hp hu;subst hu;have H:=(parity k).1 A;cases j with
          |zero=>simp[getS]
          | succ j=>
            simp only[getS];cases C:ι (ν j 2) 0 with
            | true=>
              have B:=(parity j).1 C;simp only[G _ _ _ _ hp,div2];by_cases e:j=k
              · subst e;simp
              · rw[if_neg (by omega),if_neg (by omega)]
            | false=>
              have B:=(parity j).2 C;simp only;rw[if_neg (by omega)]
        · intro A hp hu;subst hu;have H:=(parity k).2 A;cases j with
          |zero=>simp[getS]
          | succ j=>
            simp only[getS];cases C:ι (ν j 2) 0 with
            | true=>
              have B:=(parity j).1 C;simp only;rw[if_neg (by omega)]
            | false=>
              have B:=(parity j).2 C;simp only[G _ _ _ _ hp,div2];by_cases e:j=k
              · subst e;simp
              · rw[if_neg (by omega),if_neg (by omega)]
      cases t with
      | e =>
        simp only[qO]at h;have e0:∀i,(T.e:T α).getS i=(T.n T.e ε T.e:T α).getS i:=λi=>by
          cases i with
          |zero=>simp[getS]
          |succ i=>simp only[getS];split<;>rfl
        rw[e0 j];split at h
        · rename_i A;split at h
          · rename_i p hp;cases h;exact(step .e .e ε p).1 A hp rfl
          · cases h
        · rename_i A;split at h
          · rename_i p hp;cases h;exact(step .e .e ε p).2 A hp rfl
          · cases h
      | n l v r=>
        simp only[qO]at h;split at h
        · rename_i A;split at h
          · rename_i p hp;cases h;exact(step l r v p).1 A hp rfl
          · cases h
        · rename_i A;split at h
          · rename_i p hp;cases h;exact(step l r v p).2 A hp rfl
          · cases h
def get(t:T α):Nat->Option α:=
 T.rec (motive:=λ_=>Nat->Option α) (λ_=>ε)
  (λ_ v _ gl h k=>Nat.rec (motive:=λ_=>Option α) v (λk _=>qql (motive:=λ_=>Option α) (h (κ k 2)) (gl (κ k 2)) (ι (ν k 2) 0)) k) t
def vt(x:Option α) (t:T α):Nat->Option (T α):=
 T.rec (motive:=λ_=>Nat->Option (T α)) (λk=>qO 64 k x .e)
  (λl v r pl pr k=>Nat.rec (motive:=λ_=>Option (T α)) (δ (.n l x r)) (λk _=>qql (motive:=λ_=>Option (T α))
   (Υ (motive:=λ_=>Option (T α)) ε (λu=>δ (.n l v u)) (pr (κ k 2)))
   (Υ (motive:=λ_=>Option (T α)) ε (λu=>δ (.n u v r)) (pl (κ k 2)))
   (ι (ν k 2) 0)) k) t
def put(f k:Nat) (x:Option α) (t:T α):Option (T α):=vt x t k
def JU(l r:T α) (v:Option α) (k:Nat):(T.n l v r).get (k+1)=match ι (ν k 2) 0 with
   |true=>l.get (κ k 2)
   |false=>r.get (κ k 2):=by show qql (motive:=λ_=>Option α) (r.get (κ k 2)) (l.get (κ k 2)) (ι (ν k 2) 0)=_;cases ι (ν k 2) 0<;>rfl
def get_eq:∀(t:T α) (k:Nat),t.get k=t.getS k
  | .e,k=>rfl
  | .n l v r,0=>rfl
  | .n l v r,k+1=>by rw[JU];simp only[getS];split<;>exact get_eq _ _
def qhs(x:Option α) (l r:T α) (v:Option α) (k:Nat):vt x (T.n l v r) (k+1)=match ι (ν k 2) 0 with
   |true=>match vt x l (κ k 2)with|some u=>δ (.n u v r)|none=>ε
   |false=>match vt x r (κ k 2)with|some u=>δ (.n l v u)|none=>none:=by
 show qql (motive:=λ_=>Option (T α))
   (Υ (motive:=λ_=>Option (T α)) ε (λu=>δ (.n l v u)) (vt x r (κ k 2)))
   (Υ (motive:=λ_=>Option (T α)) ε (λu=>δ (.n u v r)) (vt x l (κ k 2)))
   (ι (ν k 2) 0)=_
 cases ι (ν k 2) 0
 ·cases vt x r (κ k 2)<;>rfl
 ·cases vt x l (κ k 2)<;>rfl
def get_e(k:Nat):(T.e:T α).get k=none:=rfl
def Ig(x:Option α):∀(t:T α) (k:Nat) (u:T α),vt x t k=δ u->∀j,u.get j=if j=k then x else t.get j
  | .e,k,u,h,j=>by have:=qcy 64 k x .e u h j;rw[get_eq,this];rfl
  | .n l v r,0,u,h,j=>by
    have H:δ (T.n l x r)=δ u:=h;cases H;cases j with
    |zero=>rfl
    |succ j=>rw[if_neg (by omega),JU,JU]
  | .n l v r,k+1,u,h,j=>by
    rw[qhs]at h;cases C:ι (ν k 2) 0 with
    | true=>
      rw[C]at h;have J:=(parity k).1 C;simp only at h;split at h
      · rename_i p hp;cases h;have G:=Ig x l _ p hp;cases j with
        |zero=>rw[if_neg (by omega)];rfl
        | succ j=>
          rw[JU,JU];cases B:ι (ν j 2) 0 with
          | true=>
            have A:=(parity j).1 B;simp only[G,div2];by_cases e:j=k
            · subst e;simp
            · rw[if_neg (by omega),if_neg (by omega)]
          | false=>
            have A:=(parity j).2 B;simp only;rw[if_neg (by omega)]
      · cases h
    | false =>
      rw[C]at h;have J:=(parity k).2 C;simp only at h;split at h
      · rename_i p hp;cases h;have G:=Ig x r _ p hp;cases j with
        |zero=>rw[if_neg (by omega)];rfl
        | succ j=>
          rw[JU,JU];cases B:ι (ν j 2) 0 with
          | true=>
            have A:=(parity j).1 B;simp only;rw[if_neg (by omega)]
          | false=>
            have A:=(parity j).2 B;simp only[G,div2];by_cases e:j=k
            · subst e;simp
            · rw[if_neg (by omega),if_neg (by omega)]
      · cases h
def get_put(f k:Nat) (x:Option α) (t u:T α) (h:put f k x t=δ u):∀j,u.get j=if j=k then x else t.get j:=Ig x t k u h
end T
inductive AV where
 |bool (b:Bool)
 |int (k:IntKind) (n:Int)
 |str (s:List Nat)
 |nilp
 |ptr (id off:Nat)
 |nsl
 |sl (id off len cap:Nat)
 |gsl (id off len esz:Nat)
 |nmap
 |map (id:Nat)
 |fn (f:Nat) (caps:List AV)
 |nilf
 |nili
 |ifc (t:TypeId) (a:AV)
 |ifo
 |anyi (k:IntKind)
 |lin (k:IntKind) (c:Int) (l:List (Int×Nat×Int×Int))
 |bfn (f:Nat) (first caps:List AV)
 |agg (l:List AV)
 |tup (l:List AV)
 |sv (v:Value)
 |tsl (k:Nat)
 |ssl (id off len esz k:Nat)
 |msl (id len esz:Nat)
 |usl (id off len esz:Nat)
 |sptr (id off:Nat)
 |tpt (k:Nat)
 |tmap (k:Nat)
abbrev In:=Nat->Option (Nat×Nat×Nat)
def In.le(I J:In):Prop:=∀id x,I id=δ x->J id=δ x
def In.le_refl(I:In):I.le I:=λ_ _ h=>h
def In.le_trans{I J K:In} (h:I.le J) (g:J.le K):I.le K:=λi x e=>g i x (h i x e)
def Hf(I:In) (id:Nat):Option Int:=match I id with
 |some (b,s,_)=>δ (qqd b- qqd s)
 |none=>ε
def qbb{I J:In} (A:I.le J) {id:Nat} {v:Int} (h:Hf I id=δ v):Hf J id=δ v:=by
 unfold Hf at h⊢;cases u:I id with
 |none=>rw[u]at h;cases h
 |some x=>rw[u]at h;rw[A _ _ u];exact h
inductive LR(I:In):List (Int×Nat×Int×Int)->Int->Prop
 |nil:LR I [] 0
 |cons {c id lo hi v l n} (h:Hf I id=δ v) (h1:lo<=v) (h2:v<=hi) (t:LR I l n):LR I ((c,id,lo,hi)::l) (c*v+n)
def LR.mono{I J:In} (B:I.le J) {l n} (h:LR I l n):LR J l n:=by
 induction h with
 |nil=>exact .nil
 |cons h u A t C=>exact .cons (qbb B h) u A C
def mkS(l:List Nat):Ck:=⟨⟨l.map ζ⟩⟩
def xO:Nat->Nat->Nat×Nat
 |0,_=>(0,0)
 |f+1,m=>if m % 2=1 then(0,m / 2)else((xO f (m / 2)).1+1,(xO f (m / 2)).2)
def VJ(c:Nat):∀(n f:Nat),n<f->xO f (2 ^ n*(2*c+1))=(n,c)
  | 0,f,h=>by obtain⟨f,rfl⟩:∃g,f=g+1:=⟨f- 1,by omega⟩;simp only[xO,Nat.pow_zero,Nat.one_mul];rw[if_pos (by omega)];congr 1;omega
  | n+1,f,h=>by obtain⟨f,rfl⟩:∃g,f=g+1:=⟨f- 1,by omega⟩;have e:2 ^ (n+1)*(2*c+1)=2*(2 ^ n*(2*c+1)):=(by rw[Nat.pow_succ,qzd (2 ^ n) 2,Nat.mul_assoc]);simp only[xO,e];rw[if_neg (by omega),show 2*(2 ^ n*(2*c+1)) / 2=2 ^ n*(2*c+1)by omega,VJ c n f (by omega)]
abbrev SV:=Option Addr×Nat×Nat
def zx(x:Nat×Nat×Nat):SV:=(if x.2.2 % 2=0 then ε else δ ⟨x.1,(xO x.2.1 x.2.1).1,if(xO x.2.1 x.2.1).2=0 then ε else δ ((xO x.2.1 x.2.1).2- 1)⟩,(xO (x.2.2 / 2) (x.2.2 / 2)).1,(xO (x.2.2 / 2) (x.2.2 / 2)).2)
def q9b(b o:Nat) (p:Option Nat) (n c:Nat):∃x,zx x=(δ ⟨b,o,p⟩,n,c):=by
  have h:n<2 ^ n*(2*c+1):=Ν Ι (ψ _ (by omega));have g:∀q,o<2 ^ o*(2*q+1):=λq=>Ν Ι (ψ _ (by omega));cases p with
  | none=>
    refine⟨(b,2 ^ o*(2*0+1),2*(2 ^ n*(2*c+1))+1),?_⟩;unfold zx;rw[if_neg (by simp only;omega),show(2*(2 ^ n*(2*c+1))+1) / 2=2 ^ n*(2*c+1)by omega,VJ c n _ h];simp only[VJ 0 o _ (g 0),if_true]
  | some p=>
    refine⟨(b,2 ^ o*(2*(p+1)+1),2*(2 ^ n*(2*c+1))+1),?_⟩;unfold zx;rw[if_neg (by simp only;omega),show(2*(2 ^ n*(2*c+1))+1) / 2=2 ^ n*(2*c+1)by omega,VJ c n _ h];simp only[VJ (p+1) o _ (g (p+1)),Nat.add_sub_cancel,if_neg (Nat.succ_ne_zero p)]
def q9a(n c:Nat):∃x,zx x=(ε,n,c):=by have h:n<2 ^ n*(2*c+1):=Ν Ι (ψ _ (by omega));refine⟨(0,0,2*(2 ^ n*(2*c+1))),?_⟩;unfold zx;rw[if_pos (by simp only;omega),show(2*(2 ^ n*(2*c+1))) / 2=2 ^ n*(2*c+1)by omega,VJ c n _ h]
def slV(x:SV):Value:= .slice x.1 x.2.1 x.2.2
mutual
inductive VR(I:In):AV->Value->Prop
 |bool (b):VR I (.bool b) (.bool b)
 |int (k n):VR I (.int k n) (.int k n)
 |str (l):VR I (.str l) (.string (mkS l))
 |nilp:VR I .nilp (.pointer ε)
 |ptr {id off b s t} (h:I id=δ (b,s,t)):VR I (.ptr id off) (.pointer (δ ⟨b,s+off,ε⟩))
 |nsl:VR I .nsl (.slice ε 0 0)
 |sl {id off len cap b s t} (h:I id=δ (b,s,t)):VR I (.sl id off len cap) (.slice (δ ⟨b,s+off,ε⟩) len cap)
 |gsl {id off len esz b s t c o} (h:I id=δ (b,s,t)) (h1:len<=c) (h2:off+c*esz<=t) (h3:o=s+off\/c=0):VR I (.gsl id off len esz) (.slice (δ ⟨b,o,ε⟩) len c)
 |nmap:VR I .nmap (.map ε)
 |map {id b t} (h:I id=δ (b,t)):VR I (.map id) (.map (δ b))
 |fn {f caps vs} (h:VRs I caps vs):VR I (.fn f caps) (.func (.func f) #[] ⟨vs⟩)
 |nilf:VR I .nilf .nilFunc
 |nili:VR I .nili .nilIface
 |ifc {t a v} (h:VR I a v):VR I (.ifc t a) (.iface t v)
 |ifo {t v}:VR I .ifo (.iface t v)
 |anyi {k n}:VR I (.anyi k) (.int k n)
 |lin {k c l n} (h:LR I l n):VR I (.lin k c l) (.int k (c+n))
 |bfn {f first caps fs vs} (h1:VRs I first fs) (h:VRs I caps vs):VR I (.bfn f first caps) (.func (.func f) ⟨fs⟩ ⟨vs⟩)
 |agg {l vs} (h:VRs I l vs):VR I (.agg l) (.agg ⟨vs⟩)
 |tup {l vs} (h:VRs I l vs):VR I (.tup l) (.tuple ⟨vs⟩)
 |sv (v):VR I (.sv v) v
 |tsl {k x} (h:I k=δ x):VR I (.tsl k) (slV (zx x))
 |ssl {id off len esz k b s t c o x} (h:I id=δ (b,s,t)) (h1:len<=c) (h2:off+c*esz<=t) (h3:o=s+off\/c=0) (hk:I k=δ x) (hx:zx x=(δ ⟨b,o,ε⟩,len,c)):VR I (.ssl id off len esz k) (.slice (δ ⟨b,o,ε⟩) len c)
 |msl {id len esz b s t} (h:I id=δ (b,s,t)) (h2:len*esz<=t) (h3:0<esz):VR I (.msl id len esz) (.slice (δ ⟨b,s,ε⟩) len (t / esz))
 |usl {id off len esz b s t c o} (h:I id=δ (b,s,t)) (h1:len<=c) (h2:off+c*esz<=t) (h3:o=s+off\/c=0):VR I (.usl id off len esz) (.slice (δ ⟨b,o,ε⟩) len c)
 |usl0 {id off len esz} (h:len=0):VR I (.usl id off len esz) (.slice ε 0 0)
 |sptr {id off b s t} (h:I id=δ (b,s,t)):VR I (.sptr id off) (.pointer (δ ⟨b,s+off,ε⟩))
 |tpt {k x} (h:I k=δ x):VR I (.tpt k) (.pointer (zx x).1)
 |tmap {k x} (h:I k=δ x):VR I (.tmap k) (.map ((zx x).1.map (·.block)))
 |ssl0 {id off len esz k x} (h:len=0) (hk:I k=δ x) (hx:zx x=(ε,0,0)):VR I (.ssl id off len esz k) (.slice ε 0 0)
inductive VRs(I:In):List AV->List Value->Prop
 |nil:VRs I [] []
 |cons {a l v vs} (h:VR I a v) (t:VRs I l vs):VRs I (a::l) (v::vs)
end
mutual
def VR.mono{I J:In} (u:I.le J):∀{a v},VR I a v->VR J a v
 |_,_, .bool b=> .bool b
 |_,_, .int k n=> .int k n
 |_,_, .str l=> .str l
 |_,_, .nilp=> .nilp
 |_,_, .ptr h=> .ptr (u _ _ h)
 |_,_, .nsl=> .nsl
 |_,_, .sl h=> .sl (u _ _ h)
 |_,_, .gsl h A B C=> .gsl (u _ _ h) A B C
 |_,_, .nmap=> .nmap
 |_,_, .map h=> .map (u _ _ h)
 |_,_, .fn h=> .fn (VRs.mono u h)
 |_,_, .nilf=> .nilf
 |_,_, .nili=> .nili
 |_,_, .ifc h=> .ifc (VR.mono u h)
 |_,_, .ifo=> .ifo
 |_,_, .anyi=> .anyi
 |_,_, .lin h=> .lin (h.mono u)
 |_,_, .bfn A h=> .bfn (VRs.mono u A) (VRs.mono u h)
 |_,_, .agg h=> .agg (VRs.mono u h)
 |_,_, .tup h=> .tup (VRs.mono u h)
 |_,_, .sv v=> .sv v
 |_,_, .tsl h=> .tsl (u _ _ h)
 |_,_, .ssl h A B C G hx=> .ssl (u _ _ h) A B C (u _ _ G) hx
 |_,_, .msl h B C=> .msl (u _ _ h) B C
 |_,_, .usl h A B C=> .usl (u _ _ h) A B C
 |_,_, .usl0 h=> .usl0 h
 |_,_, .sptr h=> .sptr (u _ _ h)
 |_,_, .tpt h=> .tpt (u _ _ h)
 |_,_, .tmap h=> .tmap (u _ _ h)
 |_,_, .ssl0 h G hx=> .ssl0 h (u _ _ G) hx
def VRs.mono{I J:In} (u:I.le J):∀{a v},VRs I a v->VRs J a v
 |_,_, .nil=> .nil
 |_,_, .cons h t=> .cons (VR.mono u h) (VRs.mono u t)
end
variable {I:In}
def VR.ptr'{id off b s t o:Nat} (h:I id=δ (b,s,t)) (e:o=s+off):VR I (.ptr id off) (.pointer (δ ⟨b,o,ε⟩)):=by subst e;exact .ptr h
def VR.sl'{id off len cap b s t o:Nat} (h:I id=δ (b,s,t)) (e:o=s+off):VR I (.sl id off len cap) (.slice (δ ⟨b,o,ε⟩) len cap):=by subst e;exact .sl h
def VRs.len{I:In}:∀{l vs},VRs I l vs->l.length=vs.length
 |_,_, .nil=>rfl
 |_,_, .cons _ t=>by simp[VRs.len t]
def VRs.get{I:In}:∀{l:List AV} {vs:List Value},VRs I l vs->∀(i:Nat) (a:AV),l[i]? =δ a->∃v,vs[i]? =δ v/\VR I a v
  |_,_, .nil=>λi a h=>by simp at h
  | _,_, .cons h t=>λi a e=>by
    cases i with
    |zero=>simp at e;subst e;exact⟨_,rfl,h⟩
    |succ i=>exact VRs.get t i a (by simpa using e)
def VRs.take{I:In}:∀{l vs},VRs I l vs->∀n,VRs I (l.take n) (vs.take n)
  |_,_, .nil=>λn=>by simp;exact .nil
  | _,_, .cons h t=>λn=>by
    cases n with
    |zero=>exact .nil
    |succ n=>exact .cons h (VRs.take t n)
def VRs.drop{I:In}:∀{l vs},VRs I l vs->∀n,VRs I (l.drop n) (vs.drop n)
  |_,_, .nil=>λn=>by simp;exact .nil
  | _,_, .cons h t=>λn=>by
    cases n with
    |zero=>exact .cons h t
    |succ n=>exact VRs.drop t n
def VRs.append{I:In}:∀{l vs},VRs I l vs->∀{m us},VRs I m us->VRs I (l++m) (vs++us)
 |_,_, .nil=>λh=>h
 |_,_, .cons h t=>λg=> .cons h (VRs.append t g)
def VRs.set{I:In}:∀{l vs},VRs I l vs->∀(i:Nat) {a v},VR I a v->VRs I (l.set i a) (vs.set i v)
  |_,_, .nil=>λi _ _ _=>by simp;exact .nil
  | _,_, .cons h t=>λi _ _ g=>by
    cases i with
    |zero=>exact .cons g t
    |succ i=>exact .cons h (VRs.set t i g)
def wJ{α:Type} (P:Cl):Sem α->Option α
 | .pure a=>δ a
 | .program k=>wJ P (k P)
 | .mark _ k=>wJ P k
 |_=>ε
def q6i{α:Type} (P:Cl):∀(s:Sem α) (a:α),wJ P s=δ a->∀w,s.run P w= .ok a w:=by
 intro s;induction s with
 |pure b=>intro a h w;simp[wJ]at h;subst h;rfl
 |program k u=>intro a h w;exact u P a h w
 |mark m k u=>intro a h w;exact u a h w
 |_=>intro a h w;simp[wJ]at h
def xG:AV->Option Value
 | .bool b=>δ (.bool b)
 | .int k n=>δ (.int k n)
 | .str l=>δ (.string (mkS l))
 | .nilp=>δ (.pointer ε)
 | .nsl=>δ (.slice ε 0 0)
 | .nmap=>δ (.map ε)
 | .nilf=>δ .nilFunc
 |_=>ε
def WM{a:AV} {v u:Value} (h:xG a=δ v) (r:VR I a u):u=v:=by cases r<;>simp[xG]at h<;>exact h
def q8h{a:AV} {v:Value} (h:xG a=δ v):VR I a v:=by cases a<;>simp[xG]at h<;>subst h<;>constructor
mutual
def ja:Value->Option AV
 | .bool b=>δ (.bool b)
 | .int k n=>δ (.int k n)
 | .string s=>δ (.str (s.data.toList.map Γ))
 | .pointer ε=>δ .nilp
 | .slice ε 0 0=>δ .nsl
 | .map ε=>δ .nmap
 | .nilFunc=>δ .nilf
 | .nilIface=>δ .nili
 | .agg ⟨l⟩=>match ofVals l with|some x=>δ (.agg x)|none=>ε
 | .tuple ⟨l⟩=>match ofVals l with|some x=>δ (.tup x)|none=>ε
 |_=>ε
def ofVals:List Value->Option (List AV)
  | []=>δ []
  | v ::l=>match ja v with
    | some a=>match ofVals l with
      |some x=>δ (a::x)
      |none=>ε
    |none=>ε
end
def qhl(s:Ck):mkS (s.data.toList.map Γ)=s:=by obtain⟨⟨l⟩⟩:=s;simp only[mkS,qza];congr 2;exact(qqp λx _=>by simp).trans (List.map_id l)
mutual
def N6(I:In):∀(v:Value) (a:AV),ja v=δ a->VR I a v
  | .bool b,a,h=>by simp[ja]at h;subst h;exact .bool b
  | .int k n,a,h=>by simp[ja]at h;subst h;exact .int k n
  | .string s,a,h=>by simp only[ja,Option.some.injEq]at h;subst h;have:=VR.str (I:=I) (s.data.toList.map Γ);rw[qhl]at this;exact this
  | .pointer ε,a,h=>by simp[ja]at h;subst h;exact .nilp
  | .pointer (δ x),a,h=>by simp[ja]at h
  | .slice ε 0 0,a,h=>by simp[ja]at h;subst h;exact .nsl
  | .slice ε 0 (n+1),a,h=>by simp[ja]at h
  | .slice ε (n+1) m,a,h=>by simp[ja]at h
  | .slice (δ x) n m,a,h=>by simp[ja]at h
  | .map ε,a,h=>by simp[ja]at h;subst h;exact .nmap
  | .map (δ x),a,h=>by simp[ja]at h
  | .nilFunc,a,h=>by simp[ja]at h;subst h;exact .nilf
  | .agg ⟨l⟩,a,h=>by
    simp only[ja]at h;split at h
    · rename_i x hx;cases h;exact .agg (ofVals_rel I l _ hx)
    · cases h
  | .tuple ⟨l⟩,a,h=>by
    simp only[ja]at h;split at h
    · rename_i x hx;cases h;exact .tup (ofVals_rel I l _ hx)
    · cases h
  | .float ..,a,h=>by simp[ja]at h
  | .complex ..,a,h=>by simp[ja]at h
  | .chan ..,a,h=>by simp[ja]at h
  | .func ..,a,h=>by simp[ja]at h
  | .iface ..,a,h=>by simp[ja]at h
  | .nilIface,a,h=>by simp[ja]at h;subst h;exact .nili
def ofVals_rel(I:In):∀(v:List Value) (a:List AV),ofVals v=δ a->VRs I a v
  | [],a,h=>by simp[ofVals]at h;subst h;exact .nil
  | v ::l,a,h=>by
    simp only[ofVals]at h;split at h
    · rename_i x hx;split at h
      · rename_i y u;cases h;exact .cons (N6 I v _ hx) (ofVals_rel I l _ u)
      · cases h
    · cases h
end
def FW(v:Value):Option AV:=
 match v with
 | .bool b=>δ (.bool b)
 | .int k n=>δ (.int k n)
 | .string s=>δ (.str (s.data.toList.map Γ))
 | .nilFunc=>δ .nilf
 | .nilIface=>δ .nili
 |v=>ja v
def qe7(v:Value):FW v=ja v:=by cases v<;>first|rfl|simp[FW,ja]
def jM:Nat:=1000000
def slot(tmps:Array Value) (n:Nat):Value:=if n<jM then tmps.getD n undef else .pointer (δ ⟨n- jM,0,ε⟩)
def TR(I:In) (t:T AV) (tmps:Array Value):Prop:=∀n a,t.get n=δ a->VR I a (slot tmps n)
def Zm{x:Array Value} {n:Nat} (h:n<jM):slot x n=x.getD n undef:=if_pos h
def TR.mono{I J:In} (u:I.le J) {t:T AV} {x:Array Value} (h:TR I t x):TR J t x:=λn a e=>(h n a e).mono u
def ev(t:T AV):Operand->Option AV
  | .tmp n=>match qqz n jM with
    |true=>t.get n
    |false=>ε
  | .const v=>FW v
  | .global g=>t.get (jM+g)
  | .func f=>δ (.fn f [])
def ql{I:In} {t:T AV} {a:Act} (h:TR I t a.tmps) {x:Operand} {v:AV} (e:ev t x=δ v):VR I v (a.eval x):=by
  cases x with
  | tmp n=>
    simp only[ev]at e;split at e
    · rename_i u;have u:n<jM:=(by simpa[qqw]using u);have:=h n v e;rw[Zm u]at this;exact this
    · cases e
  |const c=>exact N6 I c v ((qe7 c).symm.trans e)
  | global g=>
    have:=h _ v e;unfold slot at this;rw[if_neg (by omega),qqe]at this;exact this
  |func f=>simp[ev]at e;subst e;exact .fn .nil
inductive AO where
 |cells (elem:TypeId) (fz:Option Nat) (grown:Bool) (l:List AV)
 |map (es:List (Value×AV×Nat)) (clock:Nat)
 |row (elem:TypeId) (fz:Nat) (vs:List Value)
 |mrow (es:List MapEntry) (clock:Nat)
 |iter (m since:Nat) (seen:List Nat) (c:Nat)
inductive MR(I:In):List (Value×AV×Nat)->List MapEntry->Prop
 |nil:MR I [] []
 |cons {k a n l v ms} (h:VR I a v) (t:MR I l ms):MR I ((k,a,n)::l) (⟨k,v,n⟩::ms)
def MR.mono{I J:In} (u:I.le J) {l ms} (h:MR I l ms):MR J l ms:=by
 induction h with
 |nil=>exact .nil
 |cons h t A=>exact .cons (h.mono u) A
inductive OR(I:In) (t:Nat×Nat):AO->Obj->Prop
 |cells {elem elem' fz g l pre vs rest fr} (h:VRs I l vs) (hg:g=μ->rest=[]/\pre=[]) (hp:pre.length=t.1) (ht:(vs++rest).length=t.2) (hf:∀f,fz=δ f->∀o,f<=o->o<t.2->¬(fr.1<=t.1+o/\t.1+o<fr.2)) (hE:elem'=elem\/fz=ε/\g=ς):OR I t (.cells elem fz g l) (.cells ⟨pre++(vs++rest)⟩ elem' fr)
 |map {es ms clock} (h:MR I es ms):OR I t (.map es clock) (.map ⟨ms⟩ clock)
 |row {elem fz pre vs rest fr} (hp:pre.length=t.1) (ht:(vs++rest).length=t.2) (hf:∀o,fz<=o->o<t.2->¬(fr.1<=t.1+o/\t.1+o<fr.2)):OR I t (.row elem fz vs) (.cells ⟨pre++(vs++rest)⟩ elem fr)
 |mrow {es clock}:OR I t (.mrow es clock) (.map ⟨es⟩ clock)
 |iter {m since seen c b t'} (h:I m=δ (b,t')) (hp:t.1=0):OR I t (.iter m since seen c) (.mapIter (δ b) since ⟨seen⟩ c)
def AO.rw:AO->Bool
 | .cells _ ε _ _=>μ
 |_=>ς
def OR.mono{I J:In} (A:I.le J) {t o ob} (h:OR I t o ob):OR J t o ob:=by
 cases h with
 |cells h G hp B u C=>exact .cells (VRs.mono A h) G hp B u C
 |map h=>exact .map (h.mono A)
 |row hp B u=>exact .row hp B u
 |mrow=>exact .mrow
 |iter h hp=>exact .iter (A _ _ h) hp
structure Sim(F:Bool->Nat->Prop) (I:In) (h:T AO) (w:World):Prop where
 obj:∀id o b t,h.get id=δ o->I id=δ (b,t)->∃ob,w.heap[b]? =δ ob/\OR I t o ob
 inj:∀id id' o o' b t t',h.get id=δ o->h.get id'=δ o'->I id=δ (b,t)->I id'=δ (b,t')->id=id'
 fr:∀id o b t,h.get id=δ o->I id=δ (b,t)->F ς b->o.rw=μ/\F μ b
structure Same(w w':World):Prop where
 os:w'.os=w.os
 tape:w'.tape=w.tape
 output:w'.output=w.output
def Same.refl(w:World):Same w w:=⟨rfl,rfl,rfl⟩
def Same.trans{a b c:World} (h:Same a b) (g:Same b c):Same a c:=⟨g.os.trans h.os,g.tape.trans h.tape,g.output.trans h.output⟩
def ku(b o n:Nat):(⟨b,o,ε⟩:Addr).add n=⟨b,o+n,ε⟩:=by unfold Addr.add;split<;>simp_all
variable {w:World}
def cell_of{b:Nat} {c:Array Value} {e fr} (h:w.heap[b]? =δ (.cells c e fr)) (o:Nat):w.cell? ⟨b,o,ε⟩=c[o]? :=by simp[World.cell?,h]
def q57{P:Cl} {w:World} {b o:Nat} {c:Array Value} {e fr} (h:w.heap[b]? =δ (.cells c e fr)) (cs:List Value) (u:∀(j:Nat) v,cs[j]? =δ v->c[o+j]? =δ v):
  (loadCells ⟨b,o,ε⟩ cs.length).run P w= .ok ⟨cs⟩ w:=
 run_loadCells_list w ⟨b,o,ε⟩ cs λj v A=>by rw[ku,cell_of h];exact u j v A
def shapeOf(P:Cl) (t:TypeId):Option (Option Nat):=
 match P.underlying t with
 |some (.struct _)|some (.array _ _)=>match P.info? t with|some i=>δ (δ i.size)|none=>ε
 |some _=>δ ε
 |none=>ε
def takeN(l:List AV) (o n:Nat):Option (List AV):=
 let x:=(l.drop o).take n
 if x.length=n then δ x else ε
def q8l{I:In} {l:List AV} {pre vs rest:List Value} (h:VRs I l vs) {o n s:Nat} (hs:pre.length=s) {x:List AV} (e:takeN l o n=δ x):
  ∃A,VRs I x A/\A.length=n/\∀(j:Nat) v,A[j]? =δ v->(⟨pre++(vs++rest)⟩:Array Value)[s+o+j]? =δ v:=by
 unfold takeN at e;simp only at e;split at e
 ·rename_i C;cases e;have hr:=VRs.take (VRs.drop h o) n;refine⟨_,hr,by rw[←hr.len];exact C,λj v B=> ?_⟩;have u:((vs.drop o).take n)[j]? =δ v:=B;rw[List.getElem?_take]at u;split at u
  ·rw[Μ]at u;simp only[Β];rw[Ψ (by omega),show s+o+j- pre.length=o+j by omega,Ω (by have:=(List.getElem?_eq_some_iff.1 u).1;exact this)];exact u
  ·cases u
 ·cases e
def GO(P:Cl) (h:T AO) (t:TypeId) (id off:Nat):Option AV:=
  match h.get id with
  | some (.cells _ _ _ l)=>match shapeOf P t with
    |some (δ n)=>match takeN l off n with|some x=>δ (.agg x)|none=>ε
    |some ε=>match l.drop off with|x::_=>δ x| []=>ε
    |none=>ε
  |_=>ε
def VB{P:Cl} {t:TypeId} {s} (h:shapeOf P t=δ s):(isAgg t).run P w= .ok s.isSome w/\(∀n,s=δ n->(sizeOf t).run P w= .ok n w):=by
  unfold shapeOf at h;have hu:∀d,P.underlying t=δ d->(underlying t).run P w= .ok d w:=λd hd=>run_underlying (P:=P) hd w;cases hd:P.underlying t with
  |none=>rw[hd]at h;cases h
  | some d=>
    rw[hd]at h;have:=hu d hd;have key:∀n,(match P.info? t with|some i=>δ (δ i.size)|none=>ε)=δ (δ n)->(sizeOf t).run P w= .ok n w:=λn u=>by
      cases hi:P.info? t with
      |none=>rw[hi]at u;cases u
      | some i=>
        rw[hi]at u;cases u;simp[sizeOf,typeInfo,program,ξ,hi,bind,ω,pure]
    cases d<;>simp only at h;case struct fs=>
      cases hi:P.info? t with
      |none=>rw[hi]at h;cases h
      | some i=>
        rw[hi]at h;cases h;refine⟨by simp[isAgg,this,γ],λn u=>key n (by rw[hi];exact congrArg δ u)⟩
    case array k e=>
      cases hi:P.info? t with
      |none=>rw[hi]at h;cases h
      | some i=>
        rw[hi]at h;cases h;refine⟨by simp[isAgg,this,γ],λn u=>key n (by rw[hi];exact congrArg δ u)⟩
    all_goals
      cases h;exact⟨by simp[isAgg,this,γ],λn u=>by cases u⟩
variable {w:World}
def q7x {P :Cl} {F:Bool->Nat->Prop} {I:In} {h:T AO} (hs:Sim F I h w) {t:TypeId} {id off b s k:Nat} {a:AV} (e:GO P h t id off=δ a) (hi:I id=δ (b,s,k)):
    ∃v,(loadVar t ⟨b,s+off,ε⟩).run P w= .ok v w/\VR I a v:=by
  unfold GO at e;split at e
  · rename_i el fz g l X;obtain⟨ob,O,ho⟩:=hs.obj _ _ _ _ X hi;cases ho with
    | @cells _ _ _ _ _ pre vs rest fr h Y hp ht hf hE=>
      split at e
      · rename_i n A;split at e
        · rename_i x hx;cases e;obtain⟨U,hy,Z,V⟩:=q8l (rest:=rest) h hp hx;have hr:=q57 (P:=P) O U V;rw[Z]at hr;obtain⟨G,J⟩:=VB (P:=P) (w:=w) A;refine⟨.agg ⟨U⟩,?_, .agg hy⟩;simp[loadVar,G,J n rfl,hr,γ]
        · cases e
      · rename_i A;split at e
        · rename_i x r hx;cases e;have hd:=VRs.drop h off;rw[hx]at hd;obtain⟨G,J⟩:=VB (P:=P) (w:=w) A;cases B:vs.drop off with
          |nil=>rw[B]at hd;cases hd
          | cons v vr=>
            rw[B]at hd;cases hd with
            | cons hv _=>
              refine⟨v,?_,hv⟩;have C:vs[off]? =δ v:=by have:(vs.drop off)[0]? =δ v:=(by rw[B];rfl);rw[Μ]at this;simpa using this
              have u:w.cell? ⟨b,s+off,ε⟩=δ v:=(by rw[cell_of O];simp only[Β];simp only at hp;rw[Ψ (by omega),show s+off- pre.length=off by omega,Ω (List.getElem?_eq_some_iff.1 C).1];exact C);have H:(load ⟨b,s+off,ε⟩).run P w= .ok v w:=(by simp[load,ξ,u]);simp[loadVar,G,H,γ]
        · cases e
      · cases e
  · cases e
def wG(w:World) (b:Nat) (o:Obj):World:={w with heap:=w.heap.setIfInBounds b o}
variable {b:Nat}
def NF{o u:Obj} (h:w.heap[b]? =δ u):(wG w b o).heap[b]? =δ o:=by have:=(Array.getElem?_eq_some_iff.1 h).1;simp[wG,this]
variable {o:Obj}
def NA{b c:Nat} (h:c≠b):(wG w b o).heap[c]? =w.heap[c]? :=by simp[wG,Array.getElem?_setIfInBounds_ne (Ne.symm h)]
def NC:(wG w b o).heap.size=w.heap.size:=by simp[wG]
def NB:Same w (wG w b o):=⟨rfl,rfl,rfl⟩
def spl{α:Type} (l:List α) (k:Nat):List α->List α
 | []=>l
 |x::xs=>spl (l.set k x) (k+1) xs
def q7p{α:Type}:∀(xs:List α) (l:List α) (k:Nat),(spl l k xs).length=l.length
 | [],_,_=>rfl
 |x::xs,l,k=>by rw[spl,q7p xs];simp
def NO{α:Type}:∀(xs l r:List α) (k:Nat),k+xs.length<=l.length->spl (l++r) k xs=spl l k xs++r
  | [],_,_,_,_=>rfl
  | x::xs,l,r,k,h=>by simp only[qq0]at h;rw[spl,spl,List.set_append_left _ _ (by omega),NO xs _ r (k+1) (by simp;omega)]
def IA{I:In}:∀{xs:List AV} {us:List Value},VRs I xs us->∀{l vs} (k:Nat),VRs I l vs->VRs I (spl l k xs) (spl vs k us)
 |_,_, .nil=>λ_ h=>h
 |_,_, .cons h t=>λk g=>IA t (k+1) (VRs.set g k h)
def Gu{α:Type}:∀(xs p l:List α) (k:Nat),spl (p++l) (p.length+k) xs=p++spl l k xs
  | [],_,_,_=>rfl
  | x::xs,p,l,k=>by rw[spl,spl,List.set_append_right _ _ (by omega),qqe,Nat.add_assoc,Gu xs p _ (k+1)]
def atom:AV->Bool
 | .agg _| .tup _=>μ
 | .sv v=>v.oneCell'
 |_=>ς
def qch{I:In} {a:AV} {v:Value} (h:VR I a v) (u:atom a=ς):v.oneCell'=true:=by cases h<;>first|rfl|exact u|simp[atom]at u
def F6{I:In}:∀{xs:List AV} {us:List Value},VRs I xs us->xs.all atom=ς->∀v∈us,v.oneCell'=ς
  |_,_, .nil=>λ_ v A=>by cases A
  | _,_, .cons h t=>λu v A=>by
    simp only[List.all_cons,Bool.and_eq_true]at u;cases A with
    |head=>exact qch h u.1
    |tail _ hm=>exact F6 t u.2 v hm
def F4{P:Cl} {b o:Nat} {e:TypeId} {fr:Nat×Nat}:∀(vs:List Value) (i:Nat) (cur:List Value) (w:World),w.heap[b]? =δ (.cells ⟨cur⟩ e fr)->o+i+vs.length<=cur.length->
    (∀j,o+i<=j->j<o+i+vs.length->¬(fr.1<=j/\j<fr.2))->(∀v∈vs,v.oneCell'=ς)->
    ∃B,(storeCells ⟨b,o,ε⟩ vs i).run P w= .ok () B/\B.heap[b]? =δ (.cells ⟨spl cur (o+i) vs⟩ e fr)/\(∀c,c≠b->B.heap[c]? =w.heap[c]?)/\B.heap.size=w.heap.size/\Same w B
  | [],i,cur,w,h,_,_,_=>⟨w,rfl,h,λ_ _=>rfl,rfl, .refl w⟩
  | v ::r,i,cur,w,h,hl,G,T=>by
    simp only[qq0]at hl G;have A:∃u,w.cell? ⟨b,o+i,ε⟩=δ u:=(by rw[cell_of h];exact⟨_,by simp only[Β];exact qqb (by omega)⟩);obtain⟨u,hu⟩:=A;have J:w.frozen? ⟨b,o+i,ε⟩=false:=by have:=G (o+i) (qqq _) (by omega);simp only[World.frozen?,h];simp only[Bool.and_eq_false_iff,decide_eq_false_iff_not];omega
    have O:(store ((⟨b,o,ε⟩:Addr).add i) v).run P w= .ok () (w.setCell ⟨b,o+i,ε⟩ v):=(by rw[ku,run_store P w _ v _ (T v (by simp))];simp[hu,J]);have C:(w.setCell ⟨b,o+i,ε⟩ v).heap[b]? =δ (.cells ⟨cur.set (o+i) v⟩ e fr):=(by simp only[World.setCell,Array.getElem?_modify,if_true,h,qqx];simp);have H:∀j,o+(i+1)<=j->j<o+(i+1)+r.length->¬(fr.1<=j/\j<fr.2):=λj a1 a2=>G j (by omega) (by omega);obtain⟨B,V,X,Y,Z,h6⟩:=F4 r (i+1) (cur.set (o+i) v) (w.setCell ⟨b,o+i,ε⟩ v) C (by rw[List.length_set];omega) H (λv hv=>T v (by simp[hv]));refine⟨B,?_,?_,?_,?_,?_⟩
    · simp only[storeCells,θ,O,γ];exact V
    · rw[X,spl];rfl
    · intro c U;rw[Y c U,Below.heap_setCell _ _ _ _ U]
    · rw[Z];simp
    · exact Same.trans (b:=w.setCell ⟨b,o+i,ε⟩ v) ⟨rfl,rfl,rfl⟩ h6
structure Grow(F:Bool->Nat->Prop) (I:In) (nx:Nat) (w:World) (I':In) (nx':Nat) (h':T AO) (w':World):Prop where
 le:I.le I'
 new:∀i x,I' i=δ x->I i=δ x\/nx<=i/\i<nx'
 sim:Sim F I' h' w'
 fr:∀b,F ς b->w'.heap[b]? =w.heap[b]?
 size:w.heap.size<=w'.heap.size
 same:Same w w'
def Sim.grow{F I h w} (s:Sim F I h w) (nx:Nat):Grow F I nx w I nx h w:=⟨In.le_refl I,λ_ _ h=> .inl h,s,λ_ _=>rfl,qqq _, .refl w⟩
def Sim.upd{F I h w} (s:Sim F I h w) {id b t o o' h'} (X:h.get id=δ o) (J:o.rw=ς) (hi:I id=δ (b,t)) (hp:T.put 64 id (δ o') h=δ h') {U O} (hb:U.heap[b]? =δ O) (ho:OR I t o' O) (C:∀c,c≠b->U.heap[c]? =w.heap[c]?) (Z:U.heap.size=w.heap.size) (G:Same w U) (nx:Nat):
  Grow F I nx w I nx h' U:=by
 have A:=T.get_put _ _ _ _ _ hp;refine⟨In.le_refl I,λ_ _ h=> .inl h,⟨?_,?_,?_⟩,λc hc=> ?_,Nat.le_of_eq Z.symm,G⟩
 ·intro H o1 V t1 u B;rw[A]at u;split at u
  ·rename_i e;subst e;cases u;rw[hi]at B;cases B;exact⟨_,hb,ho⟩
  ·rename_i e;obtain⟨ob,h3,h4⟩:=s.obj _ _ _ _ u B;have:V≠b:=λeb=>e (s.inj H id o1 o b t1 t u X (eb ▸ B) hi);exact⟨ob,(C V this).trans h3,h4⟩
 ·intro H id2 o1 o2 V t1 t2 u B i1 i2;have live:∀k ok,h'.get k=δ ok->∃o,h.get k=δ o:=λk ok Y=>by
   rw[A]at Y;split at Y
   ·rename_i e;subst e;exact⟨_,X⟩
   ·exact⟨_,Y⟩
  obtain⟨p1,q1⟩:=live _ _ u;obtain⟨p2,q2⟩:=live _ _ B;exact s.inj _ _ _ _ _ _ _ q1 q2 i1 i2
 ·intro H o1 V t1 u B hf;rw[A]at u;split at u
  ·rename_i e;subst e;have:=(s.fr _ _ _ _ X B hf).1;rw[J]at this;cases this
  ·exact s.fr _ _ _ _ u B hf
 ·exact C c λe=>by have:=(s.fr _ _ _ _ X hi (e ▸ hc)).1;rw[J]at this;cases this
def ext(I:In) (nx:Nat) (x:Nat×Nat×Nat):In:=λi=>if i=nx then δ x else I i
def z6(I:In) (nx:Nat) (x:Nat×Nat×Nat):ext I nx x nx=δ x:=by simp[ext]
variable {nx:Nat}
def Zp{I:In} (x:Nat×Nat×Nat) (h:I nx=ε):I.le (ext I nx x):=λi y hi=>by
 unfold ext;split
 ·rename_i e;subst e;rw[h]at hi;cases hi
 ·exact hi
def qap{I:In} {x:Nat×Nat×Nat}:∀i y,ext I nx x i=δ y->I i=δ y\/nx<=i/\i<nx+1:=λi y h=>by
 unfold ext at h;split at h
 ·rename_i e;subst e;exact .inr ⟨qqq _,Nat.lt_succ_self _⟩
 ·exact .inl h
def Sim.push{F I h w} (s:Sim F I h w) {nx t o h'} (hi:I nx=ε) (Y:∀b,F ς b->b<w.heap.size) (hp:T.put 64 nx (δ o) h=δ h') {U ob} (X:U.heap=w.heap.push ob) (ho:OR (ext I nx (w.heap.size,t)) t o ob) (C:Same w U):
  Grow F I nx w (ext I nx (w.heap.size,t)) (nx+1) h' U:=by
 have B:=T.get_put _ _ _ _ _ hp;have hle:=Zp (w.heap.size,t) hi;have J:∀c,c<w.heap.size->U.heap[c]? =w.heap[c]? :=λc Z=>by rw[X,qqm,if_neg (by omega)]
 refine⟨hle,qap,⟨?_,?_,?_⟩,λc Z=>J c (Y c Z),by rw[X];simp,C⟩
 ·intro G o1 V t1 A u;rw[B]at A;split at A
  ·rename_i e;subst e;cases A;rw[z6]at u;cases u;exact⟨ob,by rw[X];simp,ho⟩
  ·rename_i e;simp only[ext,if_neg e]at u;obtain⟨H,O,h4⟩:=s.obj _ _ _ _ A u;exact⟨H,(J V (Array.getElem?_eq_some_iff.1 O).1).trans O,h4.mono hle⟩
 ·intro G id2 o1 o2 V t1 t2 A u i1 i2;rw[B]at A u;have low:∀k ok b t,h.get k=δ ok->I k=δ (b,t)->b≠w.heap.size:=λk ok b t hk hi=>by obtain⟨H,O,_⟩:=s.obj _ _ _ _ hk hi;have:=(Array.getElem?_eq_some_iff.1 O).1;omega
  split at A<;>split at u<;>rename_i e1 e2
  ·rw[e1,e2]
  ·subst e1;rw[z6]at i1;cases i1;simp only[ext,if_neg e2]at i2;exact absurd rfl (low _ _ _ _ u i2)
  ·subst e2;rw[z6]at i2;cases i2;simp only[ext,if_neg e1]at i1;exact absurd rfl (low _ _ _ _ A i1)
  ·simp only[ext,if_neg e1]at i1;simp only[ext,if_neg e2]at i2;exact s.inj _ _ _ _ _ _ _ A u i1 i2
 ·intro G o1 V t1 A u hf;rw[B]at A;split at A
  ·rename_i e;subst e;rw[z6]at u;cases u;have:=Y _ hf;omega
  ·rename_i e;simp only[ext,if_neg e]at u;exact s.fr _ _ _ _ A u hf
def Sim.over{F I h w} (s:Sim F I h w) {id b t Z nx o u h'} (Y:h.get id=δ Z) (U:Z.rw=ς) (hid:I id=δ (b,t)) {G:Nat×Nat} (hi:I nx=ε) (hp1:T.put 64 id ε h=δ u) (hp:T.put 64 nx (δ o) u=δ h') {V ob} (hb:V.heap[b]? =δ ob) (ho:OR (ext I nx (b,G)) G o ob) (C:∀c,c≠b->V.heap[c]? =w.heap[c]?) (hsz:V.heap.size=w.heap.size) (J:Same w V):
  Grow F I nx w (ext I nx (b,G)) (nx+1) h' V:=by
 have H:=T.get_put _ _ _ _ _ hp1;have B:∀j,h'.get j=if j=nx then δ o else if j=id then ε else h.get j:=λj=>by rw[T.get_put _ _ _ _ _ hp j,H]
 have hle:=Zp (b,G) hi;refine⟨hle,qap,⟨?_,?_,?_⟩,λc hc=>C c λe=>(by have:=(s.fr _ _ _ _ Y hid (e ▸ hc)).1;rw[U]at this;cases this),by omega,J⟩
 ·intro O o1 X t1 u A;rw[B]at u;split at u
  ·rename_i e;subst e;cases u;rw[z6]at A;cases A;exact⟨ob,hb,ho⟩
  ·rename_i e;split at u
   ·cases u
   ·rename_i e';simp only[ext,if_neg e]at A;obtain⟨ob1,h3,h4⟩:=s.obj _ _ _ _ u A;have:X≠b:=λeb=>e' (s.inj O id o1 Z b t1 t u Y (eb ▸ A) hid);exact⟨ob1,(C X this).trans h3,h4.mono hle⟩
 ·intro O id2 o1 o2 X t1 t2 u A i1 i2;rw[B]at u A;have low:∀k ok G,k≠id->h.get k=δ ok->I k=δ (b,G)->False:=λk ok G hne hk hi=>hne (s.inj k id ok Z b G t hk Y hi hid);split at u<;>split at A<;>rename_i e1 e2
  ·rw[e1,e2]
  ·subst e1;rw[z6]at i1;cases i1;split at A
   ·cases A
   ·rename_i e';simp only[ext,if_neg e2]at i2;exact(low _ _ _ e' A i2).elim
  ·subst e2;rw[z6]at i2;cases i2;split at u
   ·cases u
   ·rename_i e';simp only[ext,if_neg e1]at i1;exact(low _ _ _ e' u i1).elim
  ·simp only[ext,if_neg e1]at i1;simp only[ext,if_neg e2]at i2;split at u
   ·cases u
   ·split at A
    ·cases A
    ·exact s.inj _ _ _ _ _ _ _ u A i1 i2
 ·intro O o1 X t1 u A hf;rw[B]at u;split at u
  ·rename_i e;subst e;rw[z6]at A;cases A;have:=(s.fr _ _ _ _ Y hid hf).1;rw[U]at this;cases this
  ·rename_i e;split at u
   ·cases u
   ·simp only[ext,if_neg e]at A;exact s.fr _ _ _ _ u A hf
def GN(P:Cl) (s:Sem Next) (I:In) (a:AV):Prop:=∃v,(∀w,s.run P w= .ok (.value v) w)/\VR I a v
def zj(P:Cl) (s:Sem Value) (I:In) (a:AV):Prop:=∃v,(∀w,s.run P w= .ok v w)/\VR I a v
variable {s:Sem Value} {I:In}
def zj.next{P:Cl} {a:AV} (h:zj P s I a):GN P (do pure (.value (←s))) I a:=by obtain⟨v,u,A⟩:=h;exact⟨v,λw=>by simp[u w,γ],A⟩
def NW{P:Cl} {a:AV} {v:Value} (h:wJ P s=δ v) (g:ja v=δ a):zj P s I a:=
 ⟨v,q6i P s v h,N6 I v a g⟩
def nth{α:Type}:List α->Nat->Option α
  | [],_=>ε
  | x::l,n=>match n with
    |0=>δ x
    |n+1=>nth l n
def ke{α:Type}:∀(l:List α) (n:Nat),nth l n=l[n]?
 | [],_=>by simp[nth]
 |x::l,0=>by simp[nth]
 |x::l,n+1=>by simp[nth,ke l n]
def Jk:List Nat->List Nat->Bool
 | [],[]=>ς
 |a::x,b::y=>if a % 256=b % 256 then Jk x y else μ
 |_,_=>μ
def q59(l:List Nat):(mkS l).toList=l.map ζ:=by rw[ByteArray.toList_eq];rfl
def q0v(l:List Nat):(mkS l).size=l.length:=by simp[mkS,ByteArray.size]
def q93(l m:List Nat):mkS l++mkS m=mkS (l++m):=by unfold mkS;apply ByteArray.ext;simp
def qfo(l:List Nat) (i:Nat):(mkS l)[i]? =(l[i]?).map ζ:=by
 by_cases h:i<l.length
 ·have u:i<(mkS l).size:=by rw[q0v];exact h
  rw[ByteArray.getElem?_lt' _ _ u,qqb h];simp only[qqx,Option.some.injEq];show(mkS l).data[i]=_;simp[mkS]
 ·rw[ByteArray.getElem?_ge' _ _ (by rw[q0v];exact h),qqf (by omega)];rfl
def ofNat_eq(a b:Nat):(ζ a=ζ b)↔a % 256=b % 256:=by
 constructor
 ·intro h;have:=congrArg Γ h;simpa[π]using this
 ·intro h;apply UInt8.toNat_inj.1;simpa[π]using h
def qdy:∀(a b:List Nat),Jk a b=(a.map ζ==b.map ζ)
  | [],[]=>rfl
  | [],_::_=>rfl
  |_::_,[]=>rfl
  | a ::x,b::y=>by
    rw[Jk];split
    · rename_i h;rw[qdy x y,σ,σ,qqs,(ofNat_eq a b).2 h];simp
    · rename_i h;rw[σ,σ,qqs];have:(ζ a==ζ b)=false:=(by rw[beq_eq_false_iff_ne];exactλe=>h ((ofNat_eq a b).1 e));rw[this];rfl
def JH:List Nat->List Nat->Bool
 |_,[]=>μ
 | [],_::_=>ς
 |a::x,b::y=>if a % 256<b % 256 then ς else if a % 256=b % 256 then JH x y else μ
def qe5:∀(a b:List Nat),JH a b=Op.bytesLess (a.map ζ) (b.map ζ)
  | [],[]=>rfl
  | [],_::_=>rfl
  |_::_,[]=>rfl
  | a ::x,b::y=>by
    rw[JH,σ,σ,Op.bytesLess,←qe5 x y];have u:decide (ζ a<ζ b)=decide (a % 256<b % 256):=(by simp[UInt8.lt_iff_toNat_lt,π]);have A:(ζ a==ζ b)=decide (a % 256=b % 256):=by
      by_cases h:a % 256=b % 256
      · rw[(ofNat_eq a b).2 h];simp[h]
      · rw[decide_eq_false h,beq_eq_false_iff_ne];exactλe=>h ((ofNat_eq a b).1 e)
    rw[u,A];by_cases h:a % 256<b % 256
    · simp[h]
    · by_cases g:a % 256=b % 256<;>simp[h,g]
def Ow(op:BinOp) (a b:List Nat):Option AV:=
 match op with
 | .add=>if a.length+b.length<9223372036854775808 then δ (.str (a++b))else ε
 | .eql=>δ (.bool (Jk a b))
 | .neq=>δ (.bool (!Jk a b))
 | .lss=>δ (.bool (JH a b))
 | .leq=>δ (.bool (JH a b||Jk a b))
 | .gtr=>δ (.bool (!(JH a b||Jk a b)))
 | .geq=>δ (.bool (!JH a b))
 |_=>ε
variable {op:BinOp}
def qdl{P:Cl} {a b:List Nat} {r:AV} (h:Ow op a b=δ r):zj P (qqt op (mkS a) (mkS b)) I r:=by
 unfold qqt;rw[q59,q59,←qdy,←qe5];cases op<;>simp only[Ow]at h;case add=>
  split at h
  ·rename_i A;cases h;refine⟨.string (mkS (a++b)),λw=> ?_, .str _⟩;have u:¬(((mkS a).size+(mkS b).size:Nat):Int)>IntKind.i64.max:=(by rw[q0v,q0v];simp[IntKind.max,ρ,τ];omega);simp only[if_neg u,q93];rfl
  ·cases h
 all_goals (first| (cases h;done)| (cases h;exact⟨_,λw=>rfl, .bool _⟩))
def fits:IntKind->Int->Bool
 | .i64, .ofNat n=>Ο n 9223372036854775807
 | .i64, .negSucc n=>Ο n 9223372036854775807
 | .u64, .ofNat n=>Ο n 18446744073709551615
 | .i32, .ofNat n=>Ο n 2147483647
 | .i32, .negSucc n=>Ο n 2147483647
 | .u32, .ofNat n=>Ο n 4294967295
 | .u8, .ofNat n=>Ο n 255
 |_,_=>μ
variable {k:IntKind}
def NV{n:Int} (h:fits k n=ς):k.wrap n=n:=by
 unfold fits at h;split at h;all_goals (try (cases h;done))
 all_goals
  have h:=Nat.le_of_ble_eq_true h;simp only[χ,τ,ρ,qqa,υ];simp;try omega
def yU:Int->Int->Bool
 | .ofNat a, .ofNat b=>qqz a b
 | .ofNat _, .negSucc _=>μ
 | .negSucc _, .ofNat _=>ς
 | .negSucc a, .negSucc b=>qqz b a
def yS:Int->Int->Bool
 | .ofNat a, .ofNat b=>ι a b
 | .negSucc a, .negSucc b=>ι a b
 |_,_=>μ
def blt_eq(a b:Nat):qqz a b=decide (a<b):=by
 by_cases h:a<b
 ·rw[decide_eq_true h];simpa[qqw]using h
 ·rw[decide_eq_false h];rw[Bool.eq_false_iff];simpa[qqw]using h
def qey(a b:Nat):ι a b=decide (a=b):=by
 by_cases h:a=b
 ·subst h;simp
 ·rw[decide_eq_false h];cases u:ι a b with
  |true=>exact absurd (qqk u) h
  |false=>rfl
def VU(a b:Int):yU a b=decide (a<b):=by cases a<;>cases b<;>simp only[yU,blt_eq,υ,qqa]<;>first| (apply decide_eq_decide.2;omega)| (symm;apply decide_eq_true;omega)| (symm;apply decide_eq_false;omega)
def Gy(a b:Int):yS a b=decide (a=b):=by cases a<;>cases b<;>simp only[yS,qey,υ,qqa]<;>first| (apply decide_eq_decide.2;omega)| (symm;apply decide_eq_false;omega)
def On(op:BinOp) (k:IntKind) (x y:Int):Option AV:=
 match op with
 | .add=>let r:=Ρ x y;match fits k r with|true=>δ (.int k r)|false=>ε
 | .sub=>let r:=Ζ x y;match fits k r with|true=>δ (.int k r)|false=>ε
 | .eql=>δ (.bool (yS x y))
 | .neq=>δ (.bool (!yS x y))
 | .lss=>δ (.bool (yU x y))
 | .gtr=>δ (.bool (yU y x))
 | .leq=>δ (.bool (!yU y x))
 | .geq=>δ (.bool (!yU x y))
 |_=>ε
def qi0:IntKind->IntKind->Bool
 | .i64, .i64| .u64, .u64| .i32, .i32| .u32, .u32| .u8, .u8=>ς
 |_,_=>μ
def qdg{k u:IntKind} (h:qi0 k u=ς):k=u:=by cases k<;>cases u<;>first|rfl|cases h
def qcv{P:Cl} {t:TypeId} {x y:Int} {r:AV} (h:On op k x y=δ r):zj P (binOp op t (.int k x) (.int k y)) I r:=by
 cases op<;>simp only[On]at h;case add=>
  split at h
  ·rename_i u;cases h;exact⟨_,λw=>by simp only[binOp,ne_eq,not_true,if_false,qqu,η];rw[show x+y=Ρ x y from rfl,NV u], .int _ _⟩
  ·cases h
 case sub=>
  split at h
  ·rename_i u;cases h;exact⟨_,λw=>by simp only[binOp,ne_eq,not_true,if_false,qqu,η];rw[show x- y=Ζ x y from rfl,NV u], .int _ _⟩
  ·cases h
 case eql=>cases h;exact⟨.bool (x==y),λw=>by simp only[binOp,ne_eq,not_true,if_false,Κ,η],by rw[show(x==y)=decide (x=y)from rfl,←Gy];exact .bool _⟩
 case neq=>cases h;exact⟨.bool (x !=y),λw=>by simp only[binOp,ne_eq,not_true,if_false,Κ,η],by rw[show(x !=y)= !decide (x=y)from rfl,←Gy];exact .bool _⟩
 case lss=>cases h;exact⟨.bool (decide (x<y)),λw=>by simp only[binOp,ne_eq,not_true,if_false,Κ,η],by rw[←VU];exact .bool _⟩
 case gtr=>cases h;exact⟨.bool (decide (x>y)),λw=>by simp only[binOp,ne_eq,not_true,if_false,Κ,η],by rw[show decide (x>y)=decide (y<x)from rfl,←VU];exact .bool _⟩
 case leq=>cases h;exact⟨.bool (decide (x<=y)),λw=>by simp only[binOp,ne_eq,not_true,if_false,Κ,η],by
  have:decide (x<=y)= !yU y x:=by rw[VU];by_cases h:y<x<;>simp[h]<;>omega
  rw[this];exact .bool _⟩
 case geq=>cases h;exact⟨.bool (decide (x>=y)),λw=>by simp only[binOp,ne_eq,not_true,if_false,Κ,η],by
  have:decide (x>=y)= !yU x y:=by rw[VU];by_cases h:x<y<;>simp[h]<;>omega
  rw[this];exact .bool _⟩
 all_goals cases h
def uD(P:Cl) (op:BinOp) (t:TypeId) (a b:AV):Option AV:=
  match a,b with
  | .int k x, .int h y=>match(match qi0 k h with|true=>On op k x y|false=>ε)with
    |some r=>δ r
    |none=>match wJ P (binOp op t (.int k x) (.int h y))with|some v=>FW v|none=>ε
  | .str x, .str y=>Ow op x y
  | .bool x, .bool y=>match wJ P (binOp op t (.bool x) (.bool y))with|some v=>ja v|none=>ε
  | a,b=>
    match op with
    | .eql| .neq=>match aeq P t a b with|some r=>δ (.bool (if op matches .eql then r else !r))|none=>ε
    |_=>ε
where
  aeq (P:Cl) (t:TypeId) (a b:AV):Option Bool:=
    match P.underlying t,a,b with
    |some (.pointer _), .nilp, .nilp=>δ ς
    |some (.pointer _), .nilp, .ptr .. =>δ μ
    |some (.pointer _), .ptr .., .nilp=>δ μ
    |some (.pointer e), .ptr i f, .ptr j g=>if i=j then(match P.info? e with|some k=>if k.size=0 then ε else δ (f==g)|none=>ε)else ε
    |some (.slice _), .nsl, .nsl=>δ ς
    |some (.slice _), .nsl, .sl .. |some (.slice _), .nsl, .gsl .. =>δ μ
    |some (.slice _), .sl .., .nsl|some (.slice _), .gsl .., .nsl=>δ μ
    |some (.map ..), .nmap, .nmap=>δ ς
    |some (.map ..), .nmap, .map .. |some (.map ..), .map .., .nmap=>δ μ
    |some (.func ..), .nilf, .nilf=>δ ς
    |some (.func ..), .nilf, .fn .. |some (.func ..), .fn .., .nilf=>δ μ
    | _, .agg x, .agg y=>match concs x,concs y with
      |some u,δ v=>wJ P (do (if(←program).eqGuardType (←program).depth t then stuck "" else pure ());Α t (.agg ⟨u⟩) (.agg ⟨v⟩))
      |_,_=>ε
    |_,_,_=>ε
  concs:List AV->Option (List Value)
    | []=>δ []
    | a::l=>match xG a,concs l with
      |some v,δ x=>δ (v::x)
      |_,_=>ε
def WE{I:In}:∀{l:List AV} {x:List Value},uD.concs l=δ x->∀{u},VRs I l u->u=x
  | [],x,h,u,r=>by simp[uD.concs]at h;subst h;cases r;rfl
  | a ::l,x,h,u,r=>by
    simp only[uD.concs]at h;split at h
    · rename_i v y A B;cases h;cases r with
      |cons C G=>rw[WM A C,WE B G]
    · cases h
variable {op:BinOp} {t:TypeId}
def Zk{P:Cl} {x y:Operand} {a b:Value} (h:a= .nilIface->False) (u:∀c,a= .agg c->False) (w:World):(eqGuard op t x y a b).run P w= .ok () w:=by cases a<;>first|exact(h rfl).elim|exact(u _ rfl).elim| (unfold eqGuard;cases op<;>rfl)
def q7g{P:Cl} {x y:Operand} {a b:Array Value} (h:P.eqGuardType P.depth t=μ) (w:World):(eqGuard op t x y (.agg a) (.agg b)).run P w= .ok () w:=by unfold eqGuard;cases op<;>first|rfl|simp[program,ξ,bind,ω,pure,h]
def binOp_eql{a b:Value} (h:∀k n,a≠ .int k n) (A:∀k n,a≠ .float k n) (u:∀k n m,a≠ .complex k n m) (hs:∀s,a≠ .string s):binOp .eql t a b=(do pure (.bool (←Α t a b)))/\binOp .neq t a b=(do pure (.bool (!(←Α t a b)))):=by
 constructor
 ·unfold binOp;cases a<;>first|rfl|exact absurd rfl (h _ _)|exact absurd rfl (A _ _)|exact absurd rfl (u _ _ _)|exact absurd rfl (hs _)
 ·unfold binOp;cases a<;>first|rfl|exact absurd rfl (h _ _)|exact absurd rfl (A _ _)|exact absurd rfl (u _ _ _)|exact absurd rfl (hs _)
def JK{P:Cl} {a b:Value} {d:TypeDesc} (h:P.underlying t=δ d) (w:World) (r:Bool)
  (hr:∀n,(Ξ (n+1) t a b).run P w= .ok r w):(Α t a b).run P w= .ok r w:=hr 9999
variable {I:In}
def qgq {P : Cl} {a b:AV} {u v:Value} {r:Bool} (h:uD.aeq P t a b=δ r) (A:VR I a u) (B:VR I b v):
    (∀w,(Α t u v).run P w= .ok r w)/\(∀k n,u≠ .int k n)/\(∀k n,u≠ .float k n)/\(∀k n m,u≠ .complex k n m)/\(∀s,u≠ .string s)/\(u= .nilIface->False)/\((∀c,u≠ .agg c)\/(∃c d,u= .agg c/\v= .agg d/\P.eqGuardType P.depth t=μ)):=by
  unfold uD.aeq at h;split at h;case h_4=>
    rename_i e i f j g hd;split at h
    · rename_i G;subst G;split at h
      · rename_i k V;split at h
        · cases h
        · rename_i X;cases h;cases A with
          | @ptr _ _ J ss Y U=>
            cases B with
            | ptr O=>
              rw[U]at O;cases O;refine⟨λw=>JK hd w _ λn=> ?_,by simp,by simp,by simp,by simp,by simp, .inl (by simp)⟩;have H:(sizeOf e).run P w= .ok k.size w:=(by simp[sizeOf,typeInfo,program,ξ,V,bind,ω,pure]);simp only[Ξ,θ,run_underlying hd,γ,H];rw[if_pos X];have:((⟨J,ss+f,ε⟩:Addr)==⟨J,ss+g,ε⟩)=(f==g):=by
                by_cases C:f=g
                · subst C;simp
                · rw[beq_eq_false_iff_ne.2 C,beq_eq_false_iff_ne];intro he;injection he;omega
              simp[sameAddr,this]
      · cases h
    · cases h
  case h_16 =>
    rename_i x y hd;split at h
    · rename_i p q hp hq;cases A with
      | agg A=>
        cases B with
        | agg B=>
          have e1:=WE hp A;have e2:=WE hq B;subst e1 e2;cases T:P.eqGuardType P.depth t with
          |true=>simp[program,wJ,bind,ω,T,stuck]at h
          | false=>
            simp[program,wJ,bind,ω,T,pure]at h;exact⟨λw=>q6i P _ _ h w,by simp,by simp,by simp,by simp,by simp, .inr ⟨_,_,rfl,rfl,rfl⟩⟩
    · cases h
  case h_17=>cases h
  all_goals
    rename_i hd;cases h;cases A;cases B;refine⟨λw=>JK hd w _ λn=> ?_,by simp,by simp,by simp,by simp,by simp, .inl (by simp)⟩;simp[Ξ,run_underlying hd,γ]
def qek{P:Cl} {x y:Operand} {a b r:AV} {u v:Value} (h:uD P op t a b=δ r) (G:VR I a u) (H:VR I b v):
  zj P (do eqGuard op t x y u v;binOp op t u v) I r:=by
 have A:∀{s:Sem Value},(∀w,(eqGuard op t x y u v).run P w= .ok () w)->zj P s I r->zj P (do eqGuard op t x y u v;s) I r:=λJ ⟨z,C,O⟩=>
  ⟨z,λw=>by simp[J w,C w,γ],O⟩
 unfold uD at h;split at h
 ·cases G;cases H;split at h
  ·rename_i z B;cases h;split at B
   ·rename_i hk;have:=qdg hk;subst this;exact A (Zk (by simp) (by simp)) (qcv B)
   ·cases B
  ·split at h
   ·rename_i z B;rw[qe7]at h;exact A (Zk (by simp) (by simp)) (NW B h)
   ·cases h
 ·rename_i p q;cases G;cases H;exact A (Zk (by simp) (by simp)) (by have:binOp op t (.string (mkS p)) (.string (mkS q))=qqt op (mkS p) (mkS q):=(by unfold binOp;cases op<;>rfl);rw[this];exact qdl h)
 ·cases G;cases H;split at h
  ·rename_i z B;exact A (Zk (by simp) (by simp)) (NW B h)
  ·cases h
 ·have key:∀q,uD.aeq P t a b=δ q->zj P (do eqGuard .eql t x y u v;binOp .eql t u v) I (.bool q)/\zj P (do eqGuard .neq t x y u v;binOp .neq t u v) I (.bool !q):=λq hq=>by
   obtain⟨C,O,V,X,Y,Z,T⟩:=qgq hq G H;obtain⟨e1,e2⟩:=binOp_eql (t:=t) (b:=v) O V X Y;have J:∀o w,(eqGuard o t x y u v).run P w= .ok () w:=λo w=>by
    rcases T with T|⟨c,d,rfl,rfl,U⟩
    ·exact Zk Z (λc e=>T c e) w
    ·exact q7g U w
   constructor
   ·exact⟨_,λw=>by rw[e1];simp[J .eql w,C w,γ], .bool _⟩
   ·exact⟨_,λw=>by rw[e2];simp[J .neq w,C w,γ], .bool _⟩
  cases op<;>simp only at h<;>try (cases h;done)
  all_goals
   split at h
   ·rename_i q hq;cases h;first|exact(key q hq).1|exact(key q hq).2
   ·cases h
def yC:Operand->Bool
 | .const _=>ς
 |_=>μ
def Oq(P:Cl) (t:TypeId) (a b:AV):Option Bool:=ε
def qd0{P:Cl} {a b:AV} {u v:Value} {q:Bool} (h:Oq P t a b=δ q) (C:VR I a u) (G:VR I b v):
  (∀w,(Α t u v).run P w= .ok q w)/\∃t1 A t2 B,u= .iface t1 A/\v= .iface t2 B:=by unfold Oq at h;cases h
def IY(P:Cl) (op:BinOp) (t:TypeId) (a b:AV):Option AV:=
  match Oq P t a b with
  | some q=>match op with
    | .eql=>δ (.bool q)
    | .neq=>δ (.bool !q)
    |_=>ε
  |none=>ε
def qb0{P:Cl} {x y:Operand} {a b r:AV} {u v:Value} (h:IY P op t a b=δ r) (H:VR I a u) (J:VR I b v):
  zj P (do eqGuard op t x y u v;binOp op t u v) I r:=by
 unfold IY at h;split at h
 ·rename_i q hq;obtain⟨A,t1,C,t2,G,rfl,rfl⟩:=qd0 hq H J;have B:∀o w,(eqGuard o t x y (.iface t1 C) (.iface t2 G)).run P w= .ok () w:=λo w=>by unfold eqGuard;cases o<;>rfl
  obtain⟨e1,e2⟩:=binOp_eql (t:=t) (a:= .iface t1 C) (b:= .iface t2 G) (by simp) (by simp) (by simp) (by simp);cases op<;>simp only at h<;>try (cases h;done)
  ·cases h;exact⟨_,λw=>by rw[e1];simp[B .eql w,A w,γ], .bool _⟩
  ·cases h;exact⟨_,λw=>by rw[e2];simp[B .neq w,A w,γ], .bool _⟩
 ·cases h
def Qu (P:Cl) (op:BinOp) (t:TypeId) (y:Operand) (a b:AV):Option AV:=
  match a with
  | .nili =>match b with
    | .nili=>match yC y with
      | true=>match P.underlying t with
        | some (.interface _)=>match op with
          | .eql=>δ (.bool ς)
          | .neq=>δ (.bool μ)
          |_=>ε
        |_=>ε
      |false=>ε
    |_=>ε
  | .ifc _ _=>match b with
    | .nili=>match P.underlying t with
      | some (.interface _)=>match op with
        | .eql=>δ (.bool μ)
        | .neq=>δ (.bool ς)
        |_=>ε
      |_=>ε
    | .ifc _ _=>IY P op t a b
    |_=>ε
  |a=>uD P op t a b
def N9{P:Cl} {x y:Operand} {a b r:AV} {u v:Value} (h:Qu P op t y a b=δ r) (G:VR I a u) (H:VR I b v):
  zj P (do eqGuard op t x y u v;binOp op t u v) I r:=by
 unfold Qu at h;split at h
 ·split at h
  ·split at h
   ·rename_i J;split at h
    ·rename_i ms hd;cases G;cases H;obtain⟨c,rfl⟩:∃c,y= .const c:=by cases y<;>first|exact⟨_,rfl⟩|cases J
     have C:∀o w,(eqGuard o t x (.const c) .nilIface .nilIface).run P w= .ok () w:=λo w=>(by unfold eqGuard;cases o<;>cases x<;>rfl);obtain⟨e1,e2⟩:=binOp_eql (t:=t) (a:= .nilIface) (b:= .nilIface) (by simp) (by simp) (by simp) (by simp);have q:∀w,(Α t .nilIface .nilIface).run P w= .ok ς w:=λw=>JK hd w _ λn=>(by simp[Ξ,run_underlying hd,γ]);cases op<;>simp only at h<;>try (cases h;done)
     ·cases h;exact⟨_,λw=>by rw[e1];simp[C .eql w,q w,γ], .bool _⟩
     ·cases h;exact⟨_,λw=>by rw[e2];simp[C .neq w,q w,γ], .bool _⟩
    ·cases h
   ·cases h
  ·cases h
 ·split at h
  ·split at h
   ·rename_i ms hd;have main:∀A B,zj P (do eqGuard op t x y (.iface A B) .nilIface;binOp op t (.iface A B) .nilIface) I r:=by
     intro A B;have C:∀o w,(eqGuard o t x y (.iface A B) .nilIface).run P w= .ok () w:=λo w=>(by unfold eqGuard;cases o<;>rfl);obtain⟨e1,e2⟩:=binOp_eql (t:=t) (a:= .iface A B) (b:= .nilIface) (by simp) (by simp) (by simp) (by simp);have q:∀w,(Α t (.iface A B) .nilIface).run P w= .ok μ w:=λw=>JK hd w _ λn=>(by simp[Ξ,run_underlying hd,γ]);cases op<;>simp only at h<;>try (cases h;done)
     ·cases h;exact⟨_,λw=>by rw[e1];simp[C .eql w,q w,γ], .bool _⟩
     ·cases h;exact⟨_,λw=>by rw[e2];simp[C .neq w,q w,γ], .bool _⟩
    cases H;cases G with
    |ifc O=>exact main _ _
   ·cases h
  ·exact qb0 h G H
  ·cases h
 ·exact qek h G H
def uy:List (Int×Nat×Int×Int)->Int
 | []=>0
 | (c,_,lo,hi)::l=>Ρ (match yU c 0 with|true=>Η c hi|false=>Η c lo) (uy l)
def J4:List (Int×Nat×Int×Int)->Int
 | []=>0
 | (c,_,lo,hi)::l=>Ρ (match yU c 0 with|true=>Η c lo|false=>Η c hi) (J4 l)
def qjo{a b:Int} (h:yU a b=ς):a<b:=by rw[VU]at h;exact of_decide_eq_true h
def qjn{a b:Int} (h:yU a b=μ):b<=a:=by rw[VU]at h;have:=of_decide_eq_false h;omega
def LR.bounds{l n} (h:LR I l n):uy l<=n/\n<=J4 l:=by
  induction h with
  |nil=>exact⟨Int.le_refl _,Int.le_refl _⟩
  | @cons c id lo hi v l n h B C t u=>
    simp only[uy,J4];cases G:yU c 0 with
    | true=>
      have:=qjo G;have A:c*hi<=c*v:=Φ (by omega) C;have a2:c*v<=c*lo:=Φ (by omega) B;exact⟨Δ A u.1,Δ a2 u.2⟩
    | false=>
      have:=qjn G;have A:c*lo<=c*v:=Χ B this;have a2:c*v<=c*hi:=Χ C this;exact⟨Δ A u.1,Δ a2 u.2⟩
def V0{a b:Int} (h:yS a b=ς):a=b:=by rw[Gy]at h;exact of_decide_eq_true h
def O0(s:Int):List (Int×Nat×Int×Int)->List (Int×Nat×Int×Int)
 | []=>[]
 | (c,id,lo,hi)::l=>(Η s c,id,lo,hi)::O0 s l
def qi1{s:Int} {l n} (h:LR I l n):LR I (O0 s l) (s*n):=by
  induction h with
  |nil=>rw[qze];exact .nil
  | @cons c id lo hi v l n h u A t B=>
    have:=LR.cons (c:=Η s c) h u A B;have e:Η s c*v+s*n=s*(c*v+n):=(by show s*c*v+s*n=_;rw[Int.mul_add,qzb]);rw[e]at this;exact this
def Qz(p:Int):List (Int×Nat×Int×Int)->List (Int×Nat×Int×Int)×List (Int×Nat×Int×Int)
  | []=>([],[])
  | (c,id,lo,hi)::l=>match yS (Int.emod c p) 0 with
    |true=>((Τ c p,id,lo,hi)::(Qz p l).1,(Qz p l).2)
    |false=>((Qz p l).1,(c,id,lo,hi)::(Qz p l).2)
def qf7{p:Int} {l n} (h:LR I l n):∃a b,LR I (Qz p l).1 a/\LR I (Qz p l).2 b/\n=p*a+b:=by
  induction h with
  |nil=>exact⟨0,0, .nil, .nil,by rw[qze,qqg]⟩
  | @cons c id lo hi v l n h A B t G=>
    obtain⟨a,b,g1,g2,rfl⟩:=G;simp only[Qz];cases u:yS (Int.emod c p) 0 with
    | true=>
      have u:c % p=0:=V0 u;refine⟨_,_, .cons (c:=Τ c p) h A B g1,g2,?_⟩;have C:p*Τ c p=c:=by have:=Int.mul_ediv_add_emod c p;rw[u,qqg]at this;exact this
      rw[Int.mul_add,←qzb,C,Int.add_assoc]
    | false=>
      refine⟨_,_,g1, .cons h A B g2,?_⟩;omega
def Ns(k:IntKind) (c:Int):List (Int×Nat×Int×Int)->AV
 | []=> .int k c
 |l=> .lin k c l
variable {k:IntKind}
def qe6{c:Int} {l n} (h:LR I l n):VR I (Ns k c l) (.int k (c+n)):=by
 cases h with
 |nil=>rw[qqg];exact .int _ _
 |cons h u A t=>exact .lin (.cons h u A t)
def JV:IntKind->Option (Int×Int)
 | .i64=>δ (18446744073709551616, -9223372036854775808)
 | .u64=>δ (18446744073709551616,0)
 | .i32=>δ (4294967296, -2147483648)
 | .u32=>δ (4294967296,0)
 | .u8=>δ (256,0)
 |_=>ε
def qc2{w m n q:Int} (h:JV k=δ (w,m)) (u:m<=n- q*w) (A:n- q*w<m+w):k.wrap n=n- q*w:=by
 cases k<;>simp only[JV,Option.some.injEq,Prod.mk.injEq,reduceCtorEq]at h;all_goals
  obtain⟨rfl,rfl⟩:=h;simp only[χ,τ,ρ];simp;omega
def qdp{w m n q:Int} (h:JV k=δ (w,m)):k.wrap (n+w*q)=k.wrap n:=by
 cases k<;>simp only[JV,Option.some.injEq,Prod.mk.injEq,reduceCtorEq]at h;all_goals
  obtain⟨rfl,rfl⟩:=h;simp only[χ,τ,ρ];simp;try omega
def Hc(w m c:Int) (l:List (Int×Nat×Int×Int)):Option Int:=
 match yS (Τ (Ζ (Ρ c (uy l)) m) w) (Τ (Ζ (Ρ c (J4 l)) m) w)with
 |true=>δ (Ζ c (Η (Τ (Ζ (Ρ c (uy l)) m) w) w))
 |false=>ε
def W4{w m c d:Int} {l n} (u:JV k=δ (w,m)) (h:LR I l n) (e:Hc w m c l=δ d):k.wrap (c+n)=d+n:=by
 unfold Hc at e;split at e
 ·rename_i hq;have hq:(c+uy l- m) / w=(c+J4 l- m) / w:=V0 hq;cases e;have B:=h.bounds;have hw:0<w:=by cases k<;>simp[JV]at u<;>omega
  have e:c- (c+uy l- m) / w*w+n=c+n- (c+uy l- m) / w*w:=by omega
  show k.wrap (c+n)=c- (c+uy l- m) / w*w+n;rw[e];have A:(c+uy l- m) / w*w<=c+uy l- m:=Int.ediv_mul_le _ (by omega);have a2:c+J4 l- m<((c+J4 l- m) / w+1)*w:=Int.lt_ediv_add_one_mul_self _ hw;rw[←hq,Int.add_mul,Int.one_mul]at a2;exact qc2 u (by omega) (by omega)
 ·cases e
def G6(k:IntKind) (c:Int) (l:List (Int×Nat×Int×Int)):Option AV:=
  match JV k with
  | some (w,m)=>match Hc w m c l with
    |some d=>δ (Ns k d l)
    | none=>match Hc w m c (Qz w l).2 with
      |some d=>δ (Ns k d (Qz w l).2)
      |none=>ε
  |none=>ε
def q8o{c:Int} {l n} {r:AV} (h:LR I l n) (e:G6 k c l=δ r):VR I r (.int k (k.wrap (c+n))):=by
 unfold G6 at e;split at e
 ·rename_i w m u;split at e
  ·rename_i d hd;cases e;rw[W4 u h hd];exact qe6 h
  ·split at e
   ·rename_i d hd;cases e;obtain⟨a,b,g1,g2,rfl⟩:=qf7 (p:=w) h;have:c+(w*a+b)=(c+b)+w*a:=(by omega);rw[this,qdp u,W4 u g2 hd];exact qe6 g2
   ·cases e
 ·cases e
def Ua(op:BinOp) (a b:AV):Option AV:=ε
def qfm{P:Cl} {a b r:AV} {u v:Value} (h:Ua op a b=δ r) (A:VR I a u) (B:VR I b v):
  zj P (binOp op t u v) I r/\∃k n,u= .int k n:=by unfold Ua at h;cases h
def I9(P:Cl) (op:BinOp) (t:TypeId) (y:Operand) (a b:AV):Option AV:=
  match a with
  | .lin _ _ _=>Ua op a b
  | _=>match b with
    | .lin _ _ _=>Ua op a b
    |_=>Qu P op t y a b
def qcb{P:Cl} {x y:Operand} {a b r:AV} {u v:Value} (h:I9 P op t y a b=δ r) (A:VR I a u) (B:VR I b v):
  zj P (do eqGuard op t x y u v;binOp op t u v) I r:=by
 have main:Ua op a b=δ r->zj P (do eqGuard op t x y u v;binOp op t u v) I r:=λh=>by obtain⟨⟨z,C,G⟩,k,n,rfl⟩:=qfm (P:=P) (t:=t) h A B;refine⟨z,λw=> ?_,G⟩;have H:=Zk (P:=P) (op:=op) (t:=t) (x:=x) (y:=y) (a:= .int k n) (b:=v) (by simp) (by simp) w;simp[H,C w,γ]
 unfold I9 at h;split at h
 ·exact main h
 ·split at h
  ·exact main h
  ·exact N9 h A B
def OO(op:UnOp) (k:IntKind) (c:Int) (l:List (Int×Nat×Int×Int)):Option AV:=
 match op with
 | .neg=>G6 k (Ζ 0 c) (O0 (-1) l)
 |_=>ε
def qfn{P:Cl} {op:UnOp} {k c l r} {u:Value} (h:OO op k c l=δ r) (A:VR I (.lin k c l) u):zj P (qqv op u) I r:=by
  unfold OO at h;split at h
  · cases A with
    | @lin _ _ _ n B=>
      refine⟨_,λw=> ?_,q8o (qi1 (s:= -1) B) h⟩;have e:Ζ 0 c+ -1*n=0- (c+n):=(by show 0- c+ -1*n=_;omega);rw[e];simp only[qqv,qqu,η]
  · cases h
def Ue(P:Cl) (f:Value->Sem Value) (a:AV):Option AV:=
  match xG a with
  | some v=>match wJ P (f v)with
    |some u=>ja u
    |none=>ε
  |none=>ε
variable {I:In} {u:Value}
def IC{P:Cl} {f:Value->Sem Value} {a r:AV} (h:Ue P f a=δ r) (A:VR I a u):zj P (f u) I r:=by
 unfold Ue at h;split at h
 ·rename_i v B;rw[WM B A];split at h
  ·rename_i z C;exact NW C h
  ·cases h
 ·cases h
def I_(P:Cl) (s d:TypeId) (a:AV):Option AV:=
  match a with
  | .int _ n=>match P.underlying s,P.underlying d with
    | some _,δ (.int k)=>(match fits k n with
      |true=>δ (.int k n)
      |false=>Ue P (convert s d) a)
    |_,_=>Ue P (convert s d) a
  | .str l=>match P.underlying s,P.underlying d with
    |some _,δ .string=>δ (.str l)
    |_,_=>ε
  | .lin _ c l=>match P.underlying s,P.underlying d with
    |some _,δ (.int k)=>G6 k c l
    |_,_=>ε
  |_=>ε
def R9(P:Cl) (op:UnOp) (a:AV):Option AV:=
 match a with
 | .lin k c l=>OO op k c l
 |_=>Ue P (qqv op) a
def qgv{P:Cl} {op:UnOp} {a r:AV} (h:R9 P op a=δ r) (A:VR I a u):zj P (qqv op u) I r:=by
 unfold R9 at h;split at h
 ·exact qfn h A
 ·exact IC h A
def qcc{P:Cl} {s d:TypeId} {a r:AV} (h:I_ P s d a=δ r) (A:VR I a u):zj P (convert s d u) I r:=by
 unfold I_ at h;split at h
 ·split at h
  ·rename_i x k hs hd;split at h
   ·rename_i B;cases h;cases A;exact⟨_,λw=>by simp[convert,run_underlying hs,run_underlying hd,γ,qq9,NV B], .int _ _⟩
   ·exact IC h A
  ·exact IC h A
 ·split at h
  ·rename_i l x hs hd;cases h;cases A;refine⟨_,λw=> ?_, .str _⟩;unfold convert;simp[run_underlying hs,run_underlying hd,γ]
  ·cases h
 ·split at h
  ·rename_i x k hs hd;cases A with
   |lin C=>exact⟨_,λw=>by simp[convert,run_underlying hs,run_underlying hd,γ,qq9],q8o C h⟩
  ·cases h
 ·cases h
def kJ(t:T AV):List Operand->Option (List AV)
  | []=>δ []
  | x ::l=>match ev t x with
    | some a=>match kJ t l with
      |some r=>δ (a::r)
      |none=>ε
    |none=>ε
def vI{I:In} {t:T AV} {a:Act} (h:TR I t a.tmps):∀{l:List Operand} {r},kJ t l=δ r->VRs I r (l.map a.eval)
  | [],r,e=>by simp[kJ]at e;subst e;exact .nil
  | x ::l,r,e=>by
    simp only[kJ]at e;split at e
    · rename_i v u;split at e
      · rename_i y A;cases e;exact .cons (ql h u) (vI h A)
      · cases e
    · cases e
def amk(t:T AV) (fn:Fn) (first h:List Operand):Option AV:=
 match fn,first with
 | .func f,[]=>match kJ t h with|some l=>δ (.fn f l)|none=>ε
 | .func f,x::xs=>match kJ t (x::xs),kJ t h with|some a,δ l=>δ (.bfn f a l)|_,_=>ε
 |_,_=>ε
def IF(P:Cl) (s:TypeId) (a:AV) (f:Nat):Option AV:=
  match a,P.underlying s with
  | .ptr id off,δ (.struct fs)=>match fs.toList[f]? with
    | some fd=>match P.info? fd.type with
      |some i=>if i.size=0 then ε else δ (.ptr id (off+fd.offset))
      |none=>ε
    |none=>ε
  |_,_=>ε
variable {t:TypeId}
def run_sizeOf{P:Cl} {i:TypeInfo} (h:P.info? t=δ i) (w:World):(sizeOf t).run P w= .ok i.size w:=by simp[sizeOf,typeInfo,program,ξ,h,bind,ω,pure]
def q9y{P:Cl} {s:TypeId} {a r:AV} {f:Nat} (h:IF P s a f=δ r) (G:VR I a u):zj P (qq4 s u f) I r:=by
  unfold IF at h;split at h
  · rename_i id off fs hs;split at h
    · rename_i fd H;split at h
      · rename_i i hi;split at h
        · cases h
        · rename_i J;cases h;cases G with
          | @ptr _ _ B ss O C=>
            refine⟨.pointer (δ ⟨B,ss+off+fd.offset,ε⟩),λw=> ?_, .ptr' C (by omega)⟩;have A:fs[f]? =δ fd:=(by simpa using H);simp[qq4,run_underlying hs,A,φ,fieldPlace,run_sizeOf hi,J,γ,ku]
      · cases h
    · cases h
  · cases h
def NK(P:Cl) (t:TypeId) (x i:AV):Option AV:=
  match i with
  | .int k (.ofNat n)=>
    match P.underlying t,x with
    |some (.array len e), .ptr id off=>if n<len then(match P.info? e with|some j=>δ (.ptr id (off+n*j.size))|none=>ε)else ε
    |some (.slice e), .sl id off len _|some (.slice e), .gsl id off len _=>if n<len then(match P.info? e with|some j=>δ (.ptr id (off+n*j.size))|none=>ε)else ε
    |_,_=>ε
  |_=>ε
def q5k{P:Cl} {x i r:AV} {u v:Value} (h:NK P t x i=δ r) (hx:VR I x u) (hi:VR I i v):zj P (Θ t u v) I r:=by
  unfold NK at h;split at h
  · rename_i k n;cases hi;split at h
    · rename_i len e id off G;split at h
      · rename_i O;split at h
        · rename_i j C;cases h;cases hx with
          | @ptr _ _ A ss T B=>
            refine⟨.pointer (δ ⟨A,ss+off+n*j.size,ε⟩),λw=> ?_, .ptr' B (by omega)⟩;have H:(0:Int)<=(n:Int)/\(n:Int)<len:=(by omega);simp[Θ,asIntOf,run_underlying G,φ,run_sizeOf C,γ,ku];intro J;omega
        · cases h
      · cases h
    · rename_i e id off len cap G;split at h
      · rename_i O;split at h
        · rename_i j C;cases h;cases hx with
          | @sl _ _ _ _ A ss T B=>
            refine⟨.pointer (δ ⟨A,ss+off+n*j.size,ε⟩),λw=> ?_, .ptr' B (by omega)⟩;have H:(0:Int)<=(n:Int)/\(n:Int)<len:=(by omega);simp[Θ,asIntOf,run_underlying G,φ,run_sizeOf C,γ,ku];intro J;omega
        · cases h
      · cases h
    · rename_i e id off len esz G;split at h
      · rename_i O;split at h
        · rename_i j C;cases h;cases hx with
          | @gsl _ _ _ _ A ss T c o B g1 g2 g3=>
            have U:o=ss+off:=by
              rcases g3 with g3|g3
              · exact g3
              · omega
            subst U;refine⟨.pointer (δ ⟨A,ss+off+n*j.size,ε⟩),λw=> ?_, .ptr' B (by omega)⟩;have H:(0:Int)<=(n:Int)/\(n:Int)<len:=(by omega);simp[Θ,asIntOf,run_underlying G,φ,run_sizeOf C,γ,ku];intro J;omega
        · cases h
      · cases h
    · cases h
  · cases h
def apart(P:Cl) (t:TypeId) (l:List AV) (off:Nat):Option AV:=
 match shapeOf P t with
 |some (δ n)=>match takeN l off n with|some x=>δ (.agg x)|none=>ε
 |some ε=>match l.drop off with|x::_=>δ x| []=>ε
 |none=>ε
def q7y{P:Cl} {l:List AV} {vs:List Value} {off:Nat} {r:AV} (h:apart P t l off=δ r) (G:VRs I l vs):zj P (part t ⟨vs⟩ off) I r:=by
  unfold apart at h;split at h
  · rename_i n hs;split at h
    · rename_i x hx;cases h;unfold takeN at hx;simp only at hx;split at hx
      · rename_i J;cases hx;have hr:=VRs.take (VRs.drop G off) n;refine⟨.agg ⟨(vs.drop off).take n⟩,λw=> ?_, .agg hr⟩;obtain⟨A,C⟩:=VB (P:=P) (w:=w) hs;simp[part,A,C n rfl,γ]
      · cases hx
    · cases h
  · rename_i hs;split at h
    · rename_i x r hx;cases h;have hd:=VRs.drop G off;rw[hx]at hd;cases u:vs.drop off with
      |nil=>rw[u]at hd;cases hd
      | cons v O=>
        rw[u]at hd;cases hd with
        | cons H _=>
          refine⟨v,λw=> ?_,H⟩;obtain⟨A,C⟩:=VB (P:=P) (w:=w) hs;have B:vs[off]? =δ v:=by have:(vs.drop off)[0]? =δ v:=(by rw[u];rfl);rw[Μ]at this;simpa using this
          simp[part,A,γ,B]
    · cases h
  · cases h
def Oz(P:Cl) (t:TypeId) (a:AV) (f:Nat):Option AV:=
  match a,P.underlying t with
  | .agg l,δ (.struct fs)=>match fs.toList[f]? with
    |some fd=>apart P fd.type l fd.offset
    |none=>ε
  |_,_=>ε
def qeo{P:Cl} {a r:AV} {f:Nat} (h:Oz P t a f=δ r) (G:VR I a u):zj P (qzc t u f) I r:=by
  unfold Oz at h;split at h
  · rename_i l fs O;split at h
    · rename_i fd H;cases G with
      | agg J=>
        obtain⟨v,B,C⟩:=q7y h J;have A:fs[f]? =δ fd:=(by simpa using H);exact⟨v,λw=>by simp[qzc,run_underlying O,A,asAgg,B w,γ],C⟩
    · cases h
  · cases h
def II(P:Cl) (t:TypeId) (x i:AV):Option AV:=
  match i with
  | .int k (.ofNat n)=>
    match P.underlying t,x with
    |some .string, .str l=>match nth l n with|some b=>δ (.int .u8 (.ofNat (b % 256)))|none=>ε
    |some (.array len e), .agg l=>if n<len then(match P.info? e with|some j=>apart P e l (n*j.size)|none=>ε)else ε
    |_,_=>ε
  |_=>ε
def qa1{P:Cl} {x i r:AV} {u v:Value} (h:II P t x i=δ r) (hx:VR I x u) (hi:VR I i v):zj P (qqh t u v) I r:=by
  unfold II at h;split at h
  · rename_i k n;cases hi;split at h
    · rename_i l B;split at h
      · rename_i b J;cases h;cases hx;refine⟨_,λw=> ?_, .int _ _⟩;have O:(mkS l)[n]? =δ (ζ b):=(by rw[qfo,←ke,J];rfl);have C:(if(0:Int)<=(n:Int)then(mkS l)[(n:Int).toNat]? else ε)=δ (ζ b):=(by rw[if_pos (by omega)];exact O);simp only[qqh,asIntOf,θ,η,γ,run_underlying B,υ,C,π]
      · cases h
    · rename_i len e l B;split at h
      · rename_i V;split at h
        · rename_i j T;cases hx with
          | agg A=>
            obtain⟨z,G,H⟩:=q7y h A;refine⟨z,λw=> ?_,H⟩;simp[qqh,asIntOf,run_underlying B,run_sizeOf T,G w,γ];intro U;omega
        · cases h
      · cases h
    · cases h
  · cases h
def Oy(x:AV) (i:Nat):Option AV:=
 match x with
 | .tup l=>nth l i
 |_=>ε
def qen{P:Cl} {x r:AV} {i:Nat} (h:Oy x i=δ r) (hx:VR I x u):zj P (qq5 u i) I r:=by
  unfold Oy at h;split at h
  · cases hx with
    | tup C=>
      rw[ke]at h;obtain⟨v,A,B⟩:=VRs.get C _ _ h;exact⟨v,λw=>by simp[qq5,A],B⟩
  · cases h
inductive VO(I:In):Option AV->Option Value->Prop
 |none:VO I ε ε
 |some {a v} (h:VR I a v):VO I (δ a) (δ v)
def IJ(P:Cl) (t:TypeId) (x:AV) (lo hi:Option AV):Option AV:=ε
def qa6{P:Cl} {x r:AV} {lo hi:Option AV} {a b:Option Value} (e:IJ P t x lo hi=δ r) (hx:VR I x u) (A:VO I lo a) (h:VO I hi b):
  zj P (Instr.sliceAt t u a b ε) I r:=by unfold IJ at e;cases e
def JM:AV->List AV
  | .agg l=>l
  | .sv v=>match v.oneCell' with
    |true=>[.sv v]
    |false=>v.cells.toList.map .sv
  |a=>[a]
def VRs.svs{I:In}:∀l:List Value,VRs I (l.map .sv) l
 | []=> .nil
 |v::l=> .cons (.sv v) (VRs.svs l)
def F7{I:In} {a:AV} {v:Value} (h:VR I a v):VRs I (JM a) v.cells.toList:=by
 cases h;case sv=>
  unfold JM;simp only;split
  ·rename_i u;cases v<;>first|exact .cons (.sv _) .nil|simp[Value.oneCell']at u
  ·exact VRs.svs _
 case agg=>assumption
 all_goals exact .cons (by constructor<;>assumption) .nil
def JS(place:Nat->Option (Nat×Nat)) (l:List AV):List (Nat×AV)->Option (List AV)
  | []=>δ l
  | (i,a)::rest=>
    match place i with
    |none=>ε
    | some (off,size)=>
      let x:=JM a
      if x.length=size then(if off+size<=l.length then JS place (spl l off x) rest else ε)else ε
inductive PR(I:In):List (Nat×AV)->List (Nat×Value)->Prop
 |nil:PR I [] []
 |cons {i a v l vs} (h:VR I a v) (t:PR I l vs):PR I ((i,a)::l) ((i,v)::vs)
def q83(off:Nat):∀(xs:List Value) (k:Nat) (l:List Value),(xs.zipIdx k).foldl (λ(cs:Array Value) (c,j)=>cs.setIfInBounds (off+j) c) ⟨l⟩=(⟨spl l (off+k) xs⟩:Array Value)
  | [],_,_=>rfl
  | x::xs,k,l=>by simp only[List.zipIdx_cons,List.foldl_cons,spl];have:(⟨l⟩:Array Value).setIfInBounds (off+k) x=⟨l.set (off+k) x⟩:=(by simp);rw[this,q83 off xs (k+1)];rfl
def qar(off:Nat) (xs:Array Value) (l:List Value):(xs.zipIdx).foldl (λ(cs:Array Value) (c,j)=>cs.setIfInBounds (off+j) c) ⟨l⟩=(⟨spl l off xs.toList⟩:Array Value):=by have:=q83 off xs.toList 0 l;rw[Nat.add_zero]at this;rw[←this,←Array.foldl_toList];congr 1;simp
def Gd{I:In} (place:Nat->Option (Nat×Nat)):∀{parts:List (Nat×AV)} {ps:List (Nat×Value)},PR I parts ps->∀(l r:List AV) (vs:List Value),VRs I l vs->JS place l parts=δ r->∃us,qqr place ⟨vs⟩ ps=δ ⟨us⟩/\VRs I r us
  |_,_, .nil=>λl r vs u h=>by simp[JS]at h;subst h;exact⟨vs,rfl,u⟩
  | _, _, .cons (i:=i) (v:=v) T O=>λl r vs u h=>by
    simp only[JS]at h;split at h
    · cases h
    · rename_i off size hp;split at h
      · rename_i G;split at h
        · rename_i U;have C:=F7 T;have A:v.cells.size=size:=(by rw[←Ε,←C.len];exact G);have B:vs.length=l.length:=u.len.symm;obtain⟨us,H,J⟩:=Gd place O _ _ _ (IA C off u) h;refine⟨us,?_,J⟩;have hlen:(⟨vs⟩:Array Value).size=vs.length:=rfl;simp only[qqr,hp,A,hlen,B];rw[if_neg (by simp;omega),qar];exact H
        · cases h
      · cases h
def xC(P:Cl) (t:TypeId):Option (List AV):=
  match P.info? t with
  | some i=>match i.zero with
    |some z=>ofVals z.cells.toList
    |none=>ε
  |none=>ε
variable {t:TypeId}
def WH{P:Cl} {l:List AV} (h:xC P t=δ l) (I:In):∃z,(∀w,(zeroValue t).run P w= .ok z w)/\VRs I l z.cells.toList:=by
 unfold xC at h;split at h
 ·rename_i i hi;split at h
  ·rename_i z u;exact⟨z,λw=>by simp[zeroValue,typeInfo,program,ξ,hi,bind,ω,pure,u],ofVals_rel I _ _ h⟩
  ·cases h
 ·cases h
def VL(t:T AV):List (Nat×Operand)->Option (List (Nat×AV))
  | []=>δ []
  | (i,x)::l=>match ev t x with
    | some a=>match VL t l with
      |some r=>δ ((i,a)::r)
      |none=>ε
    |none=>ε
def NT{I:In} {t:T AV} {a:Act} (h:TR I t a.tmps):∀{l:List (Nat×Operand)} {r},VL t l=δ r->PR I r (l.map λ(i,x)=>(i,a.eval x))
  | [],r,e=>by simp[VL]at e;subst e;exact .nil
  | (i,x)::l,r,e=>by
    simp only[VL]at e;split at e
    · rename_i v u;split at e
      · rename_i y A;cases e;exact .cons (ql h u) (NT h A)
      · cases e
    · cases e
def places(P:Cl):List Field->Option (List (Nat×Nat))
  | []=>δ []
  | f ::l=>match P.info? f.type with
    | some i=>match places P l with
      |some r=>δ ((f.offset,i.size)::r)
      |none=>ε
    |none=>ε
inductive All2{α β:Type} (R:α->β->Prop):List α->List β->Prop
 |nil:All2 R [] []
 |cons {x y l r} (h:R x y) (t:All2 R l r):All2 R (x::l) (y::r)
def q89{α β:Type} {P:Cl} (f:α->Sem β):∀(l:List α) (r:List β),(All2 (λx y=>∀w,(f x).run P w= .ok y w) l r)->∀w,(l.mapM f).run P w= .ok r w
  | [],r,h,w=>by cases h;simp
  | x::l,r,h,w=>by
    cases h with
    |cons u A=>simp[u w,q89 f l _ A w,γ]
def qb4{α β:Type} {P:Cl} (f:α->Sem β) (l:Array α) (r:List β) (h:All2 (λx y=>∀w,(f x).run P w= .ok y w) l.toList r) (w:World):(l.mapM f).run P w= .ok ⟨r⟩ w:=by rw[Array.mapM_eq_mapM_toList];simp[q89 f l.toList r h w,γ]
def q6p{P:Cl}:∀{l:List Field} {r},places P l=δ r->All2 (λ(x:Field) y=>∀w,((do pure (x.offset,←sizeOf x.type)):Sem (Nat×Nat)).run P w= .ok y w) l r
  | [],r,e=>by simp[places]at e;subst e;exact .nil
  | f ::l,r,e=>by
    simp only[places]at e;split at e
    · rename_i i hi;split at e
      · rename_i y h;cases e;exact .cons (λw=>by simp[run_sizeOf hi,γ]) (q6p h)
      · cases e
    · cases e
def ID(P:Cl) (t:TypeId) (parts:List (Nat×AV)):Option AV:=
  match xC P t with
  | some z=>match P.underlying t with
    | some (.struct fs)=>match places P fs.toList with
      |some pl=>match JS (λi=>nth pl i) z parts with|some x=>δ (.agg x)|none=>ε
      |none=>ε
    | some (.array _ e)=>match P.info? e with
      |some i=>match JS (λk=>δ (k*i.size,i.size)) z parts with|some x=>δ (.agg x)|none=>ε
      |none=>ε
    |_=>ε
  |none=>ε
def q9r{P:Cl} {I:In} {parts:List (Nat×AV)} {ps:Array (Nat×Value)} {r:AV} (h:ID P t parts=δ r) (hp:PR I parts ps.toList):zj P (qqi t ps) I r:=by
 unfold ID at h;split at h
 ·rename_i z U;obtain⟨B,O,T⟩:=WH U I;split at h
  ·rename_i fs J;split at h
   ·rename_i pl H;split at h
    ·rename_i x hx;cases h;obtain⟨us,C,G⟩:=Gd _ hp _ _ _ T hx;refine⟨.agg ⟨us⟩,λw=> ?_, .agg G⟩;have hm:=qb4 (P:=P) (λ(f:Field)=>(do pure (f.offset,←sizeOf f.type):Sem (Nat×Nat))) fs pl (q6p H) w;have A:(λi=>(⟨pl⟩:Array (Nat×Nat))[i]?)=(λi=>nth pl i):=(by funext i;rw[ke];simp);have u:B.cells=⟨B.cells.toList⟩:=rfl;simp only[qqi,θ,O w,γ,run_underlying J,hm,A];rw[u,C];rfl
    ·cases h
   ·cases h
  ·rename_i n e J;split at h
   ·rename_i i hi;split at h
    ·rename_i x hx;cases h;obtain⟨us,C,G⟩:=Gd _ hp _ _ _ T hx;refine⟨.agg ⟨us⟩,λw=> ?_, .agg G⟩;have u:B.cells=⟨B.cells.toList⟩:=rfl;simp only[qqi,θ,O w,γ,run_underlying J,run_sizeOf hi];rw[u,C];rfl
    ·cases h
   ·cases h
  ·cases h
 ·cases h
def OA(P:Cl) (t:TypeId) (x:AV):Option AV:=
 match P.underlying t,x with
 |some .string, .str l=>δ (.int .i64 (.ofNat l.length))
 |some (.slice _), .nsl=>δ (.int .i64 0)
 |some (.slice _), .sl _ _ n _|some (.slice _), .gsl _ _ n _=>δ (.int .i64 (.ofNat n))
 |some (.array n _),_=>δ (.int .i64 (.ofNat n))
 |some (.map ..), .nmap=>δ (.int .i64 0)
 |_,_=>ε
variable {I:In} {ts:Array TypeId} {ty:TypeId}
def qep{P:Cl} {t:TypeId} {x r:AV} {u:Value} {args:Array Value} (h:OA P t x=δ r) (hx:VR I x u) (B:ts[0]? =δ t) (A:args[0]? =δ u):zj P (Λ ts ty args) I r:=by
  unfold OA at h;split at h;all_goals (try (rename_i hd))
  all_goals first
    | (cases h;done)
    | (cases h
       cases hx;refine⟨_,λw=> ?_, .int _ _⟩;simp[Λ,B,A,run_underlying hd,γ,goInt,q0v]
       done)
    | (cases h
       refine⟨_,λw=> ?_, .int _ _⟩;simp[Λ,B,A,run_underlying hd,γ,goInt,q0v]
       done)
def Is(b:Builtin) (l:List AV):Option AV:=
 match b,l with
 | .max,[.int k x, .int _ y]=>δ (.int k (if y>x then y else x))
 | .min,[.int k x, .int _ y]=>δ (.int k (if y<x then y else x))
 |_,_=>ε
def N_(P:Cl) (b:Builtin) (ts:List TypeId) (l:List AV):Option AV:=
  match b with
  | .len=>match ts,l with
    |t::_,x::_=>OA P t x
    |_,_=>ε
  | .cap=>match ts,l with
    |t::_,[.sl _ _ _ c]=>match P.underlying t with|some (.slice _)=>δ (.int .i64 (.ofNat c))|_=>ε
    |t::_,[.nsl]=>match P.underlying t with|some (.slice _)=>δ (.int .i64 0)|_=>ε
    |_,_=>ε
  | .max| .min=>Is b l
  | .unsafeSliceData=>match l with
    | [.nsl]=>δ .nilp
    | [.sl id off _ c]=>if c=0 then ε else δ (.ptr id off)
    | [.gsl id off n _]=>if n=0 then ε else δ (.ptr id off)
    |_=>ε
  |_=>ε
def usd{P:Cl} (ts:List TypeId) (ty:TypeId) (a:Addr) (n c:Nat) (w:World) (h:¬c=0):(Builtin.unsafeSliceData_ ⟨ts⟩ ty ⟨[.slice (δ a) n c]⟩).run P w= .ok (.pointer (δ a)) w:=by show ξ P (if c≠0 then(pure (Value.pointer (δ a)):Sem Value)else _) w=_;rw[if_pos h];rfl
variable {vs:List Value}
def uG{a:AV} (h:VRs I [a] vs):∃v,vs=[v]/\VR I a v:=by cases h with|cons h t=>cases t;exact⟨_,rfl,h⟩
def q77{P:Cl} {b:Builtin} {l:List AV} {r:AV} {cs:Array Bool} (h:N_ P b ts.toList l=δ r) (A:VRs I l vs):GN P (builtin b ts ty cs ⟨vs⟩) I r:=by
  obtain⟨ts⟩:=ts;unfold N_ at h;split at h
  · split at h
    · rename_i t _ x _ e1;simp only at e1;subst e1;cases A with
      |cons B C=>exact(qep h B (by simp) (by simp)).next
    · cases h
  · split at h
    · rename_i t _ id off n c e1;simp only at e1;subst e1;split at h
      · rename_i e he;cases h;obtain⟨v,rfl,u⟩:=uG A;cases u;exact zj.next ⟨_,λw=>by simp[qq2,run_underlying he,γ,goInt], .int _ _⟩
      · cases h
    · rename_i t _ e1;simp only at e1;subst e1;split at h
      · rename_i e he;cases h;obtain⟨v,rfl,u⟩:=uG A;cases u;exact zj.next ⟨_,λw=>by simp[qq2,run_underlying he,γ,goInt], .int _ _⟩
      · cases h
    · cases h
  · unfold Is at h;split at h
    · rename_i k x T y heq;cases h;cases A with|cons B C=>obtain⟨v,rfl,u⟩:=uG C;cases B;cases u;exact zj.next ⟨_,λw=>by simp[Builtin.max_,Builtin.max2], .int _ _⟩
    · cases ‹qq6=qq7›
    · cases h
  · unfold Is at h;split at h
    · cases ‹qq7=qq6›
    · cases h;cases A with|cons B C=>obtain⟨v,rfl,u⟩:=uG C;cases B;cases u;exact zj.next ⟨_,λw=>by simp[Builtin.min_,Builtin.min2], .int _ _⟩
    · cases h
  · split at h
    · cases h;obtain⟨v,rfl,u⟩:=uG A;cases u;exact zj.next ⟨_,λw=>rfl, .nilp⟩
    · split at h
      · cases h
      · rename_i H;cases h;obtain⟨v,rfl,u⟩:=uG A;cases u with
        |sl G=>exact zj.next ⟨_,λw=>usd ts ty _ _ _ w H, .ptr G⟩
    · split at h
      · cases h
      · rename_i H;cases h;obtain⟨v,rfl,u⟩:=uG A;cases u with
        | @gsl _ _ _ _ _ ss U c o G g1 g2 g3=>
          have J:¬c=0:=(by omega);have O:o=ss+_:=g3.resolve_right J;exact zj.next ⟨_,λw=>usd ts ty _ _ _ w J, .ptr' G O⟩
    · cases h
  · cases h
def Y9(t:T AV):Option Operand->Option (Option AV)
  |none=>δ ε
  | some x=>match ev t x with
    |some a=>δ (δ a)
    |none=>ε
variable {t:T AV}
def qdz{a:Act} (h:TR I t a.tmps) {x:Option Operand} {v} (e:Y9 t x=δ v):VO I v (x.map a.eval):=by
  cases x with
  |none=>simp[Y9]at e;subst e;exact .none
  | some x=>
    simp only[Y9]at e;split at e
    · rename_i y u;cases e;exact .some (ql h u)
    · cases e
def OC(P:Cl) (h:TypeId) (a:AV):Option AV:=
 match P.underlying h with
 |some (.interface _)=>ε
 |some _=>δ (.ifc h a)
 |none=>ε
def qer{P:Cl} {u:TypeId} {a r:AV} {v:Value} (h:OC P u a=δ r) (B:VR I a v):zj P (qqn u v) I r:=by
 unfold OC at h;split at h
 ·cases h
 ·rename_i d A hd;cases h;refine⟨.iface u v,λw=> ?_, .ifc B⟩;unfold qqn;simp only[θ,run_underlying hd,γ];cases d with
  |interface ms=>exact(A ms rfl).elim
  |_=>rfl
 ·cases h
def j5(P:Cl) (t:T AV) (o:Oper):Option AV:=
  match o.op with
  | .move x| .assign x=>ev t x
  | .pick c a b=>match ev t c with
    |some (.bool ς)=>ev t a
    |some (.bool μ)=>ev t b
    |_=>ε
  | .build ty parts=>match VL t parts.toList with
    |some ps=>ID P ty ps
    |none=>ε
  | .nilCheck x=>match ev t x with
    |some (.ptr i f)=>δ (.ptr i f)
    |some (.fn f c)=>δ (.fn f c)
    |some (.ifc f c)=>δ (.ifc f c)
    |some (.bfn f b c)=>δ (.bfn f b c)
    |_=>ε
  | .binOp op A x y _=>match ev t x,ev t y with
    |some a,δ b=>I9 P op A y a b
    |_,_=>ε
  | .unOp op _ x=>match ev t x with
    |some a=>R9 P op a
    |none=>ε
  | .convert s d x=>match ev t x with
    |some a=>I_ P s d a
    |none=>ε
  | .makeInterface A x=>match ev t x with
    |some a=>OC P A a
    |none=>ε
  | .makeFunc fn first u=>amk t fn first.toList u.toList
  | .slice ty x lo hi B=>match B,ev t x,Y9 t lo,Y9 t hi with
    |none,δ a,δ l,δ h=>IJ P ty a l h
    |_,_,_,_=>ε
  | .fieldAddr s x f=>match ev t x with
    |some a=>IF P s a f
    |none=>ε
  | .field A x f=>match ev t x with
    |some a=>Oz P A a f
    |none=>ε
  | .indexAddr ty x i=>match ev t x,ev t i with
    |some a,δ b=>NK P ty a b
    |_,_=>ε
  | .index ty x i=>match ev t x,ev t i with
    |some a,δ b=>II P ty a b
    |_,_=>ε
  | .extract x i=>match ev t x with
    |some a=>Oy a i
    |none=>ε
  | .call c=>match c.callee with
    | .builtin b=>match kJ t c.args.toList with
      |some l=>N_ P b c.argTypes.toList l
      |none=>ε
    |_=>ε
  |_=>ε
def qhx{P:Cl} {a:Act} {o:Oper} {r:AV} (h:j5 P t o=δ r) (A:TR I t a.tmps):GN P (execOp a.eval o) I r:=by
  obtain⟨dst,op,ty,pos,after,guard⟩:=o;cases op with
  |move x=>exact⟨_,λw=>rfl,ql A h⟩
  |assign x=>exact⟨_,λw=>rfl,ql A h⟩
  | pick c x y=>
    simp only[j5]at h;split at h
    · rename_i V;have u:=ql A V;generalize O:a.eval c=cv at u;cases u;exact⟨_,λw=>by simp[execOp,O,asBool,γ],ql A h⟩
    · rename_i V;have u:=ql A V;generalize O:a.eval c=cv at u;cases u;exact⟨_,λw=>by simp[execOp,O,asBool,γ],ql A h⟩
    · cases h
  | build bt parts=>
    simp only[j5]at h;split at h
    · rename_i ps Y;have u:=NT A Y;exact(q9r (ps:=parts.map λ(i,x)=>(i,a.eval x)) h (by simpa using u)).next
    · cases h
  | nilCheck x=>
    simp only[j5]at h;split at h
    · rename_i hx;cases h;have u:=ql A hx;generalize T:a.eval x=v at u;cases u with
      |ptr J=>exact⟨_,λw=>by simp[execOp,T], .ptr J⟩
    · rename_i hx;cases h;have u:=ql A hx;generalize T:a.eval x=v at u;cases u with
      |fn J=>exact⟨_,λw=>by simp[execOp,T], .fn J⟩
    · rename_i hx;cases h;have u:=ql A hx;generalize T:a.eval x=v at u;cases u with
      |ifc J=>exact⟨_,λw=>by simp[execOp,T], .ifc J⟩
    · rename_i hx;cases h;have u:=ql A hx;generalize T:a.eval x=v at u;cases u with
      |bfn J hJ=>exact⟨_,λw=>by simp[execOp,T], .bfn J hJ⟩
    · cases h
  | binOp op Z x y yt=>
    simp only[j5]at h;split at h
    · rename_i u C;exact(qcb h (ql A u) (ql A C)).next
    · cases h
  | unOp op Z x=>
    simp only[j5]at h;split at h
    · rename_i u;exact(qgv h (ql A u)).next
    · cases h
  | convert s d x=>
    simp only[j5]at h;split at h
    · rename_i u;exact(qcc h (ql A u)).next
    · cases h
  | makeInterface Z x=>
    simp only[j5]at h;split at h
    · rename_i u;exact(qer h (ql A u)).next
    · cases h
  | makeFunc fn first B=>
    simp only[j5,amk]at h;split at h
    · rename_i f X;split at h
      · rename_i l U;cases h;have G:first= #[]:=by apply Array.toList_inj.1;simpa using X
        subst G;have hr:=vI A U;have e:(⟨B.toList.map a.eval⟩:Array Value)=B.map a.eval:=(by apply Array.toList_inj.1;simp);have H:=VR.fn (f:=f) hr;rw[e]at H;exact⟨_,λw=>by simp[execOp,qq3],H⟩
      · cases h
    · rename_i f x xs X;split at h
      · rename_i a1 l ha U;cases h;have hr:=vI A U;have hq:=vI A ha;have e:(⟨B.toList.map a.eval⟩:Array Value)=B.map a.eval:=(by apply Array.toList_inj.1;simp);have e2:(⟨(x::xs).map a.eval⟩:Array Value)=first.map a.eval:=(by rw[←X];apply Array.toList_inj.1;simp);have H:=VR.bfn (f:=f) hq hr;rw[e,e2]at H;exact⟨_,λw=>by simp[execOp,qq3],H⟩
      · cases h
    · cases h
  | slice st x lo hi mx=>
    simp only[j5]at h;split at h
    · rename_i u C H;exact(qa6 h (ql A u) (qdz A C) (qdz A H)).next
    · cases h
  | fieldAddr s x f=>
    simp only[j5]at h;split at h
    · rename_i u;exact(q9y h (ql A u)).next
    · cases h
  | field s x f=>
    simp only[j5]at h;split at h
    · rename_i u;exact(qeo h (ql A u)).next
    · cases h
  | indexAddr st x i=>
    simp only[j5]at h;split at h
    · rename_i u C;exact(q5k h (ql A u) (ql A C)).next
    · cases h
  | index st x i=>
    simp only[j5]at h;split at h
    · rename_i u C;exact(qa1 h (ql A u) (ql A C)).next
    · cases h
  | extract x i=>
    simp only[j5]at h;split at h
    · rename_i u;exact(qen h (ql A u)).next
    · cases h
  | call c=>
    simp only[j5]at h;split at h
    · rename_i b hb;split at h
      · rename_i l U;obtain⟨v,u,C⟩:=q77 (ty:=ty) (cs:=c.args.map λ| .const _=>ς|_=>μ) h (vI A U);refine⟨v,λw=> ?_,C⟩;have e:(⟨c.args.toList.map a.eval⟩:Array Value)=c.args.map a.eval:=(by apply Array.toList_inj.1;simp);rw[e]at u;simp only[execOp,resolve,hb,θ,η,γ,invoke];exact u w
      · cases h
    · cases h
  |_=>simp[j5]at h
def Zv(h:T AO) (id off n:Nat):Option (List AV):=
 match h.get id with
 |some (.cells _ _ _ l)=>takeN l off n
 |_=>ε
variable {F:Bool->Nat->Prop} {h:T AO} {w:World}
def qet{I:In} (hs:Sim F I h w) {id off n b s t:Nat} {l:List AV} (e:Zv h id off n=δ l) (hi:I id=δ (b,s,t)):
    ∃u:List Value,VRs I l u/\u.length=n/\(∀(j:Nat) v,u[j]? =δ v->w.cell? ⟨b,s+off+j,ε⟩=δ v)/\∃c e fr,w.heap[b]? =δ (.cells c e fr)/\(∀(j:Nat) v,u[j]? =δ v->c[s+off+j]? =δ v):=by
  unfold Zv at e;split at e
  · rename_i el fz g Z H;obtain⟨ob,B,T⟩:=hs.obj _ _ _ _ H hi;cases T with
    | @cells _ _ _ _ _ pre vs rest fr U J hp Y X V=>
      obtain⟨u,C,G,A⟩:=q8l (rest:=rest) U hp e;exact⟨u,C,G,λj v O=>by rw[cell_of B];exact A j v O,_,_,_,B,A⟩
  · cases e
def IE(P:Cl) (h:T AO) (s d:TypeId) (x:AV):Option AV:=ε
def q9t{P:Cl} {I:In} (hs:Sim F I h w) {s d:TypeId} {x r:AV} {u:Value} (e:IE P h s d x=δ r) (hx:VR I x u):
  ∃v,(convert s d u).run P w= .ok v w/\VR I r v:=by unfold IE at e;cases e
abbrev qk0:=Value×AV×Nat
def OB(h:T AO) (id:Nat):Option (List qk0×Nat):=
 match h.get id with
 |some (.map es c)=>δ (es,c)
 |_=>ε
variable {F:Bool->Nat->Prop} {I:In} {h:T AO} {w:World}
def qeq{P:Cl} (hs:Sim F I h w) {id b:Nat} {t:Nat×Nat} {es:List qk0} {c:Nat} (e:OB h id=δ (es,c)) (hi:I id=δ (b,t)):
  ∃ms,MR I es ms/\w.heap[b]? =δ (.map ⟨ms⟩ c)/\(getObj b).run P w= .ok (.map ⟨ms⟩ c) w/\h.get id=δ (.map es c):=by
 unfold OB at e;split at e
 ·rename_i B G A;cases e;obtain⟨ob,u,C⟩:=hs.obj _ _ _ _ A hi;cases C with
  | @map _ ms _ hm=>exact⟨ms,hm,u,by simp[getObj,ξ,u],A⟩
 ·cases e
def MR.len{es ms} (h:MR I es ms):es.length=ms.length:=by
 induction h with
 |nil=>rfl
 |cons _ _ u=>simp[u]
def Ir(P:Cl) (h:T AO) (t:TypeId) (x k:AV) (ok:Bool):Option AV:=ε
def q8s{P:Cl} (hs:Sim F I h w) {t:TypeId} {x k r:AV} {ok:Bool} {u v:Value} (e:Ir P h t x k ok=δ r) (hx:VR I x u) (A:VR I k v):
  ∃z,(Instr.lookup t u v ok).run P w= .ok z w/\VR I r z:=by unfold Ir at e;cases e
def Oc(P:Cl) (h:T AO) (s d:TypeId) (x:AV):Option AV:=ε
variable {F:Bool->Nat->Prop} {I:In} {h:T AO} {w:World}
def qcf{P:Cl} (hs:Sim F I h w) {s d:TypeId} {x r:AV} {u:Value} (e:Oc P h s d x=δ r) (hx:VR I x u):
  ∃v,(convert s d u).run P w= .ok v w/\VR I r v:=by unfold Oc at e;cases e
def xL (P:Cl) (t:T AV) (h:T AO) (o:Oper):Option AV:=
  match o.op with
  | .load ty x=>match ev t x with
    |some (.ptr id off)=>GO P h ty id off
    |_=>ε
  | .convert s d x=>match ev t x with
    | some a=>match IE P h s d a with
      |some r=>δ r
      |none=>Oc P h s d a
    |none=>ε
  | .lookup ty x k ok=>match ev t x,ev t k with
    |some a,δ b=>Ir P h ty a b ok
    |_,_=>ε
  | .call c=>match c.callee with
    | .builtin .len=>match kJ t c.args.toList,c.argTypes.toList with
      | some [.map id],ty::_=>match P.underlying ty with
        | some (.map ..)=>match OB h id with
          |some (es,_)=>δ (.int .i64 (.ofNat es.length))
          |none=>ε
        |_=>ε
      |_,_=>ε
    |_=>ε
  |_=>ε
variable {t:T AV} {o:Oper}
def qed {P :Cl} {a:Act} {r:AV} (e:xL P t h o=δ r) (A:TR I t a.tmps) (hs:Sim F I h w):
    ∃v,(execOp a.eval o).run P w= .ok (.value v) w/\VR I r v:=by
  obtain⟨dst,op,ty,pos,after,guard⟩:=o;have lift:∀{s:Sem Value} {v:Value},s.run P w= .ok v w->(do pure (.value (←s)):Sem Next).run P w= .ok (.value v) w:=λhs=>by simp[hs,γ]
  cases op with
  | load lt x=>
    simp only[xL]at e;split at e
    · rename_i id off hx;have B:=ql A hx;generalize J:a.eval x=v at B;cases B with
      | ptr C=>
        obtain⟨z,g1,g2⟩:=q7x hs e C;refine⟨z,?_,g2⟩;simp only[execOp,Instr.loadAt,J];exact lift (by simp[φ,g1,γ])
    · cases e
  | convert s d x=>
    simp only[xL]at e;split at e
    · rename_i hx;split at e
      · rename_i r' G;cases e;obtain⟨z,g1,g2⟩:=q9t hs G (ql A hx);exact⟨z,lift g1,g2⟩
      · obtain⟨z,g1,g2⟩:=qcf hs e (ql A hx);exact⟨z,lift g1,g2⟩
    · cases e
  | lookup lt x k ok=>
    simp only[xL]at e;split at e
    · rename_i hx U;obtain⟨z,g1,g2⟩:=q8s hs e (ql A hx) (ql A U);exact⟨z,lift g1,g2⟩
    · cases e
  | call c=>
    simp only[xL]at e;split at e
    · rename_i G;split at e
      · rename_i id t0 tr u H;split at e
        · rename_i kt Y hu;split at e
          · rename_i es cl hm;cases e;have B:=vI A u;obtain⟨v,J,O⟩:=uG B;cases O with
            | @map _ T tt C=>
              obtain⟨ms,V,Z,X,k4⟩:=qeq (P:=P) hs hm C;refine⟨_,?_, .int _ _⟩;have e2:c.args.map a.eval=⟨[Value.map (δ T)]⟩:=(by apply Array.toList_inj.1;simpa using J);have e3:c.argTypes=⟨t0::tr⟩:=(by apply Array.toList_inj.1;exact H);simp only[execOp,resolve,G,θ,η,γ,invoke,builtin];rw[e2,e3];simp[Λ,run_underlying hu,X,γ,goInt,V.len]
          · cases e
        · cases e
      · cases e
    · cases e
  |_=>simp[xL]at e
def J0(z:List AV):Nat->List AV
 |0=>[]
 |n+1=>z++J0 z n
def uu (P:Cl) (t:T AV) (nx:Nat) (o:Oper):Option (AV×AO):=
  match o.op with
  | .alloc e=>match xC P e with
    |some z=>δ (.ptr nx 0, .cells e (δ 0) μ z)
    |none=>ε
  | .box e x=>match ev t x with
    |some a=>δ (.ptr nx 0, .cells e (δ 0) μ (JM a))
    |none=>ε
  | .makeMap _ ε=>δ (.map nx, .map [] 0)
  | .makeMap ty (δ x)=>match P.underlying ty,ev t x with
    |some (.map ..),δ (.int _ _)=>δ (.map nx, .map [] 0)
    |_,_=>ε
  | .buildSlice ty n parts=>match P.underlying ty with
    | some (.slice e)=>match P.info? e with
      | some i=>if n*i.size>2 ^ 24 then ε else
        match(if n*i.size=0 then δ []else xC P e),VL t parts.toList with
        |some z,δ ps=>if z.length=i.size\/n*i.size=0 then
            (match JS (λk=>δ (k*i.size,i.size)) (if n*i.size=0 then []else J0 z n) ps with
            |some l=>δ (.sl nx 0 n n, .cells e (δ 0) μ l)
            |none=>ε)else ε
        |_,_=>ε
      |none=>ε
    |_=>ε
  | .makeSlice ty x y=>match P.underlying ty,ev t x,ev t y with
    | some (.slice e),δ (.int .i64 (.ofNat n)),δ (.int .i64 (.ofNat c))=>match P.info? e with
      | some i=>if n<=c/\i.bytes*c<=2 ^ 47/\c<2 ^ 47 then
        (match(if c*i.size=0 then δ []else xC P e)with
        |some z=>if z.length=i.size\/c*i.size=0 then δ (.sl nx 0 n c, .cells e (δ 0) μ (if c*i.size=0 then []else J0 z c))else ε
        |none=>ε)else ε
      |none=>ε
    |_,_,_=>ε
  | .convert s d x=>match P.underlying s,P.underlying d,ev t x with
    | some .string,δ (.slice e),δ (.str l)=>match P.underlying e with
      |some (.int .u8)=>δ (.gsl nx 0 l.length 1, .cells e (δ 0) ς (l.map λb=> .int .u8 (.ofNat (b % 256))))
      |_=>ε
    |_,_,_=>ε
  |_=>ε
def jG(z:List Value):Nat->List Value
 |0=>[]
 |n+1=>z++jG z n
def Ip{I:In} {z:List AV} {u:List Value} (h:VRs I z u):∀n,VRs I (J0 z n) (jG u n)
 |0=> .nil
 |n+1=>VRs.append h (Ip h n)
def q6r(z:Array Value):∀n,(List.range (n*z.size)).map (λi=>z[i % z.size]!)=jG z.toList n
  |0=>by simp[jG]
  | n + 1=>by
    rw[Nat.succ_mul,Nat.add_comm,List.range_add,List.map_append,jG];congr 1
    · apply List.ext_getElem?;intro i;rw[List.getElem?_map];by_cases hi:i<z.size
      · rw[List.getElem?_range hi];simp[Nat.mod_eq_of_lt hi,hi]
      · rw[qqf (by simpa using hi)];simp;omega
    · rw[←q6r z n,qza];apply qqp;intro i _;simp
def NQ(z:Array Value) (n:Nat):(qqj (n*z.size)).map (λi=>z[i % z.size]!)=(⟨jG z.toList n⟩:Array Value):=by apply Array.toList_inj.1;rw[Array.toList_map,Array.toList_range,q6r]
def WZ(P:Cl) (I:In) (s:Sem Next) (nx:Nat) (v:AV) (ob:AO):Prop:=
 ∀w,∃z obj h A,s.run P w= .ok (.value z) A/\A.heap=w.heap.push obj/\Same w A/\∀u:In,I.le u->u nx=δ (w.heap.size,h)->VR u v z/\OR u h ob obj
variable {nx:Nat}
def F_{P:Cl} {e:TypeId} {l:List AV} {vs:List Value} (h:VRs I l vs) {s:Sem Value} {v:AV} {f:Addr->Value} (hs:∀w,s.run P w= .ok (f ⟨w.heap.size,0,ε⟩) (w.alloc (.cells ⟨vs⟩ e)))
  (C:∀(u:In) b,u nx=δ (b,0,vs.length)->VR u v (f ⟨b,0,ε⟩)):WZ P I (do pure (.value (←s))) nx v (.cells e (δ 0) μ l):=λw=>by refine⟨_, .cells ⟨vs⟩ e,(0,vs.length),w.alloc (.cells ⟨vs⟩ e),by simp[hs w,γ],rfl,⟨rfl,rfl,rfl⟩,λu B A=>⟨C u _ A,?_⟩⟩;have:=OR.cells (I:=u) (t:=(0,vs.length)) (elem:=e) (fz:=δ 0) (g:=μ) (l:=l) (pre:=[]) (vs:=vs) (rest:=[]) (fr:=(0,0)) (VRs.mono B h) (λ_=>⟨rfl,rfl⟩) rfl (by simp) (λ_ _ o _ _=>by simp) (.inl rfl);simpa using this
def grownCap_ge(w:World) (n m:Nat) (e:TypeId):n<=grownCap w n m e:=by unfold grownCap Question.cut;exact Nat.le_add_right _ _
def q6c(I:In):∀l:List Nat,VRs I (l.map λb=>AV.int .u8 (.ofNat (b % 256))) (l.map λb=>Value.int .u8 ((ζ b).toNat:Int))
 | []=> .nil
 | b ::l=> .cons (by show VR I (.int .u8 (.ofNat (b % 256))) (.int .u8 ((ζ b).toNat:Int));rw[π];exact .int _ _) (q6c I l)
def q1s(w:World) (e:TypeId) (s:Ck):(Lib.bytesWorld w e s).heap=w.heap.push (.cells (Lib.bytesCells w e s) e ((Lib.bytesCells w e s).size,(Lib.bytesCells w e s).size+1)):=by
 apply Array.ext_getElem?;intro i;rw[qqm];by_cases h:i=w.heap.size
 ·subst h;rw[if_pos rfl,Lib.bytesWorld_at_new]
 ·rw[if_neg h];by_cases u:i<w.heap.size
  ·exact Lib.bytesWorld_at_old w e s i u
  ·rw[qqc (by rw[Lib.bytesWorld_size];omega),qqc (by omega)]
def qdt {P : Cl} {a:Act} {v:AV} {ob:AO} (e:uu P t nx o=δ (v,ob)) (ht:TR I t a.tmps):WZ P I (execOp a.eval o) nx v ob:=by
  obtain⟨dst,op,ty,pos,after,guard⟩:=o;cases op with
  | alloc el=>
    simp only[uu]at e;split at e
    · rename_i z T;cases e;obtain⟨A,J,O⟩:=WH T I;exact F_ (f:=λX=> .pointer (δ X)) O (λw=>by simp[Instr.alloc,J w,γ,newVar,newRow,newObj,ξ]) (λV b G=> .ptr' G rfl)
    · cases e
  | box el x=>
    simp only[uu]at e;split at e
    · rename_i z T;cases e;exact F_ (f:=λX=> .pointer (δ X)) (F7 (ql ht T)) (λw=>by simp[Instr.box,γ,newVar,newRow,newObj,ξ]) (λV b G=> .ptr' G rfl)
    · cases e
  | makeMap mt r=>
    cases r with
    | none=>
      simp only[uu]at e;cases e;intro w;refine⟨.map (δ w.heap.size), .map #[] 0,(0,0),w.alloc (.map #[] 0),by simp[execOp,qq8,newObj,ξ,γ],rfl,⟨rfl,rfl,rfl⟩,λV hl G=>⟨.map G, .map .nil⟩⟩
    | some x=>
      simp only[uu]at e;split at e
      · rename_i kt et k n hu hx;cases e;have J:=ql ht hx;generalize hv:a.eval x=xv at J;cases J;intro w;refine⟨.map (δ w.heap.size), .map #[] 0,(0,0),w.alloc (.map #[] 0),by simp[execOp,qq8,newObj,ξ,γ,hv,run_underlying hu,asInt,asIntOf],rfl,⟨rfl,rfl,rfl⟩,λV hl G=>⟨.map G, .map .nil⟩⟩
      · cases e
  | buildSlice st n parts=>
    simp only[uu]at e;split at e
    · rename_i el hu;split at e
      · rename_i i hi;split at e
        · cases e
        · rename_i hbig;split at e
          · rename_i z ps T hps;split at e
            · rename_i hzl;split at e
              · rename_i l hl;cases e;have hpr:=NT ht hps;have key:∀(U:List Value) (m:Array Value),VRs I (if n*i.size=0 then []else J0 z n) U->(n*i.size=0/\m= #[]\/¬n*i.size=0/\∃A,(∀w,(zeroValue el).run P w= .ok A w)/\m=A.cells)->((qqj (n*i.size)).map (λk=>m[k % m.size]!))=⟨U⟩->WZ P I (do pure (.value (←qqy st n (parts.map λ(i,x)=>(i,a.eval x))))) nx (.sl nx 0 n n) (.cells el (δ 0) μ l):=λU m hr u B=>by
                  obtain⟨us,h3,h4⟩:=Gd (λk=>δ (k*i.size,i.size)) hpr _ _ _ hr hl;refine F_ (f:=λX=> .slice (δ X) n n) h4 (λw=> ?_) (λV b G=> .sl' G rfl);have h5:qqr (λi_1=>δ (i_1*i.size,i.size)) ⟨U⟩ (parts.map λ(i,x)=>(i,a.eval x)).toList=δ ⟨us⟩:=(by simpa using h3);simp only[qqy,θ,run_underlying hu,γ,run_sizeOf hi,if_neg hbig];rcases u with⟨g0,rfl⟩|⟨g0,A,g1,rfl⟩
                  · simp only[if_pos g0,θ,η,γ,B];rw[h5];simp[newRow,newObj,ξ,γ]
                  · simp only[if_neg g0,θ,η,γ,g1 w,B];rw[h5];simp[newRow,newObj,ξ,γ]
                by_cases C:n*i.size=0
                · refine key [] #[] (by rw[if_pos C];exact .nil) (.inl ⟨C,rfl⟩) (by rw[C];simp)
                · rw[if_neg C]at T;obtain⟨A,J,O⟩:=WH T I;have Z:A.cells.size=i.size:=by
                    rw[←Ε,←O.len];rcases hzl with h|h
                    · exact h
                    · exact absurd h C
                  refine key (jG A.cells.toList n) A.cells (by rw[if_neg C];exact Ip O n) (.inr ⟨C,A,J,rfl⟩) (by rw[←Z];exact NQ A.cells n)
              · cases e
            · cases e
          · cases e
      · cases e
    · cases e
  | makeSlice st x y=>
    simp only[uu]at e;split at e
    · rename_i el n c hu hx hy;split at e
      · rename_i i hi;split at e
        · rename_i hb;obtain⟨hnc,hbc,hc⟩:=hb;split at e
          · rename_i z T;split at e
            · rename_i hzl;cases e;have H:=ql ht hx;generalize hxv:a.eval x=xv at H;have hy1:=ql ht hy;generalize hyv:a.eval y=yv at hy1;cases H;cases hy1;have wn:IntKind.i64.wrap (qqd n)=n:=(by simp[χ,τ,ρ];omega);have wc:IntKind.i64.wrap (qqd c)=c:=(by simp[χ,τ,ρ];omega);have key:∀(U:List Value) (m:Array Value),VRs I (if c*i.size=0 then []else J0 z c) U->(c*i.size=0/\m= #[]\/¬c*i.size=0/\∃A,(∀w,(zeroValue el).run P w= .ok A w)/\m=A.cells)->((qqj (c*i.size)).map (λk=>m[k % m.size]!))=⟨U⟩->WZ P I (do pure (.value (←qq1 st (.int .i64 (.ofNat n)) (.int .i64 (.ofNat c))))) nx (.sl nx 0 n c) (.cells el (δ 0) μ (if c*i.size=0 then []else J0 z c)):=λU m hr u B=>by
                refine F_ (f:=λX=> .slice (δ X) n c) hr (λw=> ?_) (λV b G=> .sl' G rfl);have hti:(typeInfo el).run P w= .ok i w:=(by simp[typeInfo,program,ξ,hi,bind,ω,pure]);have b1:((i.bytes*c:Nat):Int)<=2 ^ 47:=(by exact_mod_cast hbc);have b2:((i.bytes:Int)*(c:Int))<=2 ^ 47:=(by rw[←Int.natCast_mul];exact b1);have t1:((decide ((c:Int)<0))||decide ((i.bytes:Int)*(c:Int)>2 ^ 48))=false:=(by simp only[qqo,decide_eq_false_iff_not];omega);have t2:¬(c*i.bytes>roomBytes):=Nat.not_lt.2 (by rw[qzd];exact hbc);simp only[qq1,asInt,asIntOf,θ,run_underlying hu,η,γ,hti,wn,wc];have t0:(decide ((c:Int)<0)||decide ((i.bytes:Int)*(c:Int)>2 ^ 48)||decide ((n:Int)<0)||decide ((n:Int)>(c:Int)))=false:=(by rw[t1];simp only[Bool.false_or,qqo,decide_eq_false_iff_not];exact⟨by omega,by omega⟩);rw[t0];simp only[Bool.false_eq_true,if_false,θ,askRoom,Int.toNat_natCast,if_neg t2,η,γ,run_sizeOf hi];rcases u with⟨g0,rfl⟩|⟨g0,A,g1,rfl⟩
                · simp only[if_pos g0,θ,η,γ,B];simp[newRow,newObj,ξ,γ]
                · simp only[if_neg g0,θ,η,γ,g1 w,B];simp[newRow,newObj,ξ,γ]
              simp only[execOp,hxv,hyv];by_cases C:c*i.size=0
              · refine key [] #[] (by rw[if_pos C];exact .nil) (.inl ⟨C,rfl⟩) (by rw[C];simp)
              · rw[if_neg C]at T;obtain⟨A,J,O⟩:=WH T I;have Z:A.cells.size=i.size:=by
                  rw[←Ε,←O.len];rcases hzl with h|h
                  · exact h
                  · exact absurd h C
                refine key (jG A.cells.toList c) A.cells (by rw[if_neg C];exact Ip O c) (.inr ⟨C,A,J,rfl⟩) (by rw[←Z];exact NQ A.cells c)
            · cases e
          · cases e
        · cases e
      · cases e
    · cases e
  | convert s d x=>
    simp only[uu]at e;split at e
    · rename_i el l hs hd hx;split at e
      · rename_i he;cases e;have H:=ql ht hx;generalize hxv:a.eval x=xv at H;cases H;simp only[execOp,hxv];intro w;have u:=Lib.run_convert_string_bytes (P:=P) w s d el (mkS l) hs hd he;rw[q0v]at u;have Y:=q1s w el (mkS l);refine⟨_,_,(0,(Lib.bytesCells w el (mkS l)).size),_,by simp[u,γ];rfl,Y,⟨rfl,rfl,rfl⟩,λV hl G=>⟨.gsl G ?_ ?_ (.inl rfl),?_⟩⟩
        · exact grownCap_ge w l.length 0 el
        · have:(Lib.bytesCells w el (mkS l)).size=l.length+(grownCap w l.length 0 el- l.length):=(by simp only[Lib.bytesCells,q0v];simp[mkS]);have:=grownCap_ge w l.length 0 el;omega
        · have hr:=q6c V l;have hc:Lib.bytesCells w el (mkS l)=⟨(l.map λb=>Value.int .u8 ((ζ b).toNat:Int))++List.replicate (grownCap w l.length 0 el- l.length) (.int .u8 0)⟩:=(by apply Array.toList_inj.1;simp only[Lib.bytesCells,q0v];simp[mkS]);rw[hc];exact .cells (pre:=[]) hr (λh=>by cases h) rfl rfl (λ_ _ o J O=>by simp at O⊢;omega) (.inl rfl)
      · cases e
    · cases e
  |_=>simp[uu]at e
end
end Go.Proofs.YtniogjgfomaicaaGreat.Eng
