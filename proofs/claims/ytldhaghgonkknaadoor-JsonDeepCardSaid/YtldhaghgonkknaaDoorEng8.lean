/-
  The same, with the joined table laid out at once. No condition but what its last theorem asks.
-/
import Derived.Test.YtldhaghgonkknaaDoorEng7
namespace Go.Proofs.YtldhaghgonkknaaDoor.Old
open Go.RowKit
set_option linter.unusedVariables false
set_option linter.unusedSimpArgs false
variable {gl : T AV}
noncomputable def overO:T AO->T AO->Option (T AO)
  |h, .e=>some h
  | .e, .n l v r=>some (.n l v r)
  | .n l v r, .n l' v' r'=>match overO l l' with
    | some a=>match overO r r' with
      | some b=>match v' with
        |some x=>some (.n a (some x) b)
        |none=>some (.n a v b)
      |none=>none
    |none=>none
theorem overO_ok:∀{a b c:T AO},overO a b=some c->c=overT a b
  | a, .e,c,e=>by
    cases a<;>(simp only[overO]at e;cases e;rfl)
  | .e, .n l v r,c,e=>by simp only[overO]at e;cases e;rfl
  | .n l v r, .n l' v' r',c,e=>by
    simp only[overO]at e
    split at e
    · rename_i a ha
      split at e
      · rename_i b hb
        have h1:=overO_ok ha
        have h2:=overO_ok hb
        cases v' with
        |none=>cases e;simp only[overT];rw[h1,h2]
        |some x=>cases e;simp only[overT];rw[h1,h2]
      · cases e
    · cases e
noncomputable def belowF:T AO->Nat->Nat->Nat->Bool:= @T.rec AO (λ_=>Nat->Nat->Nat->Bool) (λ_ _ _=>true) (λ_ v _ pl pr m b nx=>
  @Bool.rec (λ_=>Bool) false (@Bool.rec (λ_=>Bool) false (pr (Nat.mul 2 m) (Nat.add (Nat.mul 2 m) b) nx) (pl (Nat.mul 2 m) (Nat.add m b) nx)) (@Option.rec AO (λ_=>Bool) true (λ_=>Nat.blt b nx) v))
theorem rec_and(x y:Bool): @Bool.rec (λ_=>Bool) false y x=(x&&y):=by cases x<;>rfl
theorem belowF_eq:∀(t:T AO) (m b nx:Nat),belowF t m b nx=belowT t m b nx
  | .e,m,b,nx=>rfl
  | .n l v r,m,b,nx=>by
    have h1:=belowF_eq l (2*m) (m+b) nx
    have h2:=belowF_eq r (2*m) (2*m+b) nx
    show @Bool.rec (λ_=>Bool) false (@Bool.rec (λ_=>Bool) false (belowF r (2*m) (2*m+b) nx) (belowF l (2*m) (m+b) nx)) (@Option.rec AO (λ_=>Bool) true (λ_=>Nat.blt b nx) v)=_
    rw[rec_and,rec_and,h1,h2]
    simp only[belowT]
    cases v<;>simp[Bool.and_assoc]
noncomputable def meetsF (m:Memo) (f:Nat) (args:List AV) (h:T AO) (nx:Nat):Bool:=
  @Bool.rec (λ_=>Bool) false (@Bool.rec (λ_=>Bool) false (smAVs args m.args&&(subT m.hin h&&(belowF h 1 0 nx&&goodT m.hin m.hout 1 0 nx))) (Nat.beq f m.f)) (Nat.beq nx m.nx)
theorem meetsF_eq(m:Memo) (f:Nat) (args:List AV) (h:T AO) (nx:Nat):meetsF m f args h nx=meets m f args h nx:=by
  unfold meetsF meets
  rw[rec_and,rec_and,belowF_eq]
noncomputable def callS:List Memo->CallF->CallF
  | [],call=>call
  | m ::l,call=>λf args h nx=>match meetsF m f args h nx with
    | true=>match overO h m.hout with
      |some h'=>some (m.r,h',m.nx')
      |none=>none
    |false=>callS l call f args h nx
theorem callS_ok{P:Program} {call:CallF} (hc:CallOK gl P call):∀(l:List Memo),(∀m∈l,MemoOK gl P m)->CallOK gl P (callS l call)
  | [],_=>hc
  | m ::l,hl=>by
    have ih:=callS_ok hc l λm hm=>hl m (.tail _ hm)
    intro f args h nx r h' nx' e
    have e':(match meetsF m f args h nx with|true=>(match overO h m.hout with|some h'=>some (m.r,h',m.nx')|none=>none)|false=>callS l call f args h nx)=some (r,h',nx'):=e
    rw[meetsF_eq]at e'
    cases hm:meets m f args h nx with
    | true=>
      rw[hm]at e'
      simp only at e'
      split at e'
      · rename_i h1 ho
        cases e'
        have:=overO_ok ho
        subst this
        have ok:=hl m (.head _)
        obtain⟨rfl,k1,k2⟩:=memo_meet ok hm
        exact .inl ⟨k1,ok.2.1,k2⟩
      · cases e'
    |false=>rw[hm]at e';exact ih _ _ _ _ _ _ _ e'
end Go.Proofs.YtldhaghgonkknaaDoor.Old
