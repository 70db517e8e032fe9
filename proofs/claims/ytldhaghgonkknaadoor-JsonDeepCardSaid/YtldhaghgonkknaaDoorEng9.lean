/-
  A closed run beside package-level variables that are laid. No condition but what its theorem asks.
-/
import Derived.Test.YtldhaghgonkknaaDoorEng8
import Derived.Lib.MakeNoZero
namespace Go.Proofs.YtldhaghgonkknaaDoor.Old
open Go.RowKit
set_option linter.unusedVariables false
set_option linter.unusedSimpArgs false
variable {gl : T AV}
theorem closed_laid{P:Program} {gl:T AV} {call:CallF} (hc:CallOK gl P call) {f:Nat} {b:Bool} {h0 h:T AO} {nx0 nx:Nat} (hb:hasB P f=true) (e:call f [] h0 nx0=some (.bool b,h,nx)) (w:World) (I0:In)
    (obj:∀id o b t,h0.get id=some o->I0 id=some (b,t)->o.rw=false/\∃ob,w.heap[b]? =some ob/\OR I0 t o ob)
    (inj:∀id id' o o' b t t',h0.get id=some o->h0.get id'=some o'->I0 id=some (b,t)->I0 id'=some (b,t')->id=id')
    (low:∀id b t,I0 id=some (b,t)->id<nx0/\b<w.heap.size)
    (hG:GOK gl I0):
    Calls P f #[] w λe w'=>e= .returned (.bool b)/\Below w.heap.size w w':=by
  obtain⟨_,_,k⟩:=hc.enter hb e
  refine(k (λs b=>match s with|true=>b<w.heap.size|false=>∃id t,I0 id=some (b,t)) I0 w [] .nil ⟨λid o b t h1 h2=>(obj id o b t h1 h2).2,inj,λid o b t h1 h2 h3=>⟨(obj id o b t h1 h2).1,id,t,h2⟩⟩ (λb h=>h) hG (λb h=>(by obtain⟨id,t,h⟩:=h;exact(low id b t h).2)) (λi h1 _=> ?_)).mono λe' w' hh=> ?_
  · cases hI:I0 i with
    |none=>rfl
    |some x=>obtain⟨b,t⟩:=x;exact absurd (low i b t hI).1 (by omega)
  · obtain⟨z,I',rfl,h1,h2⟩:=hh
    cases h1
    exact⟨rfl,h2.same.os,h2.same.tape,h2.same.output,h2.size,λk hk=>h2.fr k hk⟩
noncomputable def callG (P:Program) (ext:ExtF) (gl:T AV) (wrap:CallF->CallF) (d:Nat):CallF:=callF P ext (λcall n=>regF P call ext n) 10000000 gl wrap d
noncomputable def MnzFact (P:Program) (g tu:Nat):Prop:=∃fn rt,P.funcs[g]? =some fn/\(fn.name== "runtime.NumGoroutine")=false/\fn.body.isNone=true/\Extern.findNext fn=none/\Extern.find fn=some (Extern.BytealgMakeNoZero.makeNoZero fn.params #[rt])/\P.underlying rt=some (.slice tu)
noncomputable def mnzW (g0 tu:Nat) (call:CallF):CallF:=λf args h nx=>match Nat.beq f g0 with
  | true=>match args with
    | [.int .i64 (.ofNat n)]=>match Nat.ble n 1000000 with
      | true=>match T.put 64 nx (some (.cells tu (some 0) true [])) h with
        |some h'=>some (.gsl nx 0 n 1,h',nx+1)
        |none=>none
      |false=>none
    |_=>none
  |false=>call f args h nx
theorem mnz_ok{P:Program} {gl:T AV} {g0 tu:Nat} (hf:MnzFact P g0 tu) {call:CallF} (hc:CallOK gl P call):CallOK gl P (mnzW g0 tu call):=by
  intro f args h nx r h' nx' e
  cases hg:Nat.beq f g0 with
  |false=>simp only[mnzW,hg]at e;exact hc _ _ _ _ _ _ _ e
  | true=>
    simp only[mnzW,hg]at e
    have hg:=Nat.eq_of_beq_eq_true hg
    subst hg
    split at e
    · rename_i n
      cases hn:Nat.ble n 1000000 with
      |false=>simp[hn]at e
      | true=>
        simp only[hn]at e
        have hn:n<=1000000:=Nat.le_of_ble_eq_true hn
        cases hp:T.put 64 nx (some (.cells tu (some 0) true [])) h with
        |none=>simp[hp]at e
        | some h2=>
          simp only[hp]at e
          cases e
          obtain⟨fn,rt,h1,h3,h4,h5,h6,h7⟩:=hf
          refine .inr ⟨Nat.le_succ _,?_,λF I w vs hv hs hF fr=> ?_⟩
          · unfold hasB;rw[h1]
            cases hb:fn.body with
            |none=>simp[hb]
            |some c=>rw[hb]at h4;cases h4
          · obtain⟨v,rfl,hvr⟩:=vrs1 hv
            cases hvr
            obtain⟨cs,q1,q2,_⟩:=Lib.run_makeNoZero (P:=P) w fn.params rt tu h7 n (by omega)
            have hrun:=run_callFunc_extern h1 h3 h4 h5 h6 ⟨[.int .i64 (.ofNat n)]⟩ w
            have hI:I nx=none:=fr nx (Nat.le_refl _) (Nat.lt_succ_self _)
            have ho:OR (ext I nx (w.heap.size,0,cs.size)) (0,cs.size) (.cells tu (some 0) true []) (.cells cs tu):=by
              have:=OR.cells (I:=ext I nx (w.heap.size,0,cs.size)) (t:=(0,cs.size)) (elem:=tu) (elem':=tu) (fz:=some 0) (g:=true) (pre:=[]) (vs:=[]) (rest:=cs.toList) (fr:=(0,0)) .nil (λh=>by cases h) rfl (by simp) (λ_ _ o _ _=>by simp) (.inl rfl)
              exact this
            have hg:=hs.push hI hF hp rfl ho (w':=w.drew.drew.alloc (.cells cs tu)) ⟨rfl,rfl,rfl⟩
            refine⟨_,_,_,?_, .gsl (ext_at _ _ _) q2 (by omega) (.inl rfl),hg⟩
            rw[hrun]
            exact congrArg (λr=>Result.andThen r λv w'=>Result.ok (Next.value v) w') q1
    · cases e
end Go.Proofs.YtldhaghgonkknaaDoor.Old
