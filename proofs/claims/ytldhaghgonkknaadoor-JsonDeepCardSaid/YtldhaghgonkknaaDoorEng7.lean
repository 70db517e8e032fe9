/-
  Runs of calls that are proved once, and met again from the same memory. No condition but what its last theorems ask.
-/
import Derived.Test.YtldhaghgonkknaaDoorEng6
namespace Go.Proofs.YtldhaghgonkknaaDoor.Old
open Go.RowKit
set_option linter.unusedVariables false
set_option linter.unusedSimpArgs false
variable {gl : T AV}
noncomputable def smN:List Nat->List Nat->Bool
  | [],[]=>true
  |a::l,b::m=>Nat.beq a b&&smN l m
  |_,_=>false
theorem smN_ok:∀{l m:List Nat},smN l m=true->l=m
  | [],[],_=>rfl
  | a::l,b::m,e=>by
    simp only[smN,Bool.and_eq_true]at e
    rw[Nat.eq_of_beq_eq_true e.1,smN_ok e.2]
  | [],b::m,e=>by cases e
  |a::l,[],e=>by cases e
noncomputable def smInt:Int->Int->Bool
  | .ofNat a, .ofNat b=>Nat.beq a b
  | .negSucc a, .negSucc b=>Nat.beq a b
  |_,_=>false
theorem smInt_ok:∀{x y:Int},smInt x y=true->x=y
  | .ofNat a, .ofNat b,e=>by rw[Nat.eq_of_beq_eq_true e]
  | .negSucc a, .negSucc b,e=>by rw[Nat.eq_of_beq_eq_true e]
  | .ofNat a, .negSucc b,e=>by cases e
  | .negSucc a, .ofNat b,e=>by cases e
noncomputable def smKind (a b:IntKind):Bool:=decide (a=b)
mutual
noncomputable def smAV:AV->AV->Bool
  | .bool a, .bool b=>decide (a=b)
  | .int k n, .int k' n'=>smKind k k'&&smInt n n'
  | .str l, .str m=>smN l m
  | .nilp, .nilp=>true
  | .ptr i o, .ptr i' o'=>Nat.beq i i'&&Nat.beq o o'
  | .nsl, .nsl=>true
  | .sl i o n c, .sl i' o' n' c'=>Nat.beq i i'&&Nat.beq o o'&&Nat.beq n n'&&Nat.beq c c'
  | .gsl i o n c, .gsl i' o' n' c'=>Nat.beq i i'&&Nat.beq o o'&&Nat.beq n n'&&Nat.beq c c'
  | .nmap, .nmap=>true
  | .map i, .map j=>Nat.beq i j
  | .nilf, .nilf=>true
  | .nili, .nili=>true
  | .ifo, .ifo=>true
  | .anyi k, .anyi j=>smKind k j
  | .lin k c l, .lin j d m=>smKind k j&&(eqI c d&&eqTs l m)
  | .ifc t a, .ifc u b=>Nat.beq t u&&smAV a b
  | .agg l, .agg m=>smAVs l m
  | .tup l, .tup m=>smAVs l m
  | .fn f l, .fn g m=>Nat.beq f g&&smAVs l m
  | .bfn f a l, .bfn g b m=>Nat.beq f g&&(smAVs a b&&smAVs l m)
  |_,_=>false
noncomputable def smAVs:List AV->List AV->Bool
  | [],[]=>true
  |a::l,b::m=>smAV a b&&smAVs l m
  |_,_=>false
end
mutual
theorem smAV_ok:∀{a b:AV},smAV a b=true->a=b
  | a,b,e=>by
    cases a<;>cases b<;>simp only[smAV,Bool.and_eq_true,decide_eq_true_eq,smKind]at e<;>first
      |rfl
      | (cases e;done)
      | (rw[e];done)
      | (rw[e.1,smInt_ok e.2];done)
      | (rw[smN_ok e];done)
      | (rw[Nat.eq_of_beq_eq_true e.1,Nat.eq_of_beq_eq_true e.2];done)
      | (rw[Nat.eq_of_beq_eq_true e.1.1.1,Nat.eq_of_beq_eq_true e.1.1.2,Nat.eq_of_beq_eq_true e.1.2,Nat.eq_of_beq_eq_true e.2];done)
      | (rw[Nat.eq_of_beq_eq_true e];done)
      | (rw[e.1,eqI_t e.2.1,eqTs_eq e.2.2];done)
      | (rw[smAVs_ok e];done)
      | (rw[Nat.eq_of_beq_eq_true e.1,smAVs_ok e.2];done)
      | (rw[Nat.eq_of_beq_eq_true e.1,smAV_ok e.2];done)
      | (rw[Nat.eq_of_beq_eq_true e.1,smAVs_ok e.2.1,smAVs_ok e.2.2];done)
theorem smAVs_ok:∀{a b:List AV},smAVs a b=true->a=b
  | [],[],_=>rfl
  | a::l,b::m,e=>by
    simp only[smAVs,Bool.and_eq_true]at e
    rw[smAV_ok e.1,smAVs_ok e.2]
  | [],b::m,e=>by simp[smAVs]at e
  |a::l,[],e=>by simp[smAVs]at e
end
noncomputable def smFz:Option Nat->Option Nat->Bool
  |none,none=>true
  |some a,some b=>Nat.beq a b
  |_,_=>false
theorem smFz_ok:∀{a b:Option Nat},smFz a b=true->a=b
  |none,none,_=>rfl
  |some a,some b,e=>by rw[Nat.eq_of_beq_eq_true e]
  |none,some b,e=>by cases e
  |some a,none,e=>by cases e
noncomputable def smAO:AO->AO->Bool
  | .cells e f g l, .cells e' f' g' l'=>Nat.beq e e'&&smFz f f'&&decide (g=g')&&smAVs l l'
  | .map [] c, .map [] c'=>Nat.beq c c'
  |_,_=>false
theorem smAO_ok:∀{a b:AO},smAO a b=true->a=b
  | .cells e f g l, .cells e' f' g' l',h=>by
    simp only[smAO,Bool.and_eq_true,decide_eq_true_eq]at h
    rw[Nat.eq_of_beq_eq_true h.1.1.1,smFz_ok h.1.1.2,h.1.2,smAVs_ok h.2]
  | .map [] c, .map [] c',h=>by
    simp only[smAO]at h
    rw[Nat.eq_of_beq_eq_true h]
  | .map (_::_) c, .map _ c',h=>by simp[smAO]at h
  | .map [] c, .map (_::_) c',h=>by simp[smAO]at h
  | .cells .., .map ..,h=>by simp[smAO]at h
  | .map .., .cells ..,h=>by simp[smAO]at h
noncomputable def eqSub:Option AO->Option AO->Bool
  |none,_=>true
  |some a,some b=>smAO a b
  |some _,none=>false
noncomputable def subT:T AO->T AO->Bool
  | .e,_=>true
  | .n l v r, .n l' v' r'=>eqSub v v'&&subT l l'&&subT r r'
  | .n _ _ _, .e=>false
theorem subT_ok:∀{a b:T AO},subT a b=true->∀id o,a.get id=some o->b.get id=some o
  | .e,_,_,id,o,h=>by rw[T.get_e]at h;cases h
  | .n l v r, .n l' v' r',e,id,o,h=>by
    simp only[subT,Bool.and_eq_true]at e
    rw[T.get_eq]at h⊢
    cases id with
    | zero=>
      simp only[T.getS]at h⊢
      subst h
      cases hv:v' with
      |none=>rw[hv]at e;cases e.1.1
      |some b=>rw[hv]at e;rw[smAO_ok e.1.1]
    | succ k=>
      simp only[T.getS]at h⊢
      split at h
      · rename_i hb;rw[←T.get_eq]at h⊢;exact subT_ok e.1.2 _ _ h
      · rename_i hb;rw[←T.get_eq]at h⊢;exact subT_ok e.2 _ _ h
  | .n l v r, .e,e,id,o,h=>by simp[subT]at e
noncomputable def overT:T AO->T AO->T AO
  |h, .e=>h
  | .e, .n l v r=> .n l v r
  | .n l v r, .n l' v' r'=> .n (overT l l') (match v' with|some x=>some x|none=>v) (overT r r')
theorem overT_get:∀(a b:T AO) (id:Nat),(overT a b).get id=match b.get id with|some x=>some x|none=>a.get id
  |a, .e,id=>by rw[T.get_e];cases a<;>rfl
  | .e, .n l v r,id=>by
    rw[T.get_e]
    show(T.n l v r).get id=_
    cases(T.n l v r).get id<;>rfl
  | .n l v r, .n l' v' r',id=>by
    rw[T.get_eq,T.get_eq,T.get_eq]
    cases id with
    |zero=>simp only[overT,T.getS]
    | succ k=>
      simp only[overT,T.getS]
      split
      · rename_i hb
        rw[←T.get_eq,overT_get l l']
        simp only[T.get_eq]
      · rename_i hb
        rw[←T.get_eq,overT_get r r']
        simp only[T.get_eq]
noncomputable def belowT:T AO->Nat->Nat->Nat->Bool
  | .e,_,_,_=>true
  | .n l v r,m,b,nx=>(match v with|none=>true|some _=>Nat.blt b nx)&&belowT l (2*m) (m+b) nx&&belowT r (2*m) (2*m+b) nx
theorem belowT_ok:∀{t:T AO} {m b nx:Nat},belowT t m b nx=true->∀id o,t.get id=some o->m*id+b<nx
  | .e,m,b,nx,_,id,o,h=>by rw[T.get_e]at h;cases h
  | .n l v r,m,b,nx,e,id,o,h=>by
    simp only[belowT,Bool.and_eq_true]at e
    rw[T.get_eq]at h
    cases id with
    | zero=>
      simp only[T.getS]at h
      subst h
      have:=e.1.1
      simp only[Nat.mul_zero,Nat.zero_add]
      exact Eq.mp Nat.blt_eq this
    | succ k=>
      simp only[T.getS]at h
      have hd:=T.div2 k
      split at h
      · rename_i hb
        have hk:=(T.parity k).1 hb
        rw[←T.get_eq]at h
        have:=belowT_ok e.1.2 _ _ h
        rw[hd]at this
        have h2:k=2*(k / 2):=by omega
        have h3:m*(k+1)=2*m*(k / 2)+m:=by
          conv=>lhs;rw[h2]
          rw[Nat.mul_add,Nat.mul_one,←Nat.mul_assoc,Nat.mul_comm m 2]
        omega
      · rename_i hb
        have hk:=(T.parity k).2 hb
        rw[←T.get_eq]at h
        have:=belowT_ok e.2 _ _ h
        rw[hd]at this
        have h2:k+1=2*(k / 2)+2:=by omega
        have h3:m*(k+1)=2*m*(k / 2)+2*m:=by
          rw[h2,Nat.mul_add,←Nat.mul_assoc,Nat.mul_comm m 2]
        omega
noncomputable def newOK (v:Option AO) (b nx:Nat):Bool:=match v with|none=>true|some o=>Nat.ble nx b&&o.rw
noncomputable def goodT:T AO->T AO->Nat->Nat->Nat->Bool
  | .e, .e,_,_,_=>true
  | .e, .n l v r,m,b,nx=>newOK v b nx&&goodT .e l (2*m) (m+b) nx&&goodT .e r (2*m) (2*m+b) nx
  | .n _ _ _, .e,_,_,_=>false
  | .n l v r, .n l' v' r',m,b,nx=>(match v,v' with|some _,some _=>true|some _,none=>false|none,v'=>newOK v' b nx)&&goodT l l' (2*m) (m+b) nx&&goodT r r' (2*m) (2*m+b) nx
theorem newOK_ok{v:Option AO} {b nx:Nat} (e:newOK v b nx=true) {o} (h:v=some o):nx<=b/\o.rw=true:=by
  subst h
  simp only[newOK,Bool.and_eq_true]at e
  exact⟨Nat.le_of_ble_eq_true e.1,e.2⟩
theorem goodT_ok:∀{a t:T AO} {m b nx:Nat},goodT a t m b nx=true->∀id,((∃o,a.get id=some o)->∃o,t.get id=some o)/\∀o,t.get id=some o->(∃o,a.get id=some o)\/nx<=m*id+b/\o.rw=true
  | .e, .e,m,b,nx,_,id=>by
    rw[T.get_e]
    exact⟨λ⟨o,h⟩=>(by cases h),λo h=>(by cases h)⟩
  | .n _ _ _, .e,m,b,nx,e,id=>by simp[goodT]at e
  | .e, .n l v r,m,b,nx,e,id=>by
    simp only[goodT,Bool.and_eq_true]at e
    rw[T.get_e,T.get_eq]
    refine⟨λ⟨o,h⟩=>(by cases h),λo h=> ?_⟩
    cases id with
    | zero=>
      simp only[T.getS]at h
      have:=newOK_ok e.1.1 h
      exact .inr ⟨by omega,this.2⟩
    | succ k=>
      simp only[T.getS]at h
      have hd:=T.div2 k
      split at h
      · rename_i hb
        have hk:=(T.parity k).1 hb
        rw[←T.get_eq]at h
        rcases(goodT_ok e.1.2 _).2 _ h with⟨o',h'⟩|⟨h1,h2⟩
        · rw[T.get_e]at h';cases h'
        · refine .inr ⟨?_,h2⟩
          rw[hd]at h1
          have h2:k=2*(k / 2):=by omega
          have h3:m*(k+1)=2*m*(k / 2)+m:=by
            conv=>lhs;rw[h2]
            rw[Nat.mul_add,Nat.mul_one,←Nat.mul_assoc,Nat.mul_comm m 2]
          omega
      · rename_i hb
        have hk:=(T.parity k).2 hb
        rw[←T.get_eq]at h
        rcases(goodT_ok e.2 _).2 _ h with⟨o',h'⟩|⟨h1,h2⟩
        · rw[T.get_e]at h';cases h'
        · refine .inr ⟨?_,h2⟩
          rw[hd]at h1
          have h2:k+1=2*(k / 2)+2:=by omega
          have h3:m*(k+1)=2*m*(k / 2)+2*m:=by
            rw[h2,Nat.mul_add,←Nat.mul_assoc,Nat.mul_comm m 2]
          omega
  | .n l v r, .n l' v' r',m,b,nx,e,id=>by
    simp only[goodT,Bool.and_eq_true]at e
    rw[T.get_eq,T.get_eq]
    cases id with
    | zero=>
      simp only[T.getS]
      have h1:=e.1.1
      cases v with
      | none=>
        refine⟨λ⟨o,h⟩=>(by cases h),λo h=> ?_⟩
        have:=newOK_ok (by simpa using h1) h
        exact .inr ⟨by omega,this.2⟩
      | some x=>
        cases v' with
        |none=>cases h1
        |some y=>exact⟨λ_=>⟨y,rfl⟩,λo h=> .inl ⟨x,rfl⟩⟩
    | succ k=>
      simp only[T.getS]
      have hd:=T.div2 k
      split
      · rename_i hb
        have hk:=(T.parity k).1 hb
        have:=goodT_ok e.1.2 (Nat.div k 2)
        rw[T.get_eq,T.get_eq]at this
        refine⟨this.1,λo h=> ?_⟩
        rcases this.2 o h with h1|⟨h1,h2⟩
        · exact .inl h1
        · refine .inr ⟨?_,h2⟩
          rw[hd]at h1
          have h2:k=2*(k / 2):=by omega
          have h3:m*(k+1)=2*m*(k / 2)+m:=by
            conv=>lhs;rw[h2]
            rw[Nat.mul_add,Nat.mul_one,←Nat.mul_assoc,Nat.mul_comm m 2]
          omega
      · rename_i hb
        have hk:=(T.parity k).2 hb
        have:=goodT_ok e.2 (Nat.div k 2)
        rw[T.get_eq,T.get_eq]at this
        refine⟨this.1,λo h=> ?_⟩
        rcases this.2 o h with h1|⟨h1,h2⟩
        · exact .inl h1
        · refine .inr ⟨?_,h2⟩
          rw[hd]at h1
          have h2:k+1=2*(k / 2)+2:=by omega
          have h3:m*(k+1)=2*m*(k / 2)+2*m:=by
            rw[h2,Nat.mul_add,←Nat.mul_assoc,Nat.mul_comm m 2]
          omega
structure Memo where
  f:Nat
  args:List AV
  hin:T AO
  nx:Nat
  r:AV
  hout:T AO
  nx':Nat
noncomputable def MemoOK (gl:T AV) (P:Program) (m:Memo):Prop:=m.nx<=m.nx'/\(∀args w,(callFunc m.f args).run P w= .ok (.enter m.f args) w)/\
  ∀ (F:Bool->Nat->Prop) (I:In) (w:World) (vs:List Value),VRs I m.args vs->Sim F I m.hin w->(∀b,F true b->b<w.heap.size)->GOK gl I->(∀b,F false b->F true b)->Fresh I m.nx m.nx'->
    Calls P m.f ⟨vs⟩ w λe w'=>∃z I',e= .returned z/\VR I' m.r z/\Grow F I m.nx w I' m.nx' m.hout w'
theorem Sim.sub{F I w} {a b:T AO} (s:Sim F I b w) (h:∀id o,a.get id=some o->b.get id=some o):Sim F I a w:=
  ⟨λid o b t h1 h2=>s.obj id o b t (h id o h1) h2,λid id' o o' b t t' h1 h2=>s.inj id id' o o' b t t' (h _ _ h1) (h _ _ h2),λid o b t h1=>s.fr id o b t (h _ _ h1)⟩
noncomputable def memoRun (call:CallF) (m:Memo):Bool:=match call m.f m.args m.hin m.nx with
  |some (r,h',nx')=>smAV r m.r&&Nat.beq nx' m.nx'&&subT m.hout h'
  |none=>false
theorem memo_of_run{P:Program} {call:CallF} {m:Memo} (hc:CallOK gl P call) (hb:hasB P m.f=true) (e:memoRun call m=true):MemoOK gl P m:=by
  unfold memoRun at e
  split at e
  · rename_i r h' nx' hr
    simp only[Bool.and_eq_true]at e
    obtain⟨⟨e1,e2⟩,e3⟩:=e
    have e1:=smAV_ok e1
    have e2:=Nat.eq_of_beq_eq_true e2
    subst e1 e2
    obtain⟨k1,k2,k3⟩:=hc.enter hb hr
    refine⟨k1,k2,λF I w vs hv hs hF hG hZ fr=>(k3 F I w vs hv hs hF hG hZ fr).mono λe w' hh=> ?_⟩
    obtain⟨z,I',h1,h2,g⟩:=hh
    exact⟨z,I',h1,h2,g.le,g.new,g.sim.sub (subT_ok e3),g.fr,g.size,g.same⟩
  · cases e
noncomputable def meets (m:Memo) (f:Nat) (args:List AV) (h:T AO) (nx:Nat):Bool:=
  Nat.beq nx m.nx&&(Nat.beq f m.f&&(smAVs args m.args&&(subT m.hin h&&(belowT h 1 0 nx&&goodT m.hin m.hout 1 0 nx))))
noncomputable def callM:List Memo->CallF->CallF
  | [],call=>call
  | m::l,call=>λf args h nx=>match meets m f args h nx with
    |true=>some (m.r,overT h m.hout,m.nx')
    |false=>callM l call f args h nx
theorem memo_meet{P:Program} {m:Memo} {h:T AO} {nx:Nat} (hm:MemoOK gl P m) {f:Nat} {args:List AV} (e:meets m f args h nx=true):f=m.f/\nx<=m.nx'/\
  ∀ (F:Bool->Nat->Prop) (I:In) (w:World) (vs:List Value),VRs I args vs->Sim F I h w->(∀b,F true b->b<w.heap.size)->GOK gl I->(∀b,F false b->F true b)->Fresh I nx m.nx'->
    Calls P f ⟨vs⟩ w λe w'=>∃z I',e= .returned z/\VR I' m.r z/\Grow F I nx w I' m.nx' (overT h m.hout) w':=by
  simp only[meets,Bool.and_eq_true]at e
  obtain⟨e1,e2,e3,e4,e5,e6⟩:=e
  have e1:=Nat.eq_of_beq_eq_true e1
  have e2:=Nat.eq_of_beq_eq_true e2
  have e3:=smAVs_ok e3
  subst e1 e2 e3
  have sub:=subT_ok e4
  have low:∀id o,h.get id=some o->id<m.nx:=λid o k=>by have:=belowT_ok e5 id o k;omega
  have good:=goodT_ok e6
  obtain⟨k1,k2,k3⟩:=hm
  refine⟨rfl,k1,λF I w vs hv hs hF hG hZ fr=> ?_⟩
  let O:Nat->Prop:=λb=>∃id o t,h.get id=some o/\m.hin.get id=none/\I id=some (b,t)
  let F':Bool->Nat->Prop:=λs b=>match s with|true=>F true b\/O b|false=>F false b
  have far:∀id o b t,m.hin.get id=some o->I id=some (b,t)->¬O b:=by
    rintro id o b t h1 h2 ⟨id',o',t',g1,g2,g3⟩
    have:=hs.inj id id' o o' b t t' (sub _ _ h1) g1 h2 g3
    subst this
    rw[h1]at g2;cases g2
  have hs':Sim F' I m.hin w:=by
    have s0:=hs.sub sub
    refine⟨s0.obj,s0.inj,λid o b t h1 h2 h3=> ?_⟩
    rcases h3 with h3|h3
    · exact s0.fr id o b t h1 h2 h3
    · exact(far id o b t h1 h2 h3).elim
  refine(k3 F' I w vs hv hs' (λb hb=> ?_) hG (λb hb=> .inl (hZ b hb)) fr).mono λe w' hh=> ?_
  · rcases hb with hb|⟨id,o,t,g1,g2,g3⟩
    · exact hF b hb
    · obtain⟨ob,h1,_⟩:=hs.obj id o b t g1 g3
      exact(Array.getElem?_eq_some_iff.1 h1).1
  obtain⟨z,I',h1,h2,g⟩:=hh
  refine⟨z,I',h1,h2,g.le,g.new,?_,λb hb=>g.fr b (.inl hb),g.size,g.same⟩
  have split:∀id o,(overT h m.hout).get id=some o->m.hout.get id=some o\/(m.hin.get id=none/\m.hout.get id=none/\h.get id=some o):=λid o k=>by
    rw[overT_get]at k
    cases hq:m.hout.get id with
    |some x=>rw[hq]at k;cases k;exact .inl rfl
    | none=>
      rw[hq]at k
      refine .inr ⟨?_,rfl,k⟩
      cases hi:m.hin.get id with
      |none=>rfl
      | some x=>
        obtain⟨y,hy⟩:=(good id).1 ⟨x,hi⟩
        rw[hq]at hy;cases hy
  have old:∀id o x,h.get id=some o->I' id=some x->I id=some x:=λid o x k1 k2=>by
    rcases g.new id x k2 with h|⟨h,_⟩
    · exact h
    · have:=low id o k1;omega
  have cross:∀id o b t,m.hout.get id=some o->I' id=some (b,t)->∀id' o' t',m.hin.get id'=none->h.get id'=some o'->I id'=some (b,t')->id=id':=λid o b t k1 k2 id' o' t' k3 k4 k5=>by
    rcases(good id).2 o k1 with⟨x,hx⟩|⟨_,hrw⟩
    · have hh:=sub _ _ hx
      exact hs.inj id id' _ _ b t t' hh k4 (old id _ _ hh k2) k5
    · have:=g.sim.fr id o b t k1 k2 (.inr ⟨id',o',t',k4,k3,k5⟩)
      rw[hrw]at this;cases this.1
  refine⟨λid o b t h1 h2=> ?_,λid id' o o' b t t' h1 h2 h3 h4=> ?_,λid o b t h1 h2 h3=> ?_⟩
  · rcases split id o h1 with k|⟨k,_,k'⟩
    · exact g.sim.obj id o b t k h2
    · have hI:=old id o _ k' h2
      obtain⟨ob,j1,j2⟩:=hs.obj id o b t k' hI
      refine⟨ob,?_,j2.mono g.le⟩
      rw[g.fr b (.inr ⟨id,o,t,k',k,hI⟩)]
      exact j1
  · rcases split id o h1 with k|⟨k,_,k'⟩
    · rcases split id' o' h2 with q|⟨q,_,q'⟩
      · exact g.sim.inj id id' o o' b t t' k q h3 h4
      · exact cross id o b t k h3 id' o' t' q q' (old _ _ _ q' h4)
    · rcases split id' o' h2 with q|⟨q,_,q'⟩
      · exact(cross id' o' b t' q h4 id o t k k' (old _ _ _ k' h3)).symm
      · exact hs.inj id id' o o' b t t' k' q' (old _ _ _ k' h3) (old _ _ _ q' h4)
  · rcases split id o h1 with k|⟨k,_,k'⟩
    · exact g.sim.fr id o b t k h2 (.inl h3)
    · exact hs.fr id o b t k' (old _ _ _ k' h2) h3
theorem callM_ok{P:Program} {call:CallF} (hc:CallOK gl P call):∀(l:List Memo),(∀m∈l,MemoOK gl P m)->CallOK gl P (callM l call)
  | [],_=>hc
  | m ::l,hl=>by
    have ih:=callM_ok hc l λm hm=>hl m (.tail _ hm)
    intro f args h nx r h' nx' e
    have e':(match meets m f args h nx with|true=>some (m.r,overT h m.hout,m.nx')|false=>callM l call f args h nx)=some (r,h',nx'):=e
    cases hm:meets m f args h nx with
    | true=>
      rw[hm]at e'
      cases e'
      have ok:=hl m (.head _)
      obtain⟨rfl,k1,k2⟩:=memo_meet ok hm
      exact .inl ⟨k1,ok.2.1,k2⟩
    |false=>rw[hm]at e';exact ih _ _ _ _ _ _ _ e'
end Go.Proofs.YtldhaghgonkknaaDoor.Old
