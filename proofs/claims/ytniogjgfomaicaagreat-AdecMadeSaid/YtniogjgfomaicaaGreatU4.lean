/-
  The machine with unknown values: questions reckoned out of the code. No condition but what its theorems ask.
-/
import Derived.Test.YtniogjgfomaicaaGreatU1
import Derived.Laws.AppendOwn
import Derived.Lib.UnsafeStr
namespace Go.Proofs.YtniogjgfomaicaaGreat.Eng
open Go.RowKit
set_option linter.defProp false
set_option linter.unusedVariables false
set_option linter.unusedSimpArgs false
variable {gl:T AV}
noncomputable section
open _root_.Array renaming all_eq_true_iff_forall_mem->Τ,all_toList->qqf,getD_eq_getD_getElem?->ζ,getElem?_eq_getElem->γ,getElem?_eq_none->qqc,getElem?_setIfInBounds->Ω,getElem?_setIfInBounds_ne->Υ,getElem?_setIfInBounds_self_of_lt->Μ,getElem?_toList->Λ,length_toList->χ,replicate->Α,size_setIfInBounds->φ
open _root_.Bool renaming and_eq_true->κ,false->ξ,not->qqn,not_eq_true'->qqg,or_eq_true->ψ,true->η
open _root_.Go.Act renaming put->qqj
open _root_.Go.Builtin renaming append_->ω,firstCells->Ξ,lenOf->qqi
open _root_.Go.Instr renaming mapUpdate->qqh
open _root_.Go.Region renaming binds->θ,ready->ε,wanted->ς
open _root_.Go.Result renaming andThen->μ
open _root_.Go.Sem renaming bind->qqo,run->Χ,run_bind->Γ,run_pure->Ι
open _root_.Iff renaming rfl->qqk
open _root_.List renaming all_cons->qqq,eq_nil_iff_forall_not_mem->ν,getElem?_cons_succ->Ε,getElem?_cons_zero->qqb,getElem?_toArray->qqd,length_append->Ο,length_cons->Ψ,length_set->qql,mem_cons_of_mem->Η,mem_cons_self->Ρ,mem_filter->Κ,mem_range->Ν,range'->qqt,range->Θ
open _root_.Nat renaming add_zero->qqr,beq->π,ble->qqe,blt->Δ,blt_eq->qqa,eq_of_beq_eq_true->δ,le_of_ble_eq_true->Β,le_refl->υ,strongRecOn->qqm,testBit_or->qqp,zero_add->qqs
open _root_.Option renaming getD_some->Φ,map_some->Ζ,none->ρ,some->ι
def IM(h:T AO) (id off:Nat) (x:List AV):Option (T AO):=
 match h.get id with
 |some (.cells e (ι fz) g l)=>if fz<=off/\off+x.length<=l.length/\x.all atom=η then T.put 64 id (ι (.cells e (ι fz) g (spl l off x))) h else ρ
 |_=>ρ
variable {F:Bool->Nat->Prop} {I:In} {w:World}
def qac{P:Cl} {h h':T AO} (hs:Sim F I h w) {id off b s t:Nat} {x:List AV} {us:List Value} (e:IM h id off x=ι h') (hi:I id=ι (b,s,t)) (hx:VRs I x us) (nx:Nat):
    ∃A,(storeCells ⟨b,s+off,ρ⟩ us).run P w= .ok () A/\Grow F I nx w I nx h' A:=by
  unfold IM at e;split at e
  · rename_i el fz g l G;split at e
    · rename_i hc;obtain⟨c1,c2,O⟩:=hc;obtain⟨ob,hb,ho⟩:=hs.obj _ _ _ _ G hi;cases ho with
      | @cells _ _ _ _ _ pre vs rest fr J C hp H B u=>
        rcases u with u|⟨u,_⟩;case inr=>cases u
        have u:=u.symm;subst u;have hxl:=hx.len;have hvl:=J.len;simp only at hp H B;have hlen:(vs++rest).length=t:=H;rw[Ο]at hlen;obtain⟨A,U,V,X,Y,Z⟩:=F4 (P:=P) (o:=s+off) us 0 (pre++(vs++rest)) w hb (by simp only[Ο];omega) (λj a1 a2=>by have:=B fz rfl (j- s) (by omega) (by omega);rw[show s+(j- s)=j by omega]at this;exact this) (F6 hx O);refine⟨A,U,hs.upd G rfl hi e V ?_ X Y Z nx⟩;rw[qqr,←hp,Gu us pre (vs++rest) off,NO us vs rest off (by omega)];exact .cells (t:=(pre.length,t)) (IA hx off J) C rfl (by simp only[Ο,q7p];omega) (by rw[hp];exact B) (.inl rfl)
    · cases e
  · cases e
def qdr(P:Cl) (F:Bool->Nat->Prop) (I:In) (nx:Nat) (w:World) (s:Sem Next) (v:AV) (h':T AO) (h:Nat):Prop:=
 ∃n z u A,s.run P w= .ok n A/\(n= .value z\/n= .skip/\z=undef)/\VR u v z/\Grow F I nx w u h h' A
def vp:AV:= .tup []
def xw(I:In):VR I vp undef:= .tup .nil
def IK(P:Cl) (h:T AO) (t:TypeId) (id off:Nat) (a:AV):Option (T AO):=
 let x:=JM a
 match P.info? t with
 |some i=>if x.length=i.size then IM h id off x else ρ
 |none=>ρ
def qa8{P:Cl} {h h':T AO} (hs:Sim F I h w) {t:TypeId} {id off b s k:Nat} {a:AV} {v:Value} (e:IK P h t id off a=ι h') (hi:I id=ι (b,s,k)) (J:VR I a v) (nx:Nat):
  ∃u,(storeVar t ⟨b,s+off,ρ⟩ v).run P w= .ok () u/\Grow F I nx w I nx h' u:=by
 unfold IK at e;simp only at e;split at e
 ·rename_i i A;split at e
  ·rename_i O;have C:=F7 J;obtain⟨u,G,H⟩:=qac (P:=P) hs e hi C nx;have B:v.cells.size=i.size:=(by rw[←χ,←C.len];exact O);exact⟨u,by simp[storeVar,run_sizeOf A,B,G,μ],H⟩
  ·cases e
 ·cases e
def Gr(P:Cl) (h:T AO) (t:TypeId) (id:Nat) (k v:AV):Option (T AO):=ρ
def WC{P:Cl} {b:Nat} {o:Obj} {ms:Array MapEntry} {c:Nat} (h:w.heap[b]? =ι (.map ms c)):(setObj b o).run P w= .ok () (wG w b o):=by simp[setObj,Χ,h,wG]
def q8t{P:Cl} {h h':T AO} (hs:Sim F I h w) {t:TypeId} {id b:Nat} {n:Nat×Nat} {k v:AV} {u z:Value} (e:Gr P h t id k v=ι h') (hi:I id=ι (b,n)) (B:VR I k u) (C:VR I v z) (nx:Nat):
  ∃A,(qqh t (.map (ι b)) u z).run P w= .ok () A/\Grow F I nx w I nx h' A:=by unfold Gr at e;cases e
def qeg{α:Type}:∀(xs l:List α) (k:Nat),k+xs.length<=l.length->spl l k xs=l.take k++xs++l.drop (k+xs.length)
  | [],l,k,h=>by simp[spl]
  | x::xs,l,k,h=>by simp only[Ψ]at h;rw[spl,qeg xs (l.set k x) (k+1) (by rw[qql];omega)];have u:k<l.length:=(by omega);rw[List.take_succ_eq_append_getElem (by rw[qql];exact u),List.getElem_set_self,List.take_set_of_le (υ _),List.drop_set_of_lt (by omega)];simp only[Ψ,List.append_assoc,List.cons_append,List.nil_append];congr 4;omega
variable {F:Bool->Nat->Prop} {w:World}
def qa4{P:Cl} {I:In} {h:T AO} (hs:Sim F I h w) {id off n b s t o:Nat} {l:List AV} (e:Zv h id off n=ι l) (hi:I id=ι (b,s,t)) (B:o=s+off\/n=0):
  ∃u:List Value,VRs I l u/\u.length=n/\∀A:World,A.heap=w.heap->(loadCells ⟨b,o,ρ⟩ n).run P A= .ok ⟨u⟩ A:=by
 obtain⟨u,g1,g2,g3,c,el,fr,G,g4⟩:=qet hs e hi;refine⟨u,g1,g2,λA hw=> ?_⟩;have:=q57 (P:=P) (w:=A) (b:=b) (o:=o) (c:=c) (e:=el) (fr:=fr) (by rw[hw];exact G) u (λj v C=>by
  rcases B with B|B
  ·subst B;exact g4 j v C
  ·have:=(List.getElem?_eq_some_iff.1 C).1;omega)
 rw[g2]at this;exact this
def WT(P:Cl):List TypeId->Bool
  | _::t::_=>match P.underlying t with
    |some (.slice _)|some .string=>η
    |_=>ξ
  |_=>ξ
def q3a{P:Cl} {t0 t1:TypeId} (h:WT P [t0,t1]=η):(∃e,P.underlying t1=ι (.slice e))\/P.underlying t1=ι .string:=by
 simp only[WT]at h;split at h
 ·rename_i e u;exact .inl ⟨e,u⟩
 ·rename_i u;exact .inr u
 ·cases h
variable {i:TypeInfo} {base:Option Addr} {v:Value}
def NH{P:Cl} {t0 t1 ty e:TypeId} {sLen sCap n:Nat} {us:List Value} (A:P.underlying t0=ι (.slice e)) (B:WT P [t0,t1]=η) (hi:P.info? e=ι i)
  (u:(qqi v).run P w= .ok n w) (h:(Ξ i.size n v).run P w= .ok ⟨us⟩ w) (hr:sLen+n<=sCap):
  (ω ⟨[t0,t1]⟩ ty ⟨[.slice base sLen sCap,v]⟩).run P w=(match base with|some a=>(storeCells (a.add (sLen*i.size)) us).run P w|none=> .ok () w).andThen (λ_ w=> .ok (.slice base (sLen+n) sCap) w):=by
 simp only[ω,qqd,qqb,Ε,Γ,run_underlying A,μ,run_sizeOf hi];rcases q3a B with⟨e',hu⟩|hu
 ·simp[run_underlying hu,μ,u,hr,h];cases base<;>simp[μ]
 ·simp[run_underlying hu,μ,u,hr,h];cases base<;>simp[μ]
def q7d{P:Cl} {t0 t1 ty e:TypeId} {z:Value} {sLen sCap n:Nat} {us os:List Value} (Y:P.underlying t0=ι (.slice e)) (hz:WT P [t0,t1]=η) (hi:P.info? e=ι i) (U:i.zero=ι z)
  (X:(qqi v).run P w= .ok n w) (Z:∀A:World,A.heap=w.heap->(Ξ i.size n v).run P A= .ok ⟨us⟩ A) (ho:∀A:World,A.heap=w.heap->(Ξ i.size sLen (.slice base sLen sCap)).run P A= .ok ⟨os⟩ A) (hr:¬sLen+n<=sCap) (hb:0<i.bytes) (B:(sLen+n)*i.bytes<=140737488355328):
  (ω ⟨[t0,t1]⟩ ty ⟨[.slice base sLen sCap,v]⟩).run P w= .ok (.slice (ι ⟨w.heap.size,0,ρ⟩) (sLen+n) (grownCap w (sLen+n) sCap e)) (w.drew.alloc (.cells (⟨os⟩++(⟨us⟩++Builtin.zeroCells z.cells (grownCap w (sLen+n) sCap e- (sLen+n)))) e)):=by
 have H:¬i.bytes=0:=by omega
 have V:=growslice_fits (bytes:=i.bytes) (Nat.lt_of_not_le hr) B;have O:(typeInfo e).run P w= .ok i w:=by simp[typeInfo,program,Χ,hi,bind,qqo,pure]
 have u:(typeInfo e).run P w.drew= .ok i w.drew:=by simp[typeInfo,program,Χ,hi,bind,qqo,pure]
 have T:(zeroValue e).run P w.drew= .ok z w.drew:=by simp[zeroValue,typeInfo,program,Χ,hi,bind,qqo,pure,U]
 have G:¬Builtin.nextslicecap (sLen+n) sCap*i.bytes>2 ^ 48:=by omega
 have h:∀k,(askRoom k).run P w.drew= .ok () w.drew:=λk=>by unfold askRoom;split<;>rfl
 have J:=ho w.drew rfl;have C:=Z w.drew rfl;simp only[ω,qqd,qqb,Ε,Γ,run_underlying Y,μ,run_sizeOf hi];rcases q3a hz with⟨e',hu⟩|hu
 ·simp[run_underlying hu,μ,X,hr,O,u,H,G,Question.forced,h,J,C,T,newRow,newObj,Χ,grownCap];rfl
 ·simp[run_underlying hu,μ,X,hr,O,u,H,G,Question.forced,h,J,C,T,newRow,newObj,Χ,grownCap];rfl
def Gq(P:Cl) (h:T AO) (nx:Nat) (ts:List TypeId) (d x:AV):Option (AV×T AO×Nat):=ρ
def Sim.push'{F I h w} (s:Sim F I h w) {nx t o h'} (hi:I nx=ρ) (u:∀b,F η b->b<w.heap.size) (hp:T.put 64 nx (ι o) h=ι h') {ob:Obj} (A:OR (ext I nx (w.heap.size,t)) t o ob):
  Grow F I nx w (ext I nx (w.heap.size,t)) (nx+1) h' (w.drew.alloc ob):=s.push hi u hp rfl A ⟨rfl,rfl,rfl⟩
def Sim.drop{F I h w} (s:Sim F I h w) {id A} (hp:T.put 64 id ρ h=ι A):Sim F I A w:=by
 have B:=T.get_put _ _ _ _ _ hp;have sub:∀k o,A.get k=ι o->h.get k=ι o:=λk o u=>by
  rw[B]at u;split at u
  ·cases u
  ·exact u
 exact⟨λk o b t a c=>s.obj k o b t (sub _ _ a) c,λk C o G b t H a c=>s.inj k C o G b t H (sub _ _ a) (sub _ _ c),λk o b t a c=>s.fr k o b t (sub _ _ a) c⟩
def qc3{P:Cl} {e:TypeId} {z:List AV} (hi:P.info? e=ι i) (h:xC P e=ι z):∃u,i.zero=ι u/\u.cells.size=z.length:=by
 unfold xC at h;rw[hi]at h;simp only at h;split at h
 ·rename_i u A;exact⟨u,A,by rw[←χ,←(ofVals_rel (λ_=>ρ) _ _ h).len]⟩
 ·cases h
def q8r{P:Cl} {I:In} {h h':T AO} (hs:Sim F I h w) (H:∀b,F η b->b<w.heap.size) {nx A:Nat} {ts:List TypeId} {ty:TypeId} {d x r:AV} {u v:Value} (e:Gq P h nx ts d x=ι (r,h',A)) (G:∀i,nx<=i->i<A->I i=ρ) (hd:VR I d u) (hx:VR I x v):
  ∃z B C,(ω ⟨ts⟩ ty ⟨[u,v]⟩).run P w= .ok z C/\VR B r z/\Grow F I nx w B A h' C:=by unfold Gq at e;cases e
def NR(P:Cl) (h:T AO) (t:TypeId) (id:Nat) (k:AV):Option (AV×T AO):=ρ
variable {F:Bool->Nat->Prop} {w:World}
def q6a{P:Cl} {I:In} {h h':T AO} (hs:Sim F I h w) {t:TypeId} {id b:Nat} {n:Nat×Nat} {k r:AV} {u:Value} (e:NR P h t id k=ι (r,h')) (hi:I id=ι (b,n)) (B:VR I k u) (nx:Nat):
  ∃z A,(Instr.mapEntry t (.map (ι b)) u).run P w= .ok z A/\VR I r z/\Grow F I nx w I nx h' A:=by unfold NR at e;cases e
def NG(h:T AO) (id:Nat) (s v:AV):Option (T AO):=ρ
def q4t{P:Cl} {I:In} {h h':T AO} (hs:Sim F I h w) {t:TypeId} {id b:Nat} {n:Nat×Nat} {s v:AV} {u z:Value} (e:NG h id s v=ι h') (hi:I id=ι (b,n)) (B:VR I s u) (C:VR I v z) (nx:Nat):
  ∃A,(Instr.entryStore t (.map (ι b)) u z).run P w= .ok () A/\Grow F I nx w I nx h' A:=by unfold NG at e;cases e
def Oe(P:Cl) (h:T AO) (ts:List TypeId) (l:List AV):Option (AV×T AO):=ρ
variable {F:Bool->Nat->Prop} {w:World}
def qci{P:Cl} {I:In} {h h':T AO} (hs:Sim F I h w) {ts:List TypeId} {ty:TypeId} {l:List AV} {vs:List Value} {r:AV} (e:Oe P h ts l=ι (r,h')) (A:VRs I l vs) (nx:Nat):
  ∃z u,(Builtin.unsafeString_ ⟨ts⟩ ty ⟨vs⟩).run P w= .ok z u/\VR I r z/\Grow F I nx w I nx h' u:=by unfold Oe at e;cases e
def Od(P:Cl) (h:T AO) (s:TypeId) (a:AV):Option (AV×T AO):=ρ
def qcg{P:Cl} {I:In} {h h':T AO} (hs:Sim F I h w) {s:TypeId} {a r:AV} {u:Value} (e:Od P h s a=ι (r,h')) (B:VR I a u) (nx:Nat):
  ∃z A,(convert s s u).run P w= .ok z A/\VR I r z/\Grow F I nx w I nx h' A:=by unfold Od at e;cases e
def WL(P:Cl) (h:T AO) (nx:Nat) (ts:List TypeId) (d x:AV):Option (AV×T AO×Nat):=ρ
variable {ts:List TypeId}
def q75{P:Cl} {h h':T AO} {nx u:Nat} {d x r:AV} (e:WL P h nx ts d x=ι (r,h',u)):nx<=u:=by
 unfold WL at e;repeat' split at e
 all_goals (try (cases e;done))
 all_goals (simp only[Option.some.injEq,Prod.mk.injEq]at e;omega)
variable {F:Bool->Nat->Prop} {I:In} {w:World}
def q76{P:Cl} {h h':T AO} (hs:Sim F I h w) (H:∀b,F η b->b<w.heap.size) {nx A:Nat} {ts:List TypeId} {ty:TypeId} {d x r:AV} {u v:Value} (e:WL P h nx ts d x=ι (r,h',A)) (G:∀i,nx<=i->i<A->I i=ρ) (hd:VR I d u) (hx:VR I x v):
  ∃z B C,(ω ⟨ts⟩ ty ⟨[u,v]⟩).run P w= .ok z C/\VR B r z/\Grow F I nx w B A h' C:=by unfold WL at e;cases e
def WJ(P:Cl) (h:T AO) (nx:Nat) (ts:List TypeId) (d x:AV):Option (AV×T AO×Nat):=
 match Gq P h nx ts d x with
 |some r=>ι r
 |none=>WL P h nx ts d x
def q3t{P:Cl} {h h':T AO} {nx u:Nat} {d x r:AV} (e:WJ P h nx ts d x=ι (r,h',u)):nx<=u:=by
 unfold WJ at e;split at e
 ·rename_i q hq;cases e;unfold Gq at hq;repeat' split at hq
  all_goals (try (cases hq;done))
  all_goals (simp only[Option.some.injEq,Prod.mk.injEq]at hq;omega)
 ·exact q75 e
def q74{P:Cl} {h h':T AO} (hs:Sim F I h w) (G:∀b,F η b->b<w.heap.size) {nx A:Nat} {ts:List TypeId} {ty:TypeId} {d x r:AV} {u v:Value} (e:WJ P h nx ts d x=ι (r,h',A)) (B:∀i,nx<=i->i<A->I i=ρ) (hd:VR I d u) (hx:VR I x v):
  ∃z C H,(ω ⟨ts⟩ ty ⟨[u,v]⟩).run P w= .ok z H/\VR C r z/\Grow F I nx w C A h' H:=by
 unfold WJ at e;split at e
 ·rename_i q hq;cases e;exact q8r hs G hq B hd hx
 ·exact q76 hs G e B hd hx
def Oa(P:Cl) (h:T AO) (ts:List TypeId) (d x:AV):Option (AV×T AO):=ρ
def qcd{P:Cl} {h h':T AO} (hs:Sim F I h w) {ts:List TypeId} {ty:TypeId} {d x r:AV} {u v:Value} (e:Oa P h ts d x=ι (r,h')) (hd:VR I d u) (hx:VR I x v) (nx:Nat):
  ∃z A,(Builtin.copy_ ⟨ts⟩ ty ⟨[u,v]⟩).run P w= .ok z A/\VR I r z/\Grow F I nx w I nx h' A:=by unfold Oa at e;cases e
def uH (P:Cl) (t:T AV) (h:T AO) (nx:Nat) (o:Oper):Option (AV×T AO×Nat):=
  match o.op with
  | .store ty x y=>match ev t x,ev t y with
    |some (.ptr id off),ι a=>(match IK P h ty id off a with|some h'=>ι (vp,h',nx)|none=>ρ)
    |_,_=>ρ
  | .mapUpdate ty m k x| .insert ty m k x=>match ev t m,ev t k,ev t x with
    |some (.map id),ι a,ι b=>(match Gr P h ty id a b with|some h'=>ι (vp,h',nx)|none=>ρ)
    |_,_,_=>ρ
  | .mapEntry ty m k=>match ev t m,ev t k with
    |some (.map id),ι a=>(match NR P h ty id a with|some (v,h')=>ι (v,h',nx)|none=>ρ)
    |_,_=>ρ
  | .entryStore ty m s x=>match ev t m,ev t s,ev t x with
    |some (.map id),ι a,ι b=>(match NG h id a b with|some h'=>ι (vp,h',nx)|none=>ρ)
    |_,_,_=>ρ
  | .convert s d x=>match π s d with
    | true=>match ev t x with
      |some a=>(match Od P h s a with|some (v,h')=>ι (v,h',nx)|none=>ρ)
      |none=>ρ
    |false=>ρ
  | .call c=>match c.callee with
    | .builtin .append=>match kJ t c.args.toList with
      |some [d,x]=>WJ P h nx c.argTypes.toList d x
      |_=>ρ
    | .builtin .copy=>match kJ t c.args.toList with
      | some [d,x]=>match Oa P h c.argTypes.toList d x with
        |some (v,h')=>ι (v,h',nx)
        |none=>ρ
      |_=>ρ
    | .builtin .unsafeString=>match kJ t c.args.toList with
      | some l=>match Oe P h c.argTypes.toList l with
        |some (v,h')=>ι (v,h',nx)
        |none=>ρ
      |none=>ρ
    |_=>ρ
  |_=>ρ
def Uf{a b:AV} {vs:List Value} (h:VRs I [a,b] vs):∃v u,vs=[v,u]/\VR I a v/\VR I b u:=by cases h with|cons h t=>obtain⟨u,rfl,A⟩:=uG t;exact⟨_,_,rfl,h,A⟩
def qef{P:Cl} {t:T AV} {h h':T AO} {a:Act} {o:Oper} {nx B:Nat} {r:AV} (e:uH P t h nx o=ι (r,h',B)) (H:TR I t a.tmps) (hs:Sim F I h w) (hF:∀b,F η b->b<w.heap.size) (Z:∀i,nx<=i->i<B->I i=ρ):
    nx<=B/\qdr P F I nx w (execOp a.eval o) r h' B:=by
  obtain⟨dst,op,ty,pos,after,guard⟩:=o;have J:∀(lt:TypeId) (m k x:Operand),(match ev t m,ev t k,ev t x with
    |some (.map id),ι a,ι b=>(match Gr P h lt id a b with|some h'=>ι (vp,h',nx)|none=>ρ)
    |_,_,_=>ρ)=ι (r,h',B)->nx<=B/\qdr P F I nx w (do qqh lt (a.eval m) (a.eval k) (a.eval x);pure Next.skip) r h' B:=λlt m k x e=>by
    split at e
    · rename_i hm Y hx;split at e
      · rename_i U hp;cases e;have C:=ql H hm;generalize O:a.eval m=v at C;cases C with
        | map V=>
          obtain⟨G,g1,g2⟩:=q8t (P:=P) hs hp V (ql H Y) (ql H hx) nx;exact⟨υ _,_,_,I,G,by simp[g1,μ], .inr ⟨rfl,rfl⟩,xw I,g2⟩
      · cases e
    · cases e
  cases op with
  | store st x y=>
    simp only[uH]at e;split at e
    · rename_i id off v hx hy;split at e
      · rename_i U hp;cases e;have C:=ql H hx;generalize O:a.eval x=xv at C;cases C with
        | ptr V=>
          obtain⟨G,g1,g2⟩:=qa8 (P:=P) hs hp V (ql H hy) nx;exact⟨υ _,_,_,I,G,by simp[execOp,Instr.storeAt,O,Instr.sureAddr,g1,μ], .inr ⟨rfl,rfl⟩,xw I,g2⟩
      · cases e
    · cases e
  |mapUpdate mt m k x=>exact J mt m k x e
  |insert mt m k x=>exact J mt m k x e
  | mapEntry mt m k=>
    simp only[uH]at e;split at e
    · rename_i id v hm Y;split at e
      · rename_i v2 U hp;cases e;have C:=ql H hm;generalize O:a.eval m=mv at C;cases C with
        | map V=>
          obtain⟨z,G,g1,g2,g3⟩:=q6a (P:=P) hs hp V (ql H Y) nx;exact⟨υ _,_,z,I,G,by simp[execOp,O,g1,μ], .inl rfl,g2,g3⟩
      · cases e
    · cases e
  | entryStore mt m s x=>
    simp only[uH]at e;split at e
    · rename_i id v1 v2 hm Y hx;split at e
      · rename_i U hp;cases e;have C:=ql H hm;generalize O:a.eval m=mv at C;cases C with
        | map V=>
          obtain⟨G,g1,g2⟩:=q4t (P:=P) (t:=mt) hs hp V (ql H Y) (ql H hx) nx;exact⟨υ _,_,_,I,G,by simp[execOp,O,g1,μ], .inr ⟨rfl,rfl⟩,xw I,g2⟩
      · cases e
    · cases e
  | convert s d x=>
    simp only[uH]at e;split at e
    · rename_i hsd;have:=δ hsd;subst this;split at e
      · rename_i av hx;split at e
        · rename_i v0 U hp;cases e;obtain⟨z,G,g1,g2,g3⟩:=qcg (P:=P) hs hp (ql H hx) nx;exact⟨υ _,_,z,I,G,by simp[execOp,g1,μ], .inl rfl,g2,g3⟩
        · cases e
      · cases e
    · cases e
  | call c=>
    simp only[uH]at e;split at e
    · rename_i X;split at e
      · rename_i d x A;have hr:=vI H A;obtain⟨v,u,O,C,U⟩:=Uf hr;have hnx:nx<=B:=q3t e;obtain⟨z,I',G,g1,g2,g3⟩:=q74 (P:=P) (ty:=ty) hs hF e Z C U;refine⟨hnx,_,z,I',G,?_, .inl rfl,g2,g3⟩;have e2:c.args.map a.eval=⟨[v,u]⟩:=(by apply Array.toList_inj.1;simpa using O);simp only[execOp,resolve,X,Γ,Ι,μ,invoke,builtin];rw[e2];simp[g1]
      · cases e
    · rename_i X;split at e
      · rename_i d x A;split at e
        · rename_i v0 U hp;cases e;have hr:=vI H A;obtain⟨v,u,O,C,h3⟩:=Uf hr;obtain⟨z,G,g1,g2,g3⟩:=qcd (P:=P) (ty:=ty) hs hp C h3 nx;refine⟨υ _,_,z,I,G,?_, .inl rfl,g2,g3⟩;have e2:c.args.map a.eval=⟨[v,u]⟩:=(by apply Array.toList_inj.1;simpa using O);have e3:(⟨c.argTypes.toList⟩:Array TypeId)=c.argTypes:=rfl;rw[e3]at g1;simp only[execOp,resolve,X,Γ,Ι,μ,invoke,builtin];rw[e2];simp[g1,μ]
        · cases e
      · cases e
    · rename_i X;split at e
      · rename_i l A;split at e
        · rename_i v0 U hp;cases e;obtain⟨z,G,g1,g2,g3⟩:=qci (P:=P) (ty:=ty) hs hp (vI H A) nx;refine⟨υ _,_,z,I,G,?_, .inl rfl,g2,g3⟩;have e2:(⟨c.args.toList.map a.eval⟩:Array Value)=c.args.map a.eval:=(by apply Array.toList_inj.1;simp);rw[e2]at g1;have e3:(⟨c.argTypes.toList⟩:Array TypeId)=c.argTypes:=rfl;rw[e3]at g1;simp only[execOp,resolve,X,Γ,Ι,μ,invoke,builtin];simp[g1,μ]
        · cases e
      · cases e
    · cases e
  |_=>simp[uH]at e
def Jc(gl:T AV) (I:In):Prop:=∀n a,gl.get n=ι a->jM<=n/\VR I a (.pointer (ι ⟨n- jM,0,ρ⟩))
def Jc.mono{I J:In} (u:I.le J) (h:Jc gl I):Jc gl J:=λn a e=>⟨(h n a e).1,(h n a e).2.mono u⟩
structure St(gl:T AV) (F:Bool->Nat->Prop) (I:In) (t:T AV) (h:T AO) (n:Nat) (a:Act) (w:World):Prop where
 tr:TR I t a.tmps
 size:a.tmps.size=n
 defers:a.defers=[]
 sim:Sim F I h w
 low:∀b,F η b->b<w.heap.size
 gok:Jc gl I
 zf:∀b,F ξ b->F η b
def vJ(I:In) (nx h:Nat):Prop:=∀i,nx<=i->i<h->I i=ρ
def y4(n:Nat) (dst:Option Tmp) (v:AV) (t:T AV):Option (T AV):=
 match dst with
 |none=>ι t
 |some d=>if d<n then(if d<jM then T.put 64 d (ι v) t else ρ)else ρ
def Iy {I:In} {n:Nat} {dst:Option Tmp} {v:AV} {t J:T AV} {a:Act} {z:Value} (e:y4 n dst v t=ι J) (H:TR I t a.tmps) (G:a.tmps.size=n) (U:VR I v z):TR I J (a.put dst z).tmps/\(a.put dst z).tmps.size=n/\(a.put dst z).defers=a.defers:=by
  unfold y4 at e;cases dst with
  |none=>cases e;exact⟨H,G,rfl⟩
  | some d=>
    simp only at e;split at e
    · rename_i hd;split at e
      · rename_i C;have O:=T.get_put _ _ _ _ _ e;refine⟨λk b B=> ?_,by simp[qqj,G],rfl⟩;rw[O]at B;simp only[qqj];split at B
        · rename_i A;subst A;cases B;have:(a.tmps.setIfInBounds k z).getD k undef=z:=(by rw[ζ,Μ (by rw[G];exact hd)];rfl);rw[Zm C,this];exact U
        · rename_i A;have u:=H k b B;unfold slot at u⊢;split
          · rename_i h;rw[if_pos h]at u;have:(a.tmps.setIfInBounds d z).getD k undef=a.tmps.getD k undef:=(by rw[ζ,Υ (by omega),←ζ]);rw[this];exact u
          · rename_i h;rw[if_neg h]at u;exact u
      · cases e
    · cases e
def WO(t:T AV) (o:Oper):Option (Nat×List AV):=
  match o.op with
  | .call c=>match c.callee with
    | .value f=>match ev t f,kJ t c.args.toList with
      |some (.fn g h),ι l=>ι (g,l++h)
      |some (.bfn g first h),ι l=>ι (g,first++(l++h))
      |_,_=>ρ
    |_=>ρ
  |_=>ρ
def q4w{P:Cl} {I:In} {t:T AV} {o:Oper} {a:Act} {g:Nat} {l:List AV} (e:WO t o=ι (g,l)) (B:TR I t a.tmps):∃vs,VRs I l vs/\∀w,(execOp a.eval o).run P w=(callFunc g ⟨vs⟩).run P w:=by
  obtain⟨dst,op,ty,pos,after,guard⟩:=o;cases op with
  | call c=>
    simp only[WO]at e;split at e
    · rename_i f U;split at e
      · rename_i g u X C G;cases e;have A:=ql B C;have O:=vI B G;generalize J:a.eval f=V at A;cases A with
        | @fn _ _ cs h=>
          refine⟨c.args.toList.map a.eval++cs,O.append h,λw=> ?_⟩;simp only[execOp,resolve,U,J,Deferred.ofValue,Γ,Ι,μ,invoke];congr 2;apply Array.toList_inj.1;simp
      · rename_i g first u X C G
        cases e;have A:=ql B C;have O:=vI B G;generalize J:a.eval f=V at A;cases A with
        | @bfn _ _ _ fs cs H h=>
          refine⟨fs++(c.args.toList.map a.eval++cs),H.append (O.append h),λw=> ?_⟩;simp only[execOp,resolve,U,J,Deferred.ofValue,Γ,Ι,μ,invoke];congr 2;apply Array.toList_inj.1;simp
      · cases e
    · cases e
  |_=>simp[WO]at e
def keep(h:T AO) (nx:Nat):Option AV->Option (AV×T AO×Nat)
 |some v=>ι (v,h,nx)
 |none=>ρ
def first(a b:Option (AV×T AO×Nat)):Option (AV×T AO×Nat):=
 match a with
 |some r=>ι r
 |none=>b
def qiy(gl:T AV) (P:Cl) (t:T AV) (h:T AO) (nx:Nat) (o:Oper) (r:AV) (h':T AO) (u:Nat):Prop:=
 nx<=u/\∀(F:Bool->Nat->Prop) (I:In) (n:Nat) (a:Act) (w:World),St gl F I t h n a w->vJ I nx u->∀(K:Act->World->Prop) (Q:Exit->Act->World->Prop),
  (∀z A B,VR A r z->Grow F I nx w A u h' B->K (a.put o.dst z) B)->o.wp P a w K Q
def qki {P:Cl} {t:T AV} {h:T AO} {nx:Nat} {o:Oper} {r:AV} {h':T AO} {u:Nat} (e:uH P t h nx o=ι (r,h',u)):qiy gl P t h nx o r h' u:=by
 have hle:nx<=u/\True:=by
  obtain⟨dst,op,ty,pos,after,guard⟩:=o;refine⟨?_,trivial⟩;unfold uH at e;simp only at e;split at e;all_goals (try (cases e;done))
  case h_6=>
   split at e
   ·split at e
    ·split at e
     ·cases e;exact υ _
     ·cases e
    ·cases e
   ·cases e
  case h_7=>
   split at e
   ·split at e
    ·exact q3t e
    ·cases e
   ·split at e
    ·split at e
     ·cases e;exact υ _
     ·cases e
    ·cases e
   ·split at e
    ·split at e
     ·cases e;exact υ _
     ·cases e
    ·cases e
   ·cases e
  all_goals
   split at e
   ·split at e
    ·cases e;exact υ _
    ·cases e
   ·cases e
 refine⟨hle.1,λF I n a w st fr K Q B=> ?_⟩;obtain⟨_,G,z,A,C,g1,g2,g3,g4⟩:=qef e st.tr st.sim st.low fr;unfold Oper.wp;rw[g1];rcases g2 with rfl|⟨rfl,rfl⟩
 ·exact B z A C g3 g4
 ·exact B undef A C g3 g4
def Act.put_size(a:Act) (d:Option Tmp) (v:Value):(a.put d v).tmps.size=a.tmps.size:=by cases d<;>simp[qqj]
inductive AX where
 |nrm
 |ex (id:Nat)
 |rt
def AX.is:AX->Exit->Prop
 | .nrm, .normal=>True
 | .ex i, .exit j=>i=j
 | .rt, .ret=>True
 |_,_=>False
def uC(P:Cl) (t:T AV) (h:T AO):List ResultVar->Option (List AV)
  | []=>ι []
  | .tmp k::l=>match(if k<jM then t.get k else ρ)with
    | some v=>match uC P t h l with
      |some r=>ι (v::r)
      |none=>ρ
    |none=>ρ
  | .cell k ty::l=>match(if k<jM then t.get k else ρ)with
    | some (.ptr id off)=>match GO P h ty id off with
      | some v=>match uC P t h l with
        |some r=>ι (v::r)
        |none=>ρ
      |none=>ρ
    |_=>ρ
def W5:List AV->AV
 | [v]=>v
 |l=> .tup l
def q6k{α β:Type} {P:Cl} {w:World} (f:α->Sem β):∀(l:List α) (r:List β),All2 (λx y=>(f x).run P w= .ok y w) l r->(l.mapM f).run P w= .ok r w
  | [],r,h=>by cases h;simp
  | x::l,r,h=>by
    cases h with
    |cons u A=>simp[u,q6k f l _ A,μ]
variable {w:World}
def q92{α β:Type} {P:Cl} (f:α->Sem β) (l:Array α) (r:List β) (h:All2 (λx y=>(f x).run P w= .ok y w) l.toList r):(l.mapM f).run P w= .ok ⟨r⟩ w:=by rw[Array.mapM_eq_mapM_toList];simp[q6k f l.toList r h,μ]
def NI{P:Cl} {F:Bool->Nat->Prop} {I:In} {t:T AV} {h:T AO} {n:Nat} {a:Act} {w:World} (st:St gl F I t h n a w):∀(l:List ResultVar) (r:List AV),uC P t h l=ι r->∃vs,VRs I r vs/\All2 (λ(x:ResultVar) y=>((match x with| .tmp t=>pure (a.tmps.getD t undef)| .cell k t=>do loadVar t (←asAddr (a.tmps.getD k undef))):Sem Value).run P w= .ok y w) l vs
  | [],r,e=>by simp[uC]at e;subst e;exact⟨[], .nil, .nil⟩
  | .tmp k::l,r,e=>by
    simp only[uC]at e;split at e
    · rename_i v B;split at e
      · rename_i J hr;cases e;obtain⟨vs,C,G⟩:=NI st l J hr;split at B;case isFalse=>cases B
        rename_i u;have A:=st.tr k v B;rw[Zm u]at A;exact⟨_, .cons A C, .cons rfl G⟩
      · cases e
    · cases e
  | .cell k ty::l,r,e=>by
    simp only[uC]at e;split at e
    · rename_i id off H;split at e
      · rename_i v B;split at e
        · rename_i J hr;cases e;obtain⟨vs,C,G⟩:=NI st l J hr;split at H;case isFalse=>cases H
          rename_i u;have A:=st.tr k _ H;rw[Zm u]at A;generalize U:a.tmps.getD k undef=z at A;cases A with
          | ptr O=>
            obtain⟨y,g1,g2⟩:=q7x (P:=P) st.sim B O;refine⟨_, .cons g2 C, .cons ?_ G⟩;simp[U,asAddr,g1,μ]
        · cases e
      · cases e
    · cases e
def q4l{P:Cl} {F:Bool->Nat->Prop} {I:In} {t:T AV} {h:T AO} {n:Nat} {a:Act} (st:St gl F I t h n a w) {fn:Func} {r:List AV} (e:uC P t h fn.results.toList=ι r):∃v,(results fn a.tmps).run P w= .ok v w/\VR I (W5 r) v:=by
  obtain⟨vs,u,A⟩:=NI st _ _ e;have B:=q92 _ _ _ A;refine⟨if h:(⟨vs⟩:Array Value).size=1 then(⟨vs⟩:Array Value)[0]else .tuple ⟨vs⟩,?_,?_⟩
  · unfold results;rw[Γ];have C:=congrArg (λr=>μ r λ(vs:Array Value) w=>Χ P (pure (if h:vs.size=1 then vs[0]else .tuple vs)) w) B;exact C
  · cases u with
    |nil=>exact .tup .nil
    | cons a b=>
      cases b with
      |nil=>exact a
      |cons c d=>exact .tup (.cons a (.cons c d))
def V1:List AV->Nat->T AV->Option (T AV)
  | [],_,t=>ι t
  | a::l,k,t=>match T.put 64 k (ι a) t with
    |some h=>V1 l (k+1) h
    |none=>ρ
def NX:∀(l:List AV) (k:Nat) (t u:T AV),V1 l k t=ι u->∀j,u.get j=if j<k then t.get j else if j<k+l.length then l[j- k]? else t.get j
  | [],k,t,u,e,j=>by simp[V1]at e;subst e;simp;intros;omega
  | a :: l, k,t,u,e,j=>by
    simp only[V1]at e;split at e
    · rename_i t1 C;rw[NX l (k+1) t1 u e j,T.get_put _ _ _ _ _ C];simp only[Ψ];by_cases h:j<k
      · rw[if_pos (by omega),if_neg (by omega),if_pos h]
      · rw [if_neg h];by_cases A:j=k
        · subst A;simp
        · rw[if_neg (by omega)];by_cases B:j<k+(l.length+1)
          · rw[if_pos (by omega),if_pos B];obtain⟨m,hm⟩:∃m,j- k=m+1:=⟨j- k- 1,by omega⟩;rw[hm,Ε];congr 1;omega
          · rw[if_neg (by omega),if_neg B,if_neg A]
    · cases e
inductive Kd where
 |q|r|a|s
 deriving DecidableEq
def qI(o:Oper):Bool:=match o.op with
  | .store .. | .mapUpdate .. | .insert .. | .mapEntry .. | .entryStore .. =>η
  | .convert s d _=>π s d
  | .call c=>match c.callee with
    | .builtin .append=>η
    | .builtin .copy=>η
    | .builtin .unsafeString=>η
    | .builtin _=>ξ
    |_=>η
  |_=>ξ
def ve(P:Cl) (o:Oper):Bool:=match o.op with
  | .alloc _| .box .. | .buildSlice .. | .makeMap .. | .makeSlice .. =>η
  | .convert _ d _=>match P.underlying d with
    |some (.slice _)=>η
    |_=>ξ
  |_=>ξ
def Qn(o:Oper):Bool:=match o.op with
  | .load .. | .lookup .. | .convert .. =>η
  | .call c=>match c.callee with
    | .builtin .len=>η
    |_=>ξ
  |_=>ξ
def slotsOf(ops:Array Oper) (o:Oper):List Nat:=
  (o.op.operands.toList.filterMap λ| .tmp t=>ι t| .global g=>ι (jM+g)|_=>ρ)++
  (match o.guard with
   | some (g,_)=>match nth ops.toList g with
     | some h=>match h.dst with
       |some d=>[d]
       |none=>[]
     |none=>[]
   |none=>[])
def Qw(t:T AV):List Nat->T AV->Option (T AV)
  | [],acc=>ι acc
  | n ::l,acc=>match t.get n with
    | some a=>match T.put 64 n (ι a) acc with
      |some h=>Qw t l h
      |none=>ρ
    |none=>Qw t l acc
def Ij{t:T AV}:∀{l:List Nat} {acc r:T AV},Qw t l acc=ι r->∀n a,r.get n=ι a->acc.get n=ι a\/n∈l/\t.get n=ι a
  | [],acc,r,e,n,a,h=>by simp[Qw]at e;subst e;exact .inl h
  | m ::l,acc,r,e,n,a,h=>by
    simp only[Qw]at e;split at e
    · rename_i b C;split at e
      · rename_i B hp;rcases Ij e n a h with u|⟨u,A⟩
        · rw[T.get_put _ _ _ _ _ hp]at u;split at u
          · rename_i G;subst G;cases u;exact .inr ⟨by simp,C⟩
          · exact .inl u
        · exact .inr ⟨by simp[u],A⟩
      · cases e
    · rcases Ij e n a h with u|⟨u,A⟩
      · exact .inl u
      · exact .inr ⟨by simp[u],A⟩
structure Rc where
 o:Oper
 w:Bool
 k:Kd
 t:T AV
 v:AV
 ob:Option AO
 nx:Nat
 h:T AO
def Zu(acc:List Nat) (i:Nat):List Edge->Nat->Option Nat
  | [],m=>ι m
  | e ::l,m=>match θ .any e with
    | true=>match Δ e.on i with
      | true=>match nth acc e.on with
        |some k=>Zu acc i l (Nat.lor m (Nat.lor (Nat.pow 2 e.on) k))
        |none=>ρ
      |false=>ρ
    |false=>Zu acc i l m
def yq:List Oper->Nat->List Nat->Option (List Nat)
  | [],_,acc=>ι acc
  | o::l,i,acc=>match Zu acc i o.after.toList 0 with
    |some m=>yq l (i+1) (acc++[m])
    |none=>ρ
def It (acc:List Nat) (i:Nat):∀(l:List Edge) (m r:Nat),Zu acc i l m=ι r->∀j,r.testBit j=η->m.testBit j=η\/∃e∈l,θ .any e=η/\e.on<i/\(j=e.on\/∃k,acc[e.on]? =ι k/\k.testBit j=η)
  | [],m,r,h,j,C=>by simp[Zu]at h;subst h;exact .inl C
  | e :: l, m,r,h,j,C=>by
    simp only[Zu]at h;split at h
    · rename_i H;split at h
      · rename_i B;split at h
        · rename_i k J;rcases It acc i l _ r h j C with u|⟨e',u,G⟩
          · have A:(m||| (2 ^ e.on|||k)).testBit j=true:=u;rw[qqp,qqp,ψ,ψ]at A;rcases A with u|u|u
            · exact .inl u
            · refine .inr ⟨e,by simp,H,by simpa[qqa]using B, .inl ?_⟩;rw[Nat.testBit_two_pow]at u;simpa using(of_decide_eq_true u).symm
            · exact .inr ⟨e,by simp,H,by simpa[qqa]using B, .inr ⟨k,by rw[←ke];exact J,u⟩⟩
          · exact .inr ⟨e',by simp[u],G⟩
        · cases h
      · cases h
    · rcases It acc i l m r h j C with u|⟨e',u,G⟩
      · exact .inl u
      · exact .inr ⟨e',by simp[u],G⟩
def VD:∀(l:List Oper) (i:Nat) (acc A:List Nat),acc.length=i->yq l i acc=ι A->A.length=i+l.length/\(∀k,k<i->A[k]? =acc[k]?)/\
    ∀k o,l[k]? =ι o->∃m,A[i+k]? =ι m/\∀j,m.testBit j=η->∃e∈o.after.toList,θ .any e=η/\e.on<i+k/\(j=e.on\/∃q,A[e.on]? =ι q/\q.testBit j=η)
  | [],i,acc,A,C,h=>by simp[yq]at h;subst h;exact⟨by simp[C],λk _=>rfl,λk o h=>by simp at h⟩
  | o ::l,i,acc,A,C,h=>by
    simp only[yq]at h;split at h
    · rename_i m hm;obtain⟨V,U,X⟩:=VD l (i+1) (acc++[m]) A (by simp[C]) h;have pre:∀k,k<i->A[k]? =acc[k]? :=λk B=>(by rw[U k (by omega),List.getElem?_append_left (by omega)]);refine⟨by rw[V];simp;omega,pre,λk Z B=> ?_⟩;cases k with
      | zero=>
        simp at B;subst B;refine⟨m,by rw[qqr,U i (by omega),List.getElem?_append_right (by omega)];simp[C],λj O=> ?_⟩;rcases It _ _ _ _ _ hm j O with G|⟨e,he,J,u,H⟩
        · simp at G
        · refine⟨e,he,J,by omega,H.imp (λh=>h) λ⟨q,hq,T⟩=>⟨q,by rw[pre _ u];exact hq,T⟩⟩
      | succ k=>
        obtain⟨m',G,H⟩:=X k Z (by simpa using B);refine⟨m',by rw[show i+(k+1)=i+1+k by omega];exact G,λj O=> ?_⟩;obtain⟨e,he,J,u,Y⟩:=H j O;exact⟨e,he,J,by omega,Y⟩
    · cases h
def VK(ops:Array Oper) (L:Nat->Prop):Prop:=∀i o,ops[i]? =ι o->L i->∀e∈o.after,θ .any e=η->L e.on
variable {ops:Array Oper} {A:List Nat}
def q8y(hA:yq ops.toList 0 []=ι A) {L:Nat->Prop} (hL:VK ops L):∀(i:Nat) (o:Oper),ops[i]? =ι o->(∀e∈o.after,θ .any e=η->L e.on)->∀m j,A[i]? =ι m->m.testBit j=η->L j:=by
  have hlen:=(VD ops.toList 0 [] A rfl hA).1;have O:=(VD ops.toList 0 [] A rfl hA).2.2;intro i;induction i using qqm with
  | _ i ih=>
    intro o Z hr m j hm X;obtain⟨m',G,T⟩:=O i o (by simpa using Z);rw[qqs]at G;rw[hm]at G;cases G;obtain⟨e,he,V,Y,U⟩:=T j X;have H:e∈o.after:=(by simpa using he);have h:=hr e H V;rcases U with rfl|⟨q,hq,J⟩
    · exact h
    · have u:e.on<ops.size:=by have:=(List.getElem?_eq_some_iff.1 hq).1;rw[hlen]at this;simpa using this
      obtain⟨C,B⟩:∃C,ops[e.on]? =ι C:=⟨_,γ u⟩;exact ih e.on (by omega) C B (hL e.on C B h) q j hq J
def qgr(hA:yq ops.toList 0 []=ι A):∀(i:Nat) (m j:Nat),A[i]? =ι m->m.testBit j=η->j<i:=by
  have hlen:=(VD ops.toList 0 [] A rfl hA).1;have B:=(VD ops.toList 0 [] A rfl hA).2.2;intro i;induction i using qqm with
  | _ i O=>
    intro m j hm H;have hi:i<ops.toList.length:=by have:=(List.getElem?_eq_some_iff.1 hm).1;rw[hlen]at this;omega
    obtain⟨m',h,C⟩:=B i _ (List.getElem?_eq_getElem hi);rw[qqs]at h;rw[hm]at h;cases h;obtain⟨e,he,T,J,G⟩:=C j H;rcases G with rfl|⟨q,hq,u⟩
    · omega
    · have:=O e.on (by omega) q j hq u;omega
def NS(acc:List Nat) (i:Nat):∀(l:List Edge) (m r:Nat),Zu acc i l m=ι r->∀e∈l,θ .any e=η->e.on<i
  | [],m,r,h,e,he=>by cases he
  | e0 :: l,m,r,h,e,he=>by
    intro A;simp only[Zu]at h;split at h
    · rename_i u;split at h
      · rename_i B;split at h
        · cases he with
          |head=>simpa[qqa]using B
          |tail _ he=>exact NS acc i l _ r h e he A
        · cases h
      · cases h
    · rename_i u;cases he with
      |head=>rw[A]at u;cases u
      |tail _ he=>exact NS acc i l m r h e he A
def q6b:∀(l:List Oper) (i:Nat) (acc A:List Nat),yq l i acc=ι A->∀k o,l[k]? =ι o->∀e∈o.after.toList,θ .any e=η->e.on<i+k
  | [],i,acc,A,h,k,o,u=>by simp at u
  | C::l,i,acc,A,h,k,o,u=>by
    simp only[yq]at h;split at h
    · rename_i m hm;cases k with
      | zero=>
        simp at u;subst u
        exactλe he B=>NS _ _ _ _ _ hm e he B
      | succ k=>
        intro e he B;have:=q6b l (i+1) _ A h k o (by simpa using u) e he B;omega
    · cases h
def qfb(hA:yq ops.toList 0 []=ι A) {i:Nat} {o:Oper} (u:ops[i]? =ι o) {e:Edge} (he:e∈o.after) (h:θ .any e=η):e.on<i:=by have:=q6b ops.toList 0 [] A hA i o (by simpa using u) e (by simpa using he) h;omega
def kg(A:List Nat) (i j:Nat):Bool:=match nth A i with
 |some m=>Nat.testBit m j
 |none=>ξ
def Vz(hA:yq ops.toList 0 []=ι A) {L:Nat->Prop} (hL:VK ops L) {i:Nat} {o:Oper} (u:ops[i]? =ι o) (hr:∀e∈o.after,θ .any e=η->L e.on) {j:Nat} (h:kg A i j=η):L j:=by
 unfold kg at h;split at h
 ·rename_i m hm;exact q8y hA hL i o u hr m j (by rw[←ke];exact hm) h
 ·cases h
def IN(hA:yq ops.toList 0 []=ι A) {i j:Nat} (h:kg A i j=η):j<i:=by
 unfold kg at h;split at h
 ·rename_i m hm;exact qgr hA i m j (by rw[←ke];exact hm) h
 ·cases h
def kf(n:Nat) (p:Nat->Bool):Bool:=match n with
  |0=>η
  | n+1=>match p n with
    |true=>kf n p
    |false=>ξ
def yk{p:Nat->Bool}:∀{n:Nat},kf n p=η->∀i,i<n->p i=η
  |0,_,i,h=>by omega
  | n +1,h,i,hi=>by
    simp only[kf]at h;split at h
    · rename_i hp;by_cases e:i=n
      · subst e;exact hp
      · exact yk h i (by omega)
    · cases h
def q7w{p:Nat->Bool}:∀{n:Nat},(∀i,i<n->p i=η)->kf n p=η
  |0,_=>rfl
  | n+1,h=>by simp only[kf];rw[h n (Nat.lt_succ_self n)];exact q7w λi hi=>h i (by omega)
def GU(l:List Oper) (i:Nat):Option Nat:=match nth l i with
 |some o=>o.dst
 |none=>ρ
def flag(f:Oper->Bool) (l:List Oper) (i:Nat):Bool:=match nth l i with
 |some o=>f o
 |none=>ξ
def Y8:Option Nat->Nat->Bool
 |some a,b=>π a b
 |none,_=>ξ
abbrev yp:=Option (Nat×Nat)
def OL(pr:yp) (i j:Nat):Bool:=match pr with
 |some (p,q)=>π i q&&π j p
 |none=>ξ
def qfe{pr:yp} {i j:Nat} (h:OL pr i j=η):pr=ι (j,i):=by
 unfold OL at h;split at h
 ·simp only[κ]at h;rw[δ h.1,δ h.2]
 ·cases h
def VW(P:Cl) (ops:Array Oper) (A:List Nat) (pr:yp):Bool:=
  let l:=ops.toList
  let N:=l.length
  kf N λi=>match nth l i with
    |none=>ξ
    | some o=>
      (match o.dst with
       |some d=>kf N λj=>(π i j)|| !(Y8 (GU l j) d)
       |none=>η)&&
      ((slotsOf ops o).all fun τ=>kf N λj=>(π i j)|| !(Y8 (GU l j) τ)||kg A i j||kg A j i)&&
      (!(qI o)||kf i λj=> !(flag qI l j||flag (ve P) l j)||kg A i j||OL pr i j)
def Gs(l:List Oper) (i:Nat):Bool:=match nth l i with
  | some o=>match o.op with
    | .store .. =>η
    |_=>ξ
  |none=>ξ
def Gz(n:Nat) (p:Nat->Bool):Option Nat:=match n with
  |0=>ρ
  | n+1=>match p n with
    |true=>ι n
    |false=>Gz n p
def qe8(P:Cl) (ops:Array Oper) (A:List Nat):yp:=
  let l:=ops.toList
  let bad:=λi j=>flag qI l i&&(flag qI l j||flag (ve P) l j)&& !(kg A i j)
  match Gz l.length λi=>match Gz i (bad i)with|some _=>η|none=>ξ with
  | some i=>match Gz i (bad i)with
    |some j=>ι (j,i)
    |none=>ρ
  |none=>ρ
def Gj(P:Cl) (ops:Array Oper) (A:List Nat) (p q:Nat):Bool:=
 let l:=ops.toList
 Gs l p&&Gs l q&&Δ p q&&Δ q l.length&&
 kf l.length λk=>π k p||π k q|| !(flag qI l k||flag (ve P) l k||flag Qn l k)|| (kg A p k&&kg A q k)
def V5(l:List Oper) (e:Nat):Bool:=match e with
 |0=>η
 |e+1=>flag qI l e
def JR(l:List Oper):Nat->Nat
  |0=>0
  | i+1=>match flag qI l i with
    |true=>i+1
    |false=>JR l i
def other(l:List Oper) (A:List Nat) (i e:Nat):Bool:=
  V5 l e&& !(π e (JR l i))&&
  (match e with
   |0=>η
   |e+1=> !(kg A e i))&&
  kf l.length λs=>Δ s e|| !(flag qI l s)|| !(kg A i s)
def others(l:List Oper) (A:List Nat) (i:Nat):List Nat:=(Θ (l.length+1)).filter (other l A i)
def Zh:IntKind->IntKind->Bool
 | .i8, .i8| .i16, .i16| .i32, .i32| .i64, .i64| .u8, .u8| .u16, .u16| .u32, .u32| .u64, .u64=>η
 |_,_=>ξ
def JP{a b:IntKind} (h:Zh a b=η):a=b:=by cases a<;>cases b<;>first|rfl|cases h
def XT:List Nat->List Nat->Bool
  | [],[]=>η
  | a::x,b::y=>match π a b with
    |true=>XT x y
    |false=>ξ
  |_,_=>ξ
def qdx:∀{a b:List Nat},XT a b=η->a=b
  | [],[],_=>rfl
  | [],_::_,h=>by cases h
  |_::_,[],h=>by cases h
  | a::x,b::y,h=>by
    simp only[XT]at h;split at h
    · rename_i u;rw[δ u,qdx h]
    · cases h
def G':List (Int×Nat×Int×Int)->List (Int×Nat×Int×Int)->Bool
 | [],[]=>η
 | (a,b,c,d)::l,(h,u,A,B)::m=>yS a h&&(π b u&&(yS c A&&(yS d B&&G' l m)))
 |_,_=>ξ
def qao:∀{a b:List (Int×Nat×Int×Int)},G' a b=η->a=b
  | [],[],_=>rfl
  | [],_::_,h=>by cases h
  |_::_,[],h=>by cases h
  | (a,b,c,d)::l,(H,J,O,T)::m,h=>by simp only[G',κ]at h;obtain⟨u,A,B,C,G⟩:=h;rw[V0 u,δ A,V0 B,V0 C,qao G]
def Y7:AV->AV->Bool
 | .bool a, .bool b=>a==b
 | .int k a, .int j b=>Zh k j&&yS a b
 | .str a, .str b=>XT a b
 | .nilp, .nilp| .nsl, .nsl| .nmap, .nmap| .nilf, .nilf| .nili, .nili| .ifo, .ifo=>η
 | .ptr a b, .ptr c d=>π a c&&π b d
 | .sl a b c d, .sl e f g h=>π a e&&π b f&&π c g&&π d h
 | .gsl a b c d, .gsl e f g h=>π a e&&π b f&&π c g&&π d h
 | .map a, .map b=>π a b
 | .anyi k, .anyi j=>Zh k j
 | .lin k c l, .lin j d m=>Zh k j&&(yS c d&&G' l m)
 | .ifc t (.ptr a b), .ifc u (.ptr c d)=>π t u&&π a c&&π b d
 |_,_=>ξ
def IS{a b:AV} (h:Y7 a b=η):a=b:=by
 unfold Y7 at h;split at h;all_goals (try (cases h;done))
 all_goals (try rfl)
 all_goals (try simp only[κ]at h)
 ·simp at h;rw[h]
 ·rw[JP h.1];have:=h.2;rw[Gy]at this;rw[of_decide_eq_true this]
 ·rw[qdx h]
 ·rw[δ h.1,δ h.2]
 ·rw[δ h.1.1.1,δ h.1.1.2,δ h.1.2,δ h.2]
 ·rw[δ h.1.1.1,δ h.1.1.2,δ h.1.2,δ h.2]
 ·rw[δ h]
 ·rw[JP h]
 ·rw[JP h.1,V0 h.2.1,qao h.2.2]
 ·rw[δ h.1.1,δ h.1.2,δ h.2]
def W':List AV->List AV->Bool
  | [],[]=>η
  | a::x,b::y=>match Y7 a b with
    |true=>W' x y
    |false=>ξ
  |_,_=>ξ
def Iu:∀{a b:List AV},W' a b=η->a=b
  | [],[],_=>rfl
  | [],_::_,h=>by cases h
  |_::_,[],h=>by cases h
  | a::x,b::y,h=>by
    simp only[W']at h;split at h
    · rename_i u;rw[IS u,Iu h]
    · cases h
def OK:AV->AV->Bool
 | .agg x, .agg y=>W' x y
 | .tup x, .tup y=>W' x y
 |a,b=>Y7 a b
def qfc{a b:AV} (h:OK a b=η):a=b:=by
 unfold OK at h;split at h
 ·rw[Iu h]
 ·rw[Iu h]
 ·exact IS h
def xB(rs:List Rc) (u:T AO) (e:Nat):T AO:=match nth rs e with
 |some c=>c.h
 |none=>u
def qk7:Option Nat->Option Nat->Bool
 |some a,ι b=>π a b
 |none,ρ=>η
 |_,_=>ξ
def qfd{a b:Option Nat} (h:qk7 a b=η):a=b:=by cases a<;>cases b<;>first|rfl| (rw[δ h])|cases h
def cnt:Nat->(Nat->Bool)->Nat
 |0,_=>0
 |n+1,f=>cnt n f+(if f n=η then 1 else 0)
def qdw:∀n f,cnt n f<=n
 |0,_=>υ _
 |n+1,f=>by have:=qdw n f;simp only[cnt];split<;>omega
def qaj:∀n f,cnt n f=n->∀i,i<n->f i=η
  |0,_,_,i,h=>by omega
  | n +1,f,h,i,hi=>by
    have:=qdw n f;simp only[cnt]at h;split at h
    · rename_i u;by_cases e:i=n
      · subst e;exact u
      · exact qaj n f (by omega) i (by omega)
    · omega
def Ib:∀n f g,(∀j,j<n->f j=g j)->cnt n f=cnt n g
 |0,_,_,_=>rfl
 |n+1,f,g,h=>by simp only[cnt];rw[Ib n f g λj u=>h j (by omega),h n (by omega)]
def qak:∀n (f g:Nat->Bool) i,i<n->f i=ξ->g i=η->(∀j,j≠i->g j=f j)->cnt n g=cnt n f+1
  |0,_,_,i,h,_,_,_=>by omega
  | n +1,f,g,i,h,A,B,u=>by
    simp only[cnt];by_cases e:i=n
    · subst e;rw[Ib i g f λj C=>u j (by omega),A,B];simp
    · rw[qak n f g i (by omega) A B u,u n (λx=>e x.symm)];omega
def q8j{a:Act} {n d τ:Nat} {z:Value} (u:a.tmps.size=n) (hd:d<n) (h:d<jM):slot (a.put (ι d) z).tmps τ=if τ=d then z else slot a.tmps τ:=by
 unfold slot;simp only[qqj];by_cases e:τ=d
 ·subst e;rw[if_pos h,if_pos rfl,ζ,Μ (by rw[u];exact hd)];rfl
 ·rw[if_neg e];split
  ·rw[ζ,Υ (by omega),←ζ]
  ·rfl
def Gk{n d:Nat} {v:AV} {t u:T AV} (h:y4 n (ι d) v t=ι u):d<n/\d<jM/\∀τ,u.get τ=if τ=d then ι v else t.get τ:=by
 simp only[y4]at h;split at h
 ·rename_i A;split at h
  ·rename_i B;exact⟨A,B,T.get_put _ _ _ _ _ h⟩
  ·cases h
 ·cases h
def xF{a b:Nat} (h:Δ a b=η):a<b:=by simpa[qqa]using h
def y3(j:Nat):List Nat->Nat
  | []=>0
  | i::l=>match π i j with
    |true=>0
    |false=>y3 j l+1
def Zw(σ:List Nat) (e:Edge):Edge:={e with on:=y3 e.on σ}
def y5(σ:List Nat) (o:Oper):Oper:={o with after:=⟨o.after.toList.map (Zw σ)⟩,guard:=match o.guard with|some (j,b)=>ι (y3 j σ,b)|none=>ρ}
def VH(l:List Oper) (σ:List Nat):List Nat->Option (List Oper)
  | []=>ι []
  | i ::r=>match nth l i with
    | some o=>match VH l σ r with
      |some x=>ι (y5 σ o::x)
      |none=>ρ
    |none=>ρ
def jh(j:Nat):List Nat->Bool
 | []=>ξ
 |i::l=>π i j||jh j l
def WQ(n:Nat):List Edge->Bool
 | []=>η
 |e::l=>Δ e.on n&&WQ n l
def GE(l:List Oper) (σ:List Nat):Bool:=
 π σ.length l.length&&kf l.length λi=>
  (match nth σ (y3 i σ)with|some j=>π j i|none=>ξ)&&
  (match nth σ i with|some j=>Δ j l.length&&π (y3 j σ) i|none=>ξ)&&
  (match nth l i with|some o=>WQ l.length o.after.toList&&(match o.guard with|some (j,_)=>Δ j l.length|none=>η)|none=>ξ)
def q5d{l:List Oper} {σ:List Nat}:∀{r:List Nat} {x:List Oper},VH l σ r=ι x->x.length=r.length/\∀(k i:Nat),r[k]? =ι i->∃o,l[i]? =ι o/\x[k]? =ι (y5 σ o)
  | [],x,h=>by cases h;exact⟨rfl,λk i h=>by simp at h⟩
  | i ::r,x,h=>by
    simp only[VH]at h;split at h
    · rename_i o C;split at h
      · rename_i y G;cases h;obtain⟨A,B⟩:=q5d G;refine⟨by simp[A],λk j u=> ?_⟩;cases k with
        |zero=>simp at u;subst u;exact⟨o,by rw[←ke];exact C,rfl⟩
        |succ k=>simpa using B k j (by simpa using u)
      · cases h
    · cases h
structure PermR(ops ops':Array Oper) (τ:Nat->Nat):Prop where
 size:ops'.size=ops.size
 lt:∀i,i<ops.size->τ i<ops.size
 inj:∀i j,i<ops.size->j<ops.size->τ i=τ j->i=j
 sur:∀k,k<ops.size->∃i,i<ops.size/\τ i=k
 op:∀i o,ops[i]? =ι o->∃o',ops'[τ i]? =ι o'/\(∀P a w K Q,o'.wp P a w K Q=o.wp P a w K Q)/\(∀P a w,o'.asks P a w=o.asks P a w)/\o'.dst=o.dst/\
  (∀l:Array Bool,∀l':Array Bool,(∀j,j<ops.size->∀d,l'.getD (τ j) d=l.getD j d)->(o'.after.all λe=> !Region.binds .any e||l'.getD e.on ξ)=(o.after.all λe=> !Region.binds .any e||l.getD e.on ξ))/\
  (∀j b,o.guard=ι (j,b)->j<ops.size/\o'.guard=ι (τ j,b))/\(o.guard=ρ->o'.guard=ρ)
def NL{n:Nat}:∀{l:List Edge},WQ n l=η->∀e∈l,e.on<n
  | [],_,e,h=>by cases h
  | x::l,h,e,he=>by
    simp only[WQ,κ]at h;cases he with
    |head=>exact xF h.1
    |tail _ he=>exact NL h.2 e he
def qeh(σ:List Nat) (o:Oper):(∀P a w K Q,(y5 σ o).wp P a w K Q=o.wp P a w K Q)/\(∀P a w,(y5 σ o).asks P a w=o.asks P a w):=⟨λ_ _ _ _ _=>rfl,λ_ _ _=>rfl⟩
variable {ops:Array Oper}
def GM{σ:List Nat} {x:List Oper} (h:GE ops.toList σ=η) (hx:VH ops.toList σ σ=ι x):PermR ops ⟨x⟩ λi=>y3 i σ:=by
  unfold GE at h;rw[κ]at h;obtain⟨X,h⟩:=h;have Z:σ.length=ops.size:=by have:=δ X;simpa using this
  have hn:ops.toList.length=ops.size:=by simp
  rw[hn]at h;have H:=yk h;obtain⟨x1,x2⟩:=q5d hx;have key:∀i,i<ops.size->σ[y3 i σ]? =ι i:=λi hi=>by
    have:=H i hi;simp only[κ]at this;have:=this.1.1;split at this
    · rename_i j A;rw[ke]at A;rw[A,δ this]
    · cases this
  have back:∀k,k<ops.size->∃j,σ[k]? =ι j/\j<ops.size/\y3 j σ=k:=λk O=>by
    have:=H k O;simp only[κ]at this;have:=this.1.2;split at this
    · rename_i j A;simp only[κ]at this;rw[ke]at A;exact⟨j,A,xF this.1,δ this.2⟩
    · cases this
  refine⟨by simpa[x1]using Z,λi hi=> ?_,λi j hi A e=> ?_,λk O=> ?_,λi o V=> ?_⟩
  · have:=(List.getElem?_eq_some_iff.1 (key i hi)).1;omega
  · have C:=key i hi;have u:=key j A;have e:y3 i σ=y3 j σ:=e;rw[e,u]at C;cases C;rfl
  · obtain⟨j,C,u,Y⟩:=back k O;exact⟨j,u,Y⟩
  · have hi:i<ops.size:=(Array.getElem?_eq_some_iff.1 V).1;obtain⟨B,g1,g2⟩:=x2 _ _ (key i hi);have:B=o:=by have:ops.toList[i]? =ι o:=(by simpa using V);rw[this]at g1;cases g1;rfl
    subst this;have hw:=H i hi;simp only[κ]at hw;have hw:=hw.2;have U:nth ops.toList i=ι B:=(by rw[ke];simpa using V);rw[U]at hw;simp only[κ]at hw;refine⟨y5 σ B,by simpa using g2,(qeh σ B).1,(qeh σ B).2,rfl,λl l' T=> ?_,λj b J=> ?_,λJ=> ?_⟩
    · have he:=NL hw.1;have:∀es:List Edge,(∀e∈es,e.on<ops.size)->((es.map (Zw σ)).all λe=> !Region.binds .any e||l'.getD e.on ξ)=(es.all λe=> !Region.binds .any e||l.getD e.on ξ):=by
        intro es;induction es with
        |nil=>intro _;rfl
        | cons e es ih=>
          intro G;rw[List.map_cons,qqq,qqq,ih λe he=>G e (.tail _ he)];have C:(Zw σ e).on=y3 e.on σ:=rfl;have u:θ .any (Zw σ e)=θ .any e:=rfl;rw[C,u,T e.on (G e (.head _)) ξ]
      have u:=this B.after.toList (λe h=>he e h);rw[←qqf,←qqf];exact u
    · have:=hw.2;rw[J]at this;refine⟨xF this,?_⟩;unfold y5;rw[J]
    · unfold y5;rw[J]
variable {τ:Nat->Nat}
def PermR.yield{ops h:Array Oper} (p:PermR ops h τ) (tmps:Array Value) {j:Nat} (u:j<ops.size):yielded h tmps (τ j)=yielded ops tmps j:=by obtain⟨C,A,_,_,B,_⟩:=p.op j _ (γ u);unfold yielded;rw[A,γ u];simp only[Option.bind_some,B]
def K8(ops:Array Oper) (τ:Nat->Nat) (l h:Array Bool):Prop:=l.size=ops.size/\h.size=ops.size/\∀j,j<ops.size->∀d,h.getD (τ j) d=l.getD j d
def PermR.ready{ops u:Array Oper} (p:PermR ops u τ) {l A:Array Bool} (h:K8 ops τ l A) {i:Nat} (hi:i<ops.size):τ i∈ε .any u A↔i∈ε .any ops l:=by unfold ε;rw[Κ,Κ,Ν,Ν,p.size];obtain⟨G,B,_,_,_,C,_⟩:=p.op i _ (γ hi);rw[h.2.2 i hi η,B,γ hi];simp only[Ζ,Φ];rw[C l A h.2.2];simp[hi,p.lt i hi]
def WN{l:Array Bool} {i:Nat} (h:i∈ε .any ops l):i<ops.size:=by unfold ε at h;rw[Κ,Ν]at h;exact h.1
def K8.set{ops A:Array Oper} (p:PermR ops A τ) {l C:Array Bool} (h:K8 ops τ l C) {i:Nat} (hi:i<ops.size):K8 ops τ (l.setIfInBounds i η) (C.setIfInBounds (τ i) η):=by
 refine⟨by simp[h.1],by simp[h.2.1],λj B d=> ?_⟩;have e:=h.2.2 j B d;simp only[ζ,Ω]at e⊢;by_cases u:i=j
 ·subst u;have:=p.lt i hi;simp[h.1,h.2.1,hi,this]
 ·have:τ i≠τ j:=λe=>u (p.inj i j hi B e);rw[if_neg this,if_neg u];exact e
def q5e{P:Cl} {ops A:Array Oper} (p:PermR ops A τ) {Q:Exit->Act->World->Prop}:∀(fuel:Nat) (l B:Array Bool) (a:Act) (w:World),K8 ops τ l B->wpAny P .any A Q fuel B a w->wpAny P .any ops Q fuel l a w:=by
  have empty:∀l B,K8 ops τ l B->(ε .any ops l=[]↔ε .any A B=[]):=λl B h=>by
    constructor
    · intro e;rw[ν];intro k J;have u:=WN J;rw[p.size]at u;obtain⟨i,hi,rfl⟩:=p.sur k u;have:=(p.ready h hi).1 J;rw[e]at this;cases this
    · intro e;rw[ν];intro i hi;have:=(p.ready h (WN hi)).2 hi;rw[e]at this;cases this
  intro fuel;induction fuel with
  | zero=>
    intro l B a w G h;exact⟨(empty l B G).2 h.1,h.2⟩
  | succ fuel T=>
    intro l B a w G h;refine⟨λe=>h.1 ((empty l B G).1 e),λi hi=> ?_⟩;have u:=WN hi;have O:=h.2 (τ i) ((p.ready G u).2 hi);have C:=wpOp_mono (λa w=>T (l.setIfInBounds i η) (B.setIfInBounds (τ i) η) a w (G.set p u)) O;obtain⟨U,g1,g2,g3,g4,g5,g6,g7⟩:=p.op i _ (γ u);unfold wpOp at C⊢;rw[g1]at C;rw[γ u];simp only at C⊢;have hw:ς U (yielded A a.tmps)=ς ops[i] (yielded ops a.tmps):=by
      unfold ς;cases H:ops[i].guard with
      |none=>rw[g7 H]
      | some x=>
        obtain⟨j,b⟩:=x;obtain⟨V,X⟩:=g6 j b H;rw[X];simp only;rw[p.yield _ V]
    rw[hw,g2,g3,g4]at C;exact C
def IG(A:List Nat) (i:Nat):List Nat->List Nat->List Nat
  | [],done=>done
  | j::l,done=>match kg A i j&& !(jh j done)with
    |true=>IG A i l (done++[j])
    |false=>IG A i l done
def GC(A:List Nat) (l:List Oper) (all:List Nat):List Nat->List Nat->List Nat
  | [],done=>done
  | i ::r,done=>match nth l i with
    | some o=>match qI o&& !(jh i done)with
      |true=>GC A l all r (IG A i all done++[i])
      |false=>GC A l all r done
    |none=>GC A l all r done
def Ov:List Nat->List Nat->List Nat
  | [],done=>done
  | j::l,done=>match jh j done with
    |true=>Ov l done
    |false=>Ov l (done++[j])
def G2(A:List Nat) (ops:Array Oper):List Nat:=Ov (Θ ops.toList.length) (GC A ops.toList (Θ ops.toList.length) (Θ ops.toList.length) [])
def qhr(A:List Nat) (ops:Array Oper):Option (Array Oper):=
  match GE ops.toList (G2 A ops)with
  | true=>match VH ops.toList (G2 A ops) (G2 A ops)with
    |some x=>ι ⟨x⟩
    |none=>ρ
  |false=>ρ
def FX(j:Nat):List Edge->Bool
 | []=>ξ
 |e::l=>(θ .any e&&π e.on j)||FX j l
def JO(l:List Oper) (k j:Nat):Bool:=match nth l k with
 |some o=>FX j o.after.toList
 |none=>ξ
def W1:Nat->(Nat->Bool)->Bool
 |0,_=>ξ
 |n+1,p=>p n||W1 n p
def Ia:∀{n:Nat} {p:Nat->Bool},W1 n p=η->∃k,k<n/\p k=η
  | n+1,p,h=>by
    unfold W1 at h;rw[ψ]at h;rcases h with h|h
    · exact⟨n,by omega,h⟩
    · obtain⟨k,A,u⟩:=Ia h;exact⟨k,by omega,u⟩
def IB(l:List Oper) (q:Nat):Bool:=
 Δ q l.length&&
 (kf l.length (λi=>match nth l i with|some o=>WQ i o.after.toList&&(match o.guard with|some (j,_)=>Δ j i|none=>η)|none=>ξ)&&
 (kf q (λj=>W1 (q+1) λk=>Δ j k&&JO l k j)&&
 kf l.length (λi=>qqe i q||JO l i (i- 1))))
def I4{j:Nat}:∀{l:List Edge},FX j l=η->∃e∈l,θ .any e=η/\e.on=j
  | e::l,h=>by
    unfold FX at h;rw[ψ,κ]at h;rcases h with h|h
    · exact⟨e,Ρ,h.1,δ h.2⟩
    · obtain⟨e',u,A⟩:=I4 h;exact⟨e',Η _ u,A⟩
structure SpR(ops:Array Oper) (q:Nat):Prop where
 lt:q<ops.size
 back:∀i (h:i<ops.size),(∀e∈ops[i].after,e.on<i)/\∀j b,ops[i].guard=ι (j,b)->j<i
 succ:∀j,j<q->∃k,j<k/\k<=q/\∃(h:k<ops.size),∃e∈ops[k].after,θ .any e=η/\e.on=j
 next:∀i (h:i<ops.size),q<i->∃e∈ops[i].after,θ .any e=η/\e.on=i- 1
variable {ops:Array Oper}
def qdj{q:Nat} (h:IB ops.toList q=η):SpR ops q:=by
 unfold IB at h;simp only[κ]at h;obtain⟨H,J,O,T⟩:=h;have C:ops.toList.length=ops.size:=χ;have hq:q<ops.size:=by rw[←C];exact xF H
 have A:∀i (hi:i<ops.size),nth ops.toList i=ι ops[i]:=λi hi=>by rw[ke];simp[hi]
 have u:∀k j (B:k<ops.size),JO ops.toList k j=η->∃e∈ops[k].after,θ .any e=η/\e.on=j:=λk j B e=>by unfold JO at e;rw[A k B]at e;obtain⟨x,e1,e2⟩:=I4 e;exact⟨x,Array.mem_toList_iff.1 e1,e2⟩
 refine⟨hq,λi hi=> ?_,λj V=> ?_,λi hi X=> ?_⟩
 ·have:=yk J i (by rw[C];exact hi);rw[A i hi]at this;simp only[κ]at this;refine⟨λe he=>NL this.1 e (Array.mem_toList_iff.2 he),λj b U=> ?_⟩;have g:=this.2;rw[U]at g;exact xF g
 ·obtain⟨k,Y,G⟩:=Ia (yk O j V);rw[κ]at G;have B:k<ops.size:=by omega
  exact⟨k,xF G.1,by omega,B,u k j B G.2⟩
 ·have:=yk T i (by rw[C];exact hi);rw[ψ]at this;rcases this with h|h
  ·exact absurd (Β h) (by omega)
  ·exact u i (i- 1) hi h
structure Lq(ops:Array Oper) (l:Array Bool):Prop where
 size:l.size=ops.size
 down:∀i (h:i<ops.size),l.getD i η=η->∀e∈ops[i].after,θ .any e=η->l.getD e.on ξ=η
variable {l:Array Bool}
def kx{i:Nat}:i∈ε .any ops l↔∃(h:i<ops.size),l.getD i η=ξ/\∀e∈ops[i].after,θ .any e=η->l.getD e.on ξ=true:=by
 unfold ε;rw[Κ,Ν];constructor
 ·rintro⟨h,u⟩;rw[κ,qqg,γ h]at u;refine⟨h,u.1,λe he A=> ?_⟩;have:=u.2;simp only[Ζ,Φ,Τ]at this;have:=this e he;rw[A]at this;simpa using this
 ·rintro⟨h,B,u⟩;refine⟨h,?_⟩;rw[κ,qqg,γ h];refine⟨B,?_⟩;simp only[Ζ,Φ,Τ];intro e he;cases A:θ .any e with
  |false=>rfl
  |true=>rw[u e he A];rfl
def JL{i:Nat} (h:i<l.size) (a b:Bool):l.getD i a=l.getD i b:=by simp[ζ,h]
def ym{i j:Nat} (hi:i<l.size) (d:Bool):(l.setIfInBounds i η).getD j d=if j=i then η else l.getD j d:=by
 rw[ζ,Ω];by_cases h:i=j
 ·subst h;rw[if_pos rfl,if_pos hi,if_pos rfl];rfl
 ·rw[if_neg h,if_neg (λe=>h e.symm),ζ]
def Lq.set(h:Lq ops l) {i:Nat} (hi:i∈ε .any ops l):Lq ops (l.setIfInBounds i η):=by
 obtain⟨G,O,H⟩:=kx.1 hi;have hs:i<l.size:=by rw[h.size];exact G
 refine⟨by rw[φ,h.size],λk J B e he C=> ?_⟩;rw[ym hs]at B⊢;by_cases u:e.on=i
 ·rw[if_pos u]
 ·rw[if_neg u];by_cases A:k=i
  ·subst A;exact H e he C
  ·rw[if_neg A]at B;exact h.down k J B e he C
def Io{o:Oper} {P:Cl} {a:Act} {w:World} {K:Act->World->Prop} {Q A:Exit->Act->World->Prop} (h:∀e a w,e≠ .normal->A e a w->Q e a w) (u:o.wp P a w K A):o.wp P a w K Q:=by
  have lets:LetsOut A->LetsOut Q:=λ⟨a,w,B⟩=>⟨a,w,h _ _ _ (by simp) B⟩;unfold Oper.wp at*;generalize (execOp a.eval o).run P w=r at*;cases r with
  | ok n C=>
    cases n<;>simp only[Oper.upon]at u⊢<;>
      first
        |exact u
        |exact Calls.mono u (λe G he=>by cases e<;>first|exact he|exact h _ _ _ (by simp) he|exact lets he)
  |halt x C=>cases x<;>simp only[Oper.upon]at u⊢<;>first|exact h _ _ _ (by simp) u|exact u|exact lets u
def q8k{P:Cl} {ops:Array Oper} {q:Nat} (s:SpR ops q) {Q:Exit->Act->World->Prop}:∀(m k:Nat) (l:Array Bool) (fuel:Nat) (a:Act) (w:World),k+m=ops.size->q<=k->m<=fuel->Lq ops l->(∀i,i<ops.size->∀d,l.getD i d=decide (i<k))->wpOps P ops Q (qqt k m) a w->wpAny P .any ops Q fuel l a w
  | 0,k,l,fuel,a,w,H,hq,G,C,hd,h=>by
    have e:ε .any ops l=[]:=(by rw[ν];intro i hi;obtain⟨A,B,_⟩:=kx.1 hi;rw[hd i A]at B;exact absurd (of_decide_eq_false B) (by omega));cases fuel with
    |zero=>exact⟨e,h⟩
    |succ f=>exact⟨λ_=>h,λi hi=>by rw[e]at hi;cases hi⟩
  |m+1,k,l,0,a,w,H,hq,G,C,hd,h=>absurd G (by omega)
  | m + 1,k,l,f+1,a,w,H,hq,G,C,hd,h=>by
    have u:k<ops.size:=(by omega);have hr:k∈ε .any ops l:=kx.2 ⟨u,by rw[hd k u];exact decide_eq_false (by omega),λe he _=>by have:=(s.back k u).1 e he;rw[hd e.on (by omega)];exact decide_eq_true this⟩;refine⟨λe=>(by rw[e]at hr;cases hr),λi hi=> ?_⟩;obtain⟨A,B,J⟩:=kx.1 hi;rw[hd i A]at B;have T:=of_decide_eq_false B;have:i=k:=by
      by_cases e:i=k
      · exact e
      · obtain⟨x,hx,O,V⟩:=s.next i A (by omega);have:=J x hx O;rw[V,hd (i- 1) (by omega)]at this;exact absurd (of_decide_eq_true this) (by omega)
    subst this;rw[List.range'_succ,wpOps_cons]at h;refine wpOp_mono (λa w h=>q8k s m (i+1) _ f a w (by omega) (by omega) (by omega) (C.set hr) (λj U d=> ?_) h) h;rw[ym (by rw[C.size];exact A)];by_cases e:j=i
    · rw[if_pos e];exact(decide_eq_true (by omega)).symm
    · rw[if_neg e,hd j U];by_cases g:j<i
      · rw[decide_eq_true g,decide_eq_true (by omega)]
      · rw[decide_eq_false g,decide_eq_false (by omega)]
def vm(ops:Array Oper) (q:Nat):Array Oper:=⟨ops.toList.take q⟩
def FZ{q:Nat} (h:q<ops.size):(vm ops q).size=q:=by show(ops.toList.take q).length=q;rw[List.length_take,χ];omega
def Zl{q i:Nat} (h:q<ops.size) (hi:i<q):(vm ops q)[i]? =ι (ops[i]'(by omega)):=by
 unfold vm;have e:∀l:List Oper,(⟨l⟩:Array Oper)[i]? =l[i]? :=λl=>by simp
 rw[e,List.getElem?_take,if_pos hi,Λ,γ (by omega)]
def qbu{P:Cl} {ops:Array Oper} {q:Nat} (s:SpR ops q) {Q Q':Exit->Act->World->Prop} (hn:∀a w,Q' .normal a w->wpOps P ops Q (qqt q (ops.size- q)) a w) (ho:∀e a w,e≠ .normal->Q' e a w->Q e a w):∀(fuel:Nat) (l J:Array Bool) (a:Act) (w:World),Lq ops l->(∀i,q<=i->i<ops.size->∀d,l.getD i d=ξ)->J.size=q->(∀i,i<q->∀d,J.getD i d=l.getD i d)->wpAny P .any (vm ops q) Q' fuel J a w->wpAny P .any ops Q (fuel+(ops.size- q)) l a w:=by
  have hs:=FZ s.lt;have rd:∀{l J:Array Bool},(∀i,i<q->∀d,J.getD i d=l.getD i d)->∀i,i∈ε .any (vm ops q) J↔i<q/\i∈ε .any ops l:=λ{l J} u i=>by
    rw[kx,kx];constructor
    · rintro⟨O,A,V⟩;have hi:i<q:=(by rw[hs]at O;exact O);have hg:(vm ops q)[i]=ops[i]'(by have:=s.lt;omega):=by have:=Zl s.lt hi;rw[γ O]at this;exact Option.some.inj this
      rw[hg]at V;refine⟨hi,by have:=s.lt;omega,by rw[←u i hi];exact A,λe he G=> ?_⟩;have:=(s.back i (by have:=s.lt;omega)).1 e he;rw[←u e.on (by omega)];exact V e he G
    · rintro⟨hi,O,A,V⟩;have h1':i<(vm ops q).size:=(by rw[hs];exact hi);have hg:(vm ops q)[i]=ops[i]'O:=by have:=Zl s.lt hi;rw[γ h1']at this;exact Option.some.inj this
      refine⟨h1',by rw[u i hi];exact A,λe he G=> ?_⟩;rw[hg]at he;have:=(s.back i O).1 e he;rw[u e.on (by omega)];exact V e he G
  have prog :∀{l:Array Bool},Lq ops l->(∀i,i<q->l.getD i η=η)\/∃i,i<q/\i∈ε .any ops l:=λ{l} B=>by
    have step:∀m:Nat,m<=q->(∀i,i<m->l.getD i η=η)\/∃i,i<q/\i∈ε .any ops l:=λm=>by
      induction m with
      |zero=>intro _;exact .inl λi h=>absurd h (by omega)
      | succ m ih=>
        intro hm;rcases ih (by omega)with h|h
        · have hms:m<ops.size:=by have:=s.lt;omega
          cases G:l.getD m η with
          | true=>
            refine .inl λi hi=> ?_;by_cases e:i=m
            · rw[e];exact G
            · exact h i (by omega)
          | false=>
            refine .inr ⟨m,by omega,kx.2 ⟨hms,G,λe he _=> ?_⟩⟩;have:=(s.back m hms).1 e he;rw[JL (by rw[B.size];omega) ξ η];exact h e.on this
        · exact .inr h
    exact step q (υ _)
  have only:∀{l:Array Bool},Lq ops l->(∀i,q<=i->i<ops.size->∀d,l.getD i d=ξ)->∀i,q<=i->i∈ε .any ops l->∀j,j<q->l.getD j η=true:=λ{l} B U i hqi hi=>by
    obtain⟨O,A,V⟩:=kx.1 hi;have C:i=q:=by
      by_cases e:i=q
      · exact e
      · obtain⟨x,hx,G,ho'⟩:=s.next i O (by omega);have:=V x hx G;rw[ho',U (i- 1) (by omega) (by omega)]at this;cases this
    subst C;have down:∀d j,i- j<=d->j<i->l.getD j η=true:=λd=>by
      induction d with
      |zero=>intro j h4 h5;omega
      | succ d ih=>
        intro j h4 h5;obtain⟨k,k1,k2,hk,e,he,G,hon⟩:=s.succ j h5;rw[JL (by rw[B.size];omega) η ξ,←hon];by_cases hki:k=i
        · subst hki;exact V e he G
        · exact B.down k hk (ih k (by omega) (by omega)) e he G
    exactλj Z=>down i j (by omega) Z
  have fin:∀(l:Array Bool) (fuel:Nat) (a:Act) (w:World),ops.size- q<=fuel->Lq ops l->(∀i,q<=i->i<ops.size->∀d,l.getD i d=ξ)->(∀i,i<q->l.getD i η=η)->Q' .normal a w->wpAny P .any ops Q fuel l a w:=λl fuel a w hf B U hd h=>by
    refine q8k s (ops.size- q) q l fuel a w (by have:=s.lt;omega) (υ _) hf B (λi hi d=> ?_) (hn a w h);by_cases C:i<q
    · rw[decide_eq_true C,JL (by rw[B.size];exact hi) d η];exact hd i C
    · rw[decide_eq_false C];exact U i (by omega) hi d
  intro fuel;induction fuel with
  | zero=>
    intro l J a w B U X u h;refine fin l _ a w (by omega) B U ?_ h.2;rcases prog B with hd|⟨i,hi,hr⟩
    · exact hd
    · have:=(rd u i).2 ⟨hi,hr⟩;rw[h.1]at this;cases this
  | succ fuel ih=>
    intro l J a w B U X u h;rcases prog B with hd|⟨i,hi,hr⟩
    · refine fin l _ a w (by omega) B U hd (h.1 ?_);rw[ν];intro i hi;obtain⟨C,hi2⟩:=(rd u i).1 hi;obtain⟨_,A,_⟩:=kx.1 hi2;rw[hd i C]at A;cases A
    · rw [show fuel+1+(ops.size- q)=(fuel+(ops.size- q))+1 by omega];refine⟨λe=>(by rw[e]at hr;cases hr),λk hk=> ?_⟩;have H:k<q:=by
        by_cases H:k<q
        · exact H
        · obtain⟨_,A,_⟩:=kx.1 hr;rw[only B U k (by omega) hk i hi]at A;cases A
      have T:k<ops.size:=by have:=s.lt;omega
      have O:=h.2 k ((rd u k).2 ⟨H,hk⟩);have A:=wpOp_mono (λa w h=>ih (l.setIfInBounds k η) (J.setIfInBounds k η) a w (B.set hk) (λj Z hjs d=>by rw[ym (by rw[B.size];exact T),if_neg (by omega)];exact U j Z hjs d) (by rw[φ];exact X) (λj Z d=>by rw[ym (l:=J) (by rw[X];exact H),ym (l:=l) (by rw[B.size];exact T),u j Z d]) h) O;unfold wpOp at A⊢;rw[Zl s.lt H]at A;rw[γ T];simp only at A⊢;have hw:ς ops[k] (yielded (vm ops q) a.tmps)=ς ops[k] (yielded ops a.tmps):=by
        unfold ς;cases hg:ops[k].guard with
        |none=>rfl
        | some x=>
          obtain⟨j,b⟩:=x;have Z:=(s.back k T).2 j b hg;simp only;unfold yielded;rw[Zl s.lt (show j<q by omega),γ (by omega)]
      rw[hw]at A;split
      · rename_i Y;rw[if_pos Y]at A;exact A.imp (Io ho) λh=>⟨h.1,h.2.elim λa h=>h.elim λw h=>⟨a,w,ho _ _ _ (by simp) h⟩⟩
      · rename_i Y;rw[if_neg Y]at A;exact A
def G5(o:Oper) (i:Nat):Oper:={o with after:=⟨{on:=i,ground:= .data}::o.after.toList⟩}
def uE:List Oper->Nat->Nat->List Oper
  | [],_,_=>[]
  | o::l,j,i=>match j with
    |0=>G5 o i::l
    |j+1=>o::uE l j i
def vN(ops:Array Oper) (j i:Nat):Array Oper:=⟨uE ops.toList j i⟩
def q7t:∀(l:List Oper) (j i k:Nat),(uE l j i)[k]? =if k=j then(l[k]?).map (G5 · i)else l[k]?
  | [],j,i,k=>by simp[uE]
  | o::l,0,i,k=>by
    cases k with
    |zero=>simp[uE]
    |succ k=>simp[uE]
  | o ::l,j+1,i,k=>by
    cases k with
    |zero=>simp[uE]
    | succ k=>
      simp only[uE,Ε,q7t l j i k];by_cases h:k=j
      · rw[if_pos h,if_pos (by omega)]
      · rw[if_neg h,if_neg (by omega)]
def q7u:∀(l:List Oper) (j i:Nat),(uE l j i).length=l.length
 | [],j,i=>rfl
 |o::l,0,i=>rfl
 |o::l,j+1,i=>by simp[uE,q7u l j i]
def q9u(ops:Array Oper) (j i:Nat):(vN ops j i).size=ops.size:=by show(uE ops.toList j i).length=_;rw[q7u,χ]
def Gb(ops:Array Oper) (j i k:Nat):(vN ops j i)[k]? =if k=j then(ops[k]?).map (G5 · i)else ops[k]? :=by
 unfold vN;have e:∀l:List Oper,(⟨l⟩:Array Oper)[k]? =l[k]? :=λl=>by simp
 rw[e,q7t,Λ]
variable {ops:Array Oper} {l:Array Bool}
def Gg{i:Nat}:i∈ε .any ops l↔∃o,ops[i]? =ι o/\l.getD i η=ξ/\∀e∈o.after,θ .any e=η->l.getD e.on ξ=true:=by
 rw[kx];constructor
 ·rintro⟨h,u,A⟩;exact⟨ops[i],γ h,u,A⟩
 ·rintro⟨o,h,u,A⟩;obtain⟨hi,rfl⟩:=Array.getElem?_eq_some_iff.1 h;exact⟨hi,u,A⟩
def JJ{j i:Nat} {k:Nat}:k∈ε .any (vN ops j i) l↔k∈ε .any ops l/\(k=j->l.getD i ξ=η):=by
  rw[Gg,Gg];constructor
  · rintro⟨o,h,B,A⟩;rw[Gb]at h;by_cases u:k=j
    · rw [if_pos u]at h;cases H:ops[k]? with
      |none=>rw[H]at h;cases h
      | some G=>
        rw[H]at h;cases h;refine⟨⟨G,rfl,B,λe he C=>A e ?_ C⟩,λ_=>A {on:=i,ground:= .data} ?_ rfl⟩
        · show e∈(⟨_::G.after.toList⟩:Array Edge);simp;exact .inr he
        · show _∈(⟨_::G.after.toList⟩:Array Edge);simp
    · rw[if_neg u]at h;exact⟨⟨o,h,B,A⟩,λe=>absurd e u⟩
  · rintro⟨⟨o,h,B,A⟩,J⟩;rw[Gb];by_cases u:k=j
    · rw[if_pos u,h];refine⟨G5 o i,rfl,B,λe he C=> ?_⟩;have he:e∈(⟨{on:=i,ground:= .data}::o.after.toList⟩:Array Edge):=he;simp at he;rcases he with rfl|he
      · exact J u
      · exact A e he C
    · rw[if_neg u];exact⟨o,h,B,A⟩
def q6v(ops:Array Oper) (j i:Nat) (tmps:Array Value) (k:Nat):yielded (vN ops j i) tmps k=yielded ops tmps k:=by
 unfold yielded;rw[Gb];by_cases h:k=j
 ·rw[if_pos h];cases ops[k]? <;>rfl
 ·rw[if_neg h]
variable {Q:Exit->Act->World->Prop} {a:Act} {w:World}
def qc1{P:Cl} {j i:Nat} {k:Nat} {K:Act->World->Prop}:wpOp P (vN ops j i) Q k K a w↔wpOp P ops Q k K a w:=by
  have hw:∀o,ς o (yielded (vN ops j i) a.tmps)=ς o (yielded ops a.tmps):=λo=>by rw[show yielded (vN ops j i) a.tmps=yielded ops a.tmps from funext (q6v ops j i a.tmps)]
  unfold wpOp;rw[Gb];by_cases h:k=j
  · rw[if_pos h];cases ops[k]? with
    |none=>exact qqk
    | some o=>
      simp only[Ζ,hw];exact qqk
  · rw[if_neg h];cases ops[k]? with
    |none=>exact qqk
    |some o=>simp only[hw]
def qav{i k:Nat} (h:l.getD i ξ=η):(l.setIfInBounds k η).getD i ξ=true:=by
 by_cases u:k<l.size
 ·rw[ym u];split
  ·rfl
  ·exact h
 ·rw[Array.setIfInBounds_eq_of_size_le (by omega)];exact h
inductive OrdO(ops:Array Oper):Nat->Array Bool->List Nat->Prop
 |zero (l:Array Bool):OrdO ops 0 l []
 |stop {f:Nat} {l:Array Bool} (h:ε .any ops l=[]):OrdO ops (f+1) l []
 |step {f:Nat} {l:Array Bool} {k:Nat} {r:List Nat} (h:k∈ε .any ops l) (t:OrdO ops f (l.setIfInBounds k η) r):OrdO ops (f+1) l (k::r)
def qfu(ops:Array Oper):∀(f t:Nat) (l:Array Bool),OrdO ops f l (Region.linearise.go .any ops f t l []):=by
  intro f;induction f with
  |zero=>intro t l;exact .zero l
  | succ f u=>
    intro t l;simp only[Region.linearise.go];change OrdO ops (f+1) l (match(ε .any ops l)[t % (ε .any ops l).length]? with
      |some i=>Region.linearise.go .any ops f (t / (ε .any ops l).length) (l.setIfInBounds i η) [i]
      |none=>[].reverse)
    cases hi:(ε .any ops l)[t % (ε .any ops l).length]? with
    | none=>
      refine .stop ?_;cases hr:ε .any ops l with
      |nil=>rfl
      | cons x xs=>
        rw[hr]at hi;have h:t % (x::xs).length<(x::xs).length:=Nat.mod_lt _ (by simp);simp at hi;simp at h;omega
    | some i=>
      simp only[];rw[linearise_go_acc,List.reverse_singleton,List.singleton_append];exact .step (List.mem_of_getElem? hi) (u _ _)
def qc0{P:Cl}:∀{f:Nat} {l:Array Bool} {r:List Nat},OrdO ops f l r->∀{a:Act} {w:World},wpAny P .any ops Q f l a w->wpOps P ops Q r a w:=by
  intro f l r h;induction h with
  |zero l=>intro a w h;exact h.2
  |stop e=>intro a w h;exact h.1 e
  | step u t A=>
    intro a w h;rw[wpOps_cons];exact wpOp_mono (λa w h=>A h) (h.2 _ u)
def q8d{j i:Nat}:∀{f:Nat} {l:Array Bool} {r:List Nat},OrdO ops f l r->l.getD i ξ=η->OrdO (vN ops j i) f l r:=by
  intro f l r h;induction h with
  |zero l=>intro _;exact .zero l
  | stop e=>
    intro _;refine .stop ?_;rw[ν];intro k u;have:=(JJ.1 u).1;rw[e]at this;cases this
  |step u t A=>intro hi;exact .step (JJ.2 ⟨u,λ_=>hi⟩) (A (qav hi))
def qfv{ops:Array Oper} {i j:Nat} (B:i≠j):∀{f:Nat} {l:Array Bool} {r:List Nat},OrdO ops f l r->l.size=ops.size->OrdO (vN ops j i) f l r\/OrdO (vN ops i j) f l r:=by
  intro f l r h;induction h with
  |zero l=>intro _;exact .inl (.zero l)
  | stop e=>
    intro _;refine .inl (.stop ?_);rw[ν];intro k A;have:=(JJ.1 A).1;rw[e]at this;cases this
  | @step f l k r A t H=>
    intro hs;have G:k<l.size:=(by rw[hs];exact WN A);have u:(l.setIfInBounds k η).getD k ξ=true:=(by rw[ym G,if_pos rfl]);by_cases C:k=j
    · subst C;exact .inr (.step (JJ.2 ⟨A,λe=>absurd e.symm B⟩) (q8d t u))
    · by_cases hi:k=i
      · subst hi;exact .inl (.step (JJ.2 ⟨A,λe=>absurd e C⟩) (q8d t u))
      · rcases H (by rw[φ];exact hs)with h|h
        · exact .inl (.step (JJ.2 ⟨A,λe=>absurd e C⟩) h)
        · exact .inr (.step (JJ.2 ⟨A,λe=>absurd e hi⟩) h)
def F5{P:Cl} {ops:Array Oper} {j i:Nat} {Q:Exit->Act->World->Prop}:∀{r:List Nat} {a:Act} {w:World},wpOps P (vN ops j i) Q r a w↔wpOps P ops Q r a w
  | [],a,w=>qqk
  | k::r,a,w=>by
    rw[wpOps_cons,wpOps_cons,qc1];constructor
    · exact wpOp_mono λa w h=>F5.1 h
    · exact wpOp_mono λa w h=>F5.2 h
def yn(P:Cl) (ops:Array Oper) (Q:Exit->Act->World->Prop) (a:Act) (w:World):Prop:=∀r,OrdO ops ops.size (Α ops.size ξ) r->wpOps P ops Q r a w
def yn.of{P:Cl} (h:wpAny P .any ops Q ops.size (Α ops.size ξ) a w):yn P ops Q a w:=λr hr=>qc0 hr h
def yn.two{P:Cl} {i j:Nat} (B:i≠j) (u:yn P (vN ops j i) Q a w) (A:yn P (vN ops i j) Q a w):yn P ops Q a w:=λr hr=>by
 unfold yn at u A;rw[q9u]at u A;rcases qfv B hr (by simp)with h|h
 ·exact F5.1 (u r h)
 ·exact F5.1 (A r h)
def q66{P:Cl} {id:Nat} (hm:P.follows .mixedOrders=η) (h:yn P ops Q a {w with drawn:=w.drawn+1}):(Code.region id ops η).wp P Q a w:=
 wp_region_draw λt=>by simp only[Region.schedule,hm,Bool.true_or,if_true];exact h _ (qfu ops ops.size t _)
def W_(f:Nat):List Nat->Array Oper->(Array Oper->Prop)->Prop
  | [],ops,K=>K ops
  | c::l,ops,K=>match π c f with
    |true=>False
    |false=>K (vN ops c f)/\W_ f l (vN ops f c) K
def Iv{P:Cl} {Q:Exit->Act->World->Prop} {a:Act} {w:World} {f:Nat}:∀{cs:List Nat} {ops:Array Oper} {K:Array Oper->Prop},W_ f cs ops K->(∀u,K u->yn P u Q a w)->yn P ops Q a w
  | [],ops,K,e,h=>h _ e
  | c ::l,ops,K,e,h=>by
    simp only[W_]at e;split at e
    · exact e.elim
    · rename_i B;have A:f≠c:=λx=>(by subst x;simp at B);exact yn.two A (h _ e.1) (Iv e.2 h)
def OP:List Edge->List Nat->List Nat
  | [],acc=>acc
  | e::l,acc=>match θ .any e with
    |true=>e.on::OP l acc
    |false=>OP l acc
def GF(ops:List Oper):Nat->List Nat->List Nat->List Nat
  |0,_,acc=>acc
  | n + 1,todo,acc=>match todo with
    | []=>acc
    | i ::todo=>match jh i acc with
      |true=>GF ops n todo acc
      | false=>match nth ops i with
        |some o=>GF ops n (OP o.after.toList todo) (i::acc)
        |none=>GF ops n todo (i::acc)
def Cs:List Edge->List Nat->Bool
 | [],_=>η
 |e::l,acc=>(qqn (θ .any e)||jh e.on acc)&&Cs l acc
def G3(ops:List Oper) (acc:List Nat):List Nat->Option Nat
  | []=>ρ
  | i ::l=>match jh i acc with
    |true=>G3 ops acc l
    | false=>match nth ops i with
      | some o=>match Cs o.after.toList acc with
        |true=>ι i
        |false=>G3 ops acc l
      |none=>G3 ops acc l
def qi8(ops:List Oper) (h:List Nat):Nat->List Nat->List Nat->List Nat
  |0,_,r=>r
  | n+1,acc,r=>match G3 ops acc h with
    |some i=>qi8 ops h n (i::acc) (r++[i])
    |none=>r
def IT(q:Nat) (m:List Nat):List Nat->List Nat
  | []=>[]
  | i::l=>match jh i m&&qqn (π i q)with
    |true=>i::IT q m l
    |false=>IT q m l
def Of(f:Nat):List Nat->List Nat
  | []=>[f]
  | i::l=>match π i f with
    |true=>Of f l
    |false=>i::Of f l
def qkk(ops:List Oper) (q f:Nat):List Nat×Nat:=match IT q (GF ops 2000 [q] []) (Θ ops.length)with
 |fr=>(qi8 ops (Of f (Θ ops.length)) ops.length (q::fr) (fr++[q]),fr.length)
def OQ(ops:Array Oper) (q f:Nat):Option (Array Oper×Nat):=match qkk ops.toList q f with
  | (σ,m)=>match GE ops.toList σ with
    | true=>match VH ops.toList σ σ with
      |some x=>ι (⟨x⟩,m)
      |none=>ρ
    |false=>ρ
def qft{P:Cl} {ops u:Array Oper} {q f m:Nat} (e:OQ ops q f=ι (u,m)) (h:wpAny P .any u Q u.size (Α u.size ξ) a w):yn P ops Q a w:=by
 unfold OQ at e;split at e;rename_i σ m' _;split at e
 ·rename_i B;split at e
  ·rename_i x hx;cases e;have p:=GM B hx;have hs:(⟨x⟩:Array Oper).size=ops.size:=p.size;rw[hs]at h;refine yn.of (q5e p ops.size _ (Α ops.size ξ) a _ ⟨by simp,by simp,λj C d=> ?_⟩ h);have A:y3 j σ<ops.size:=p.lt j C;have e1:∀i,i<ops.size->(Α ops.size ξ).getD i d=false:=λi hi=>(by simp[ζ,hi]);exact(e1 _ A).trans (e1 j C).symm
  ·cases e
 ·cases e
def QC(m:Nat):List Edge->List Edge
  | []=>[]
  | e::l=>match qqe m e.on with
    |true=>{e with on:=e.on- m}::QC m l
    |false=>QC m l
def V9(m:Nat) (o:Oper):Oper:={o with after:=⟨QC m o.after.toList⟩,guard:=match o.guard with|some (j,b)=>ι (j- m,b)|none=>ρ}
def Uc(m:Nat):List Oper->List Oper
 | []=>[]
 |o::l=>V9 m o::Uc m l
def jV(ops:Array Oper) (m:Nat):Array Oper:=⟨Uc m (ops.toList.drop m)⟩
def Il(m:Nat):∀l,Uc m l=l.map (V9 m)
 | []=>rfl
 |o::l=>by rw[Uc,Il m l];rfl
def Gn(ops:Array Oper) (m k:Nat):(jV ops m)[k]? =(ops[m+k]?).map (V9 m):=by
 unfold jV;have e:∀l:List Oper,(⟨l⟩:Array Oper)[k]? =l[k]? :=λl=>by simp
 rw[e,Il,List.getElem?_map,List.getElem?_drop,Λ]
def qbv(ops:Array Oper) (m:Nat):(jV ops m).size=ops.size- m:=by show(Uc m (ops.toList.drop m)).length=_;rw[Il,List.length_map,List.length_drop,χ]
def Gl{m:Nat}:∀{l:List Edge} {e:Edge},e∈QC m l↔∃x∈l,m<=x.on/\e={x with on:=x.on- m}
  | [],e=>by simp[QC]
  | x ::l,e=>by
    unfold QC;split
    · rename_i h;have h:=Β h;rw[List.mem_cons,Gl];constructor
      · rintro(rfl|⟨y,u,A⟩)
        · exact⟨x,Ρ,h,rfl⟩
        · exact⟨y,Η _ u,A⟩
      · rintro⟨y,u,A,B⟩;rcases List.mem_cons.1 u with rfl|u
        · exact .inl B
        · exact .inr ⟨y,u,A,B⟩
    · rename_i h;have h:¬m<=x.on:=λg=>(by rw[Nat.ble_eq_true_of_le g]at h;cases h);rw[Gl];constructor
      · rintro⟨y,u,A⟩;exact⟨y,Η _ u,A⟩
      · rintro⟨y,u,A,B⟩;rcases List.mem_cons.1 u with rfl|u
        · exact absurd A h
        · exact⟨y,u,A,B⟩
def qgb{P:Cl} {m:Nat} (T:∀i (h:i<ops.size),m<=i->∀j b,ops[i].guard=ι (j,b)->m<=j) {Q:Exit->Act->World->Prop}:∀(g f:Nat) (l B:Array Bool) (a:Act) (w:World),g<=f->l.size=ops.size->(∀i,i<m->l.getD i η=η)->(∀k,m+k<ops.size->∀d,B.getD k d=l.getD (m+k) d)->B.size=ops.size- m->wpAny P .any (jV ops m) Q g B a w->wpAny P .any ops Q f l a w:=by
  have rd :∀{l B:Array Bool},l.size=ops.size->(∀i,i<m->l.getD i η=η)->(∀k,m+k<ops.size->∀d,B.getD k d=l.getD (m+k) d)->B.size=ops.size- m->∀i,i∈ε .any ops l↔m<=i/\(i- m)∈ε .any (jV ops m) B:=λ{l B} hs hd u A i=>by
    rw[Gg,Gg];constructor
    · rintro⟨o,h,H,G⟩;have C:i<ops.size:=(Array.getElem?_eq_some_iff.1 h).1;have hm:m<=i:=Nat.le_of_not_lt λx=>(by rw[hd i x]at H;cases H);refine⟨hm,V9 m o,by rw[Gn,show m+(i- m)=i by omega,h];rfl,by rw[u (i- m) (by omega),show m+(i- m)=i by omega];exact H,λe he O=> ?_⟩;have he:e∈(⟨QC m o.after.toList⟩:Array Edge):=he;obtain⟨x,x1,x2,rfl⟩:=Gl.1 (by simpa using he);have:=G x (by simpa using x1) O;show B.getD (x.on- m) ξ=η;by_cases hx:x.on<ops.size
      · rw[u (x.on- m) (by omega),show m+(x.on- m)=x.on by omega];exact this
      · rw[ζ,qqc (by omega)]at this;cases this
    · rintro⟨hm,o',h,H,G⟩;rw[Gn,show m+(i- m)=i by omega]at h;cases Y:ops[i]? with
      |none=>rw[Y]at h;cases h
      | some o=>
        rw[Y]at h;cases h;have C:i<ops.size:=(Array.getElem?_eq_some_iff.1 Y).1;refine⟨o,rfl,by rw[u (i- m) (by omega),show m+(i- m)=i by omega]at H;exact H,λe he O=> ?_⟩;by_cases hx:e.on<m
        · have:=hd e.on hx;rw[JL (by omega) ξ η];exact this
        · have J:({e with on:=e.on- m}:Edge)∈QC m o.after.toList:=Gl.2 ⟨e,by simpa using he,by omega,rfl⟩;have:=G {e with on:=e.on- m} (by show _∈(⟨QC m o.after.toList⟩:Array Edge);simpa using J) O;have:B.getD (e.on- m) ξ=true:=this;by_cases hx2:e.on<ops.size
          · rw[u (e.on- m) (by omega),show m+(e.on- m)=e.on by omega]at this;exact this
          · rw[ζ,qqc (by omega)]at this;cases this
  have nil:∀{l B:Array Bool},l.size=ops.size->(∀i,i<m->l.getD i η=η)->(∀k,m+k<ops.size->∀d,B.getD k d=l.getD (m+k) d)->B.size=ops.size- m->(ε .any ops l=[]↔ε .any (jV ops m) B=[]):=λ{l B} hs hd u A=>by
    rw[ν,ν];constructor
    · intro h k X;exact h (m+k) ((rd hs hd u A (m+k)).2 ⟨by omega,by rw[show m+k- m=k by omega];exact X⟩)
    · intro h i hi;exact h _ ((rd hs hd u A i).1 hi).2
  intro g;induction g with
  | zero=>
    intro f l B a w U hs hd u A h;have e:=(nil hs hd u A).2 h.1;cases f with
    |zero=>exact⟨e,h.2⟩
    |succ f=>exact⟨λ_=>h.2,λi hi=>by rw[e]at hi;cases hi⟩
  | succ g ih=>
    intro f l B a w U hs hd u A h;obtain⟨f,rfl⟩:∃n,f=n+1:=⟨f- 1,by omega⟩;refine⟨λe=>h.1 ((nil hs hd u A).1 e),λi hi=> ?_⟩;obtain⟨hm,hr⟩:=(rd hs hd u A i).1 hi;have C:i<ops.size:=WN hi;have H:=h.2 (i- m) hr;have G:=wpOp_mono (λa w h=>ih f (l.setIfInBounds i η) (B.setIfInBounds (i- m) η) a w (by omega) (by rw[φ];exact hs) (λj Z=>by rw[ym (by omega),if_neg (by omega)];exact hd j Z) (λk X d=>by
      rw[ym (l:=B) (by omega),ym (l:=l) (by omega)];by_cases e:k=i- m
      · rw[if_pos e,if_pos (by omega)]
      · rw[if_neg e,if_neg (by omega)];exact u k X d) (by rw[φ];exact A) h) H
    unfold wpOp at G⊢;rw[Gn,show m+(i- m)=i by omega,γ C]at G;rw[γ C];simp only[Ζ]at G⊢;have hy:∀j,m<=j->yielded (jV ops m) a.tmps (j- m)=yielded ops a.tmps j:=λj Z=>(by unfold yielded;rw[Gn,show m+(j- m)=j by omega];cases ops[j]? <;>rfl);have hw:ς (V9 m ops[i]) (yielded (jV ops m) a.tmps)=ς ops[i] (yielded ops a.tmps):=by
      have V:=T i C hm;unfold ς V9;cases hg:ops[i].guard with
      |none=>rfl
      | some x=>
        obtain⟨j,b⟩:=x;simp only;rw[hy j (V j b hg)]
    rw[hw]at G;exact G
structure SpX(ops:Array Oper) (q:Nat):Prop where
 lt:q<ops.size
 back:∀i (h:i<ops.size),(∀e∈ops[i].after,θ .any e=η->e.on<i)/\∀j b,ops[i].guard=ι (j,b)->j<i
 succ:∀j,j<q->∃k,j<k/\k<=q/\∃(h:k<ops.size),∃e∈ops[k].after,θ .any e=η/\e.on=j
 next:∀i (h:i<ops.size),q<i->∃e∈ops[i].after,θ .any e=η/\q<=e.on
 gd:∀i (h:i<ops.size),q+1<=i->∀j b,ops[i].guard=ι (j,b)->q+1<=j
def Gx(n:Nat):List Edge->Bool
 | []=>η
 |e::l=>(qqn (θ .any e)||Δ e.on n)&&Gx n l
def q6g{n:Nat}:∀{l:List Edge},Gx n l=η->∀e∈l,θ .any e=η->e.on<n
  | [],_,e,h,_=>by cases h
  | x ::l,h,e,he,A=>by
    simp only[Gx,κ,ψ]at h;rcases List.mem_cons.1 he with rfl|he
    · rcases h.1 with u|u
      · rw[A]at u;cases u
      · exact xF u
    · exact q6g h.2 e he A
def Hh(q:Nat):List Edge->Bool
 | []=>ξ
 |e::l=>(θ .any e&&qqe q e.on)||Hh q l
def qbg{q:Nat}:∀{l:List Edge},Hh q l=η->∃e∈l,θ .any e=η/\q<=e.on
  | e::l,h=>by
    unfold Hh at h;rw[ψ,κ]at h;rcases h with h|h
    · exact⟨e,Ρ,h.1,Β h.2⟩
    · obtain⟨e',u,A⟩:=qbg h;exact⟨e',Η _ u,A⟩
def I8(l:List Oper) (q:Nat):Bool:=
 Δ q l.length&&
 (kf l.length (λi=>match nth l i with|some o=>Gx i o.after.toList&&(match o.guard with|some (j,_)=>Δ j i|none=>η)|none=>ξ)&&
 (kf q (λj=>W1 (q+1) λk=>Δ j k&&JO l k j)&&
 kf l.length (λi=>qqe i q|| (match nth l i with|some o=>Hh q o.after.toList&&(match o.guard with|some (j,_)=>qqe (q+1) j|none=>η)|none=>ξ))))
def qbt{q:Nat} (h:I8 ops.toList q=η):SpX ops q:=by
 unfold I8 at h;simp only[κ]at h;obtain⟨O,T,U,V⟩:=h;have H:ops.toList.length=ops.size:=χ;have hq:q<ops.size:=by rw[←H];exact xF O
 have u:∀i (hi:i<ops.size),nth ops.toList i=ι ops[i]:=λi hi=>by rw[ke];simp[hi]
 have B:∀k j (C:k<ops.size),JO ops.toList k j=η->∃e∈ops[k].after,θ .any e=η/\e.on=j:=λk j C e=>by unfold JO at e;rw[u k C]at e;obtain⟨x,e1,e2⟩:=I4 e;exact⟨x,Array.mem_toList_iff.1 e1,e2⟩
 have late:∀i (hi:i<ops.size),q<i->(∃e∈ops[i].after,θ .any e=η/\q<=e.on)/\∀j b,ops[i].guard=ι (j,b)->q+1<=j:=λi hi A=>by
  have:=yk V i (by rw[H];exact hi);rw[u i hi]at this;simp only[ψ,κ]at this;rcases this with g|⟨g1,g2⟩
  ·have:=Β g;omega
  ·obtain⟨x,e1,e2⟩:=qbg g1;refine⟨⟨x,Array.mem_toList_iff.1 e1,e2⟩,λj b G=> ?_⟩;rw[G]at g2;exact Β g2
 refine⟨hq,λi hi=> ?_,λj Y=> ?_,λi hi A=>(late i hi A).1,λi hi A=>(late i hi (by omega)).2⟩
 ·have:=yk T i (by rw[H];exact hi);rw[u i hi]at this;simp only[κ]at this;refine⟨λe he X=>q6g this.1 e (Array.mem_toList_iff.2 he) X,λj b G=> ?_⟩;have g:=this.2;rw[G]at g;exact xF g
 ·have:=yk U j Y;obtain⟨k,Z,J⟩:=Ia this;rw[κ]at J;have C:k<ops.size:=by omega
  exact⟨k,xF J.1,by omega,C,B k j C J.2⟩
def q9c{P:Cl} {ops:Array Oper} {q:Nat} (s:SpX ops q) {Q Q':Exit->Act->World->Prop} (hn:∀a w,Q' .normal a w->wpOp P ops Q q (wpAny P .any (jV ops (q+1)) Q (ops.size- q- 1) (Α (ops.size- q- 1) ξ)) a w) (ho:∀e a w,e≠ .normal->Q' e a w->Q e a w):∀(fuel:Nat) (l O:Array Bool) (a:Act) (w:World),Lq ops l->(∀i,q<=i->i<ops.size->∀d,l.getD i d=ξ)->O.size=q->(∀i,i<q->∀d,O.getD i d=l.getD i d)->wpAny P .any (vm ops q) Q' fuel O a w->wpAny P .any ops Q (fuel+(ops.size- q)) l a w:=by
  have hs:=FZ s.lt;have rd:∀{l O:Array Bool},(∀i,i<q->∀d,O.getD i d=l.getD i d)->∀i,i∈ε .any (vm ops q) O↔i<q/\i∈ε .any ops l:=λ{l O} A i=>by
    rw[kx,kx];constructor
    · rintro⟨G,u,T⟩;have hi:i<q:=(by rw[hs]at G;exact G);have hg:(vm ops q)[i]=ops[i]'(by have:=s.lt;omega):=by have:=Zl s.lt hi;rw[γ G]at this;exact Option.some.inj this
      rw[hg]at T;refine⟨hi,by have:=s.lt;omega,by rw[←A i hi];exact u,λe he B=> ?_⟩;have:=(s.back i (by have:=s.lt;omega)).1 e he B;rw[←A e.on (by omega)];exact T e he B
    · rintro⟨hi,G,u,T⟩;have h1':i<(vm ops q).size:=(by rw[hs];exact hi);have hg:(vm ops q)[i]=ops[i]'G:=by have:=Zl s.lt hi;rw[γ h1']at this;exact Option.some.inj this
      refine⟨h1',by rw[A i hi];exact u,λe he B=> ?_⟩;rw[hg]at he;have:=(s.back i G).1 e he B;rw[A e.on (by omega)];exact T e he B
  have prog :∀{l:Array Bool},Lq ops l->(∀i,i<q->l.getD i η=η)\/∃i,i<q/\i∈ε .any ops l:=λ{l} C=>by
    have step:∀m:Nat,m<=q->(∀i,i<m->l.getD i η=η)\/∃i,i<q/\i∈ε .any ops l:=λm=>by
      induction m with
      |zero=>intro _;exact .inl λi h=>absurd h (by omega)
      | succ m ih=>
        intro hm;rcases ih (by omega)with h|h
        · have hms:m<ops.size:=by have:=s.lt;omega
          cases B:l.getD m η with
          | true=>
            refine .inl λi hi=> ?_;by_cases e:i=m
            · rw[e];exact B
            · exact h i (by omega)
          | false=>
            refine .inr ⟨m,by omega,kx.2 ⟨hms,B,λe he hbb=> ?_⟩⟩;have:=(s.back m hms).1 e he hbb;rw[JL (by rw[C.size];omega) ξ η];exact h e.on this
        · exact .inr h
    exact step q (υ _)
  have only:∀{l:Array Bool},Lq ops l->(∀i,q<=i->i<ops.size->∀d,l.getD i d=ξ)->∀i,q<=i->i∈ε .any ops l->∀j,j<q->l.getD j η=true:=λ{l} C J i hqi hi=>by
    obtain⟨G,u,T⟩:=kx.1 hi;have X:i=q:=by
      by_cases e:i=q
      · exact e
      · obtain⟨x,hx,B,ho'⟩:=s.next i G (by omega);have:=T x hx B;have hxi:=(s.back i G).1 x hx B;rw[J x.on ho' (by omega)]at this;cases this
    subst X;have down:∀d j,i- j<=d->j<i->l.getD j η=true:=λd=>by
      induction d with
      |zero=>intro j h4 h5;omega
      | succ d ih=>
        intro j h4 h5;obtain⟨k,k1,k2,Z,e,he,B,hon⟩:=s.succ j h5;rw[JL (by rw[C.size];omega) η ξ,←hon];by_cases hki:k=i
        · subst hki;exact T e he B
        · exact C.down k Z (ih k (by omega) (by omega)) e he B
    exactλj Y=>down i j (by omega) Y
  have fin:∀(l:Array Bool) (fuel:Nat) (a:Act) (w:World),ops.size- q<=fuel->Lq ops l->(∀i,q<=i->i<ops.size->∀d,l.getD i d=ξ)->(∀i,i<q->l.getD i η=η)->Q' .normal a w->wpAny P .any ops Q fuel l a w:=λl fuel a w hf C J hd h=>by
    obtain⟨fuel,rfl⟩:∃n,fuel=n+1:=⟨fuel- 1,by have:=s.lt;omega⟩;have hr:q∈ε .any ops l:=kx.2 ⟨s.lt,by rw[J q (υ _) s.lt],λe he B=>by have:=(s.back q s.lt).1 e he B;rw[JL (by rw[C.size];have:=s.lt;omega) ξ η];exact hd e.on this⟩;refine⟨λe=>(by rw[e]at hr;cases hr),λi hi=> ?_⟩;have:i=q:=by
      obtain⟨G,u,T⟩:=kx.1 hi;by_cases e:i=q
      · exact e
      · by_cases V:i<q
        · rw[hd i V]at u;cases u
        · obtain⟨x,hx,B,ho'⟩:=s.next i G (by omega);have:=T x hx B;have hxi:=(s.back i G).1 x hx B;rw[J x.on ho' (by omega)]at this;cases this
    subst this;have V:=s.lt;refine wpOp_mono (λa w h=>qgb s.gd (ops.size- i- 1) fuel (l.setIfInBounds i η) (Α (ops.size- i- 1) ξ) a w (by omega) (by rw[φ];exact C.size) (λj Y=> ?_) (λk Z d=> ?_) (by simp;omega) h) (hn a w h)
    · rw[ym (by rw[C.size];exact V)];by_cases e:j=i
      · rw[if_pos e]
      · rw[if_neg e];exact hd j (by omega)
    · rw[ym (by rw[C.size];exact V),if_neg (by omega),J (i+1+k) (by omega) Z];simp[ζ,show k<ops.size- i- 1 by omega]
  intro fuel;induction fuel with
  | zero=>
    intro l O a w C J hs' A h;refine fin l _ a w (by omega) C J ?_ h.2;rcases prog C with hd|⟨i,hi,hr⟩
    · exact hd
    · have:=(rd A i).2 ⟨hi,hr⟩;rw[h.1]at this;cases this
  | succ fuel ih=>
    intro l O a w C J hs' A h;rcases prog C with hd|⟨i,hi,hr⟩
    · refine fin l _ a w (by omega) C J hd (h.1 ?_);rw[ν];intro i hi;obtain⟨X,hi2⟩:=(rd A i).1 hi;obtain⟨_,u,_⟩:=kx.1 hi2;rw[hd i X]at u;cases u
    · rw [show fuel+1+(ops.size- q)=(fuel+(ops.size- q))+1 by omega];refine⟨λe=>(by rw[e]at hr;cases hr),λk Z=> ?_⟩;have H:k<q:=by
        by_cases H:k<q
        · exact H
        · obtain⟨_,u,_⟩:=kx.1 hr;rw[only C J k (by omega) Z i hi]at u;cases u
      have U:k<ops.size:=by have:=s.lt;omega
      have G:=h.2 k ((rd A k).2 ⟨H,Z⟩);have u:=wpOp_mono (λa w h=>ih (l.setIfInBounds k η) (O.setIfInBounds k η) a w (C.set Z) (λj Y hjs d=>by rw[ym (by rw[C.size];exact U),if_neg (by omega)];exact J j Y hjs d) (by rw[φ];exact hs') (λj Y d=>by rw[ym (l:=O) (by rw[hs'];exact H),ym (l:=l) (by rw[C.size];exact U),A j Y d]) h) G;unfold wpOp at u⊢;rw[Zl s.lt H]at u;rw[γ U];simp only at u⊢;have hw:ς ops[k] (yielded (vm ops q) a.tmps)=ς ops[k] (yielded ops a.tmps):=by
        unfold ς;cases hg:ops[k].guard with
        |none=>rfl
        | some x=>
          obtain⟨j,b⟩:=x;have Y:=(s.back k U).2 j b hg;simp only;unfold yielded;rw[Zl s.lt (show j<q by omega),γ (by omega)]
      rw[hw]at u;split
      · rename_i hwt;rw[if_pos hwt]at u;exact u.imp (Io ho) λh=>⟨h.1,h.2.elim λa h=>h.elim λw h=>⟨a,w,ho _ _ _ (by simp) h⟩⟩
      · rename_i hwt;rw[if_neg hwt]at u;exact u
section
variable {P:Cl} {n:Nat} {ops:Array Oper} {A:List Nat} {pr:yp} {rs:List Rc} {Tt:Nat->T AV} {H:Nat->T AO} {X:Nat->Nat}
def Qs{f:Oper->Bool} {i:Nat} {o:Oper} (h:ops[i]? =ι o):flag f ops.toList i=f o:=by
 have:nth ops.toList i=ι o:=by rw[ke];simpa using h
 unfold flag;rw[this]
end
end
end Go.Proofs.YtniogjgfomaicaaGreat.Eng
