/-
  The machine with unknown values: questions reckoned out of the code. No condition but what its theorems ask.
-/
import Derived.Test.YtniogjgfomaicaaGreatU1
import Derived.Laws.AppendOwn
import Derived.Lib.UnsafeStr
namespace Go.Proofs.YtniogjgfomaicaaGreat.Eng
open Go.RowKit
set_option linter.defProp false
set_option linter.unusedVariables false
set_option linter.unusedSimpArgs false
variable {gl:T AV}
noncomputable section
def S_(h:T AO) (id off:Nat) (x:List AV):Option (T AO):=
 match h.get id with
 |some (.cells e (some fz) g l)=>if fz<=off/\off+x.length<=l.length/\x.all atom=true then T.put 64 id (some (.cells e (some fz) g (spl l off x))) h else none
 |_=>none
variable {F:Bool->Nat->Prop} {I:In} {w:World}
def q9n{P:O7} {h h':T AO} (hs:Sim F I h w) {id off b s t:Nat} {x:List AV} {us:List Value} (e:S_ h id off x=some h') (hi:I id=some (b,s,t)) (hx:VRs I x us) (nx:Nat):
    ∃A,(storeCells ⟨b,s+off,none⟩ us).run P w= .ok () A/\Grow F I nx w I nx h' A:=by
  unfold S_ at e;split at e
  · rename_i el fz g l H;split at e
    · rename_i hc;obtain⟨c1,c2,O⟩:=hc;obtain⟨ob,hb,ho⟩:=hs.obj _ _ _ _ H hi;cases ho with
      | @cells _ _ _ _ _ pre vs rest fr N G hp J C u=>
        rcases u with u|⟨u,_⟩;case inr=>cases u
        have u:=u.symm;subst u;have hxl:=hx.len;have hvl:=N.len;simp only at hp J C;have hlen:(vs++rest).length=t:=J;rw[List.length_append]at hlen;obtain⟨A,U,V,X,Y,Z⟩:=FA (P:=P) (o:=s+off) us 0 (pre++(vs++rest)) w hb (by simp only[List.length_append];omega) (λj a1 a2=>by have:=C fz rfl (j- s) (by omega) (by omega);rw[show s+(j- s)=j by omega]at this;exact this) (FC hx O);refine⟨A,U,hs.upd H rfl hi e V ?_ X Y Z nx⟩;rw[Nat.add_zero,←hp,FZ us pre (vs++rest) off,Sl us vs rest off (by omega)];exact .cells (t:=(pre.length,t)) (S0 hx off N) G rfl (by simp only[List.length_append,q73];omega) (by rw[hp];exact C) (.inl rfl)
    · cases e
  · cases e
def qcz(P:O7) (F:Bool->Nat->Prop) (I:In) (nx:Nat) (w:World) (s:Sem Next) (v:AV) (h':T AO) (h:Nat):Prop:=
 ∃n z u A,s.run P w= .ok n A/\(n= .value z\/n= .skip/\z=undef)/\VR u v z/\Grow F I nx w u h h' A
def yL:AV:= .tup []
def Zc(I:In):VR I yL undef:= .tup .nil
def S9(P:O7) (h:T AO) (t:TypeId) (id off:Nat) (a:AV):Option (T AO):=
 let x:=Jv a
 match P.info? t with
 |some i=>if x.length=i.size then S_ h id off x else none
 |none=>none
def q9j{P:O7} {h h':T AO} (hs:Sim F I h w) {t:TypeId} {id off b s k:Nat} {a:AV} {v:Value} (e:S9 P h t id off a=some h') (hi:I id=some (b,s,k)) (N:VR I a v) (nx:Nat):
  ∃u,(storeVar t ⟨b,s+off,none⟩ v).run P w= .ok () u/\Grow F I nx w I nx h' u:=by
 unfold S9 at e;simp only at e;split at e
 ·rename_i i A;split at e
  ·rename_i O;have G:=FD N;obtain⟨u,H,J⟩:=q9n (P:=P) hs e hi G nx;have C:v.cells.size=i.size:=(by rw[←Array.length_toList,←G.len];exact O);exact⟨u,by simp[storeVar,run_sizeOf A,C,H,Result.andThen],J⟩
  ·cases e
 ·cases e
def FW(P:O7) (h:T AO) (t:TypeId) (id:Nat) (k v:AV):Option (T AO):=none
def q86{P:O7} {h h':T AO} (hs:Sim F I h w) {t:TypeId} {id b:Nat} {n:Nat×Nat} {k v:AV} {u z:Value} (e:FW P h t id k v=some h') (hi:I id=some (b,n)) (C:VR I k u) (G:VR I v z) (nx:Nat):
  ∃A,(Instr.mapUpdate t (.map (some b)) u z).run P w= .ok () A/\Grow F I nx w I nx h' A:=by unfold FW at e;cases e
def qdo{α:Type}:∀(xs l:List α) (k:Nat),k+xs.length<=l.length->spl l k xs=l.take k++xs++l.drop (k+xs.length)
  | [],l,k,h=>by simp[spl]
  | x::xs,l,k,h=>by simp only[List.length_cons]at h;rw[spl,qdo xs (l.set k x) (k+1) (by rw[List.length_set];omega)];have u:k<l.length:=(by omega);rw[List.take_succ_eq_append_getElem (by rw[List.length_set];exact u),List.getElem_set_self,List.take_set_of_le (Nat.le_refl _),List.drop_set_of_lt (by omega)];simp only[List.length_cons,List.append_assoc,List.cons_append,List.nil_append];congr 4;omega
variable {F:Bool->Nat->Prop} {w:World}
def q9f{P:O7} {I:In} {h:T AO} (hs:Sim F I h w) {id off n b s t o:Nat} {l:List AV} (e:Zn h id off n=some l) (hi:I id=some (b,s,t)) (C:o=s+off\/n=0):
  ∃u:List Value,VRs I l u/\u.length=n/\∀A:World,A.heap=w.heap->(loadCells ⟨b,o,none⟩ n).run P A= .ok ⟨u⟩ A:=by
 obtain⟨u,N,G,V,c,J,fr,U,O⟩:=qe3 hs e hi;refine⟨u,N,G,λA hw=> ?_⟩;have:=sZ (P:=P) (w:=A) (b:=b) (o:=o) (c:=c) (e:=J) (fr:=fr) (by rw[hw];exact U) u (λj v H=>by
  rcases C with C|C
  ·subst C;exact O j v H
  ·have:=(List.getElem?_eq_some_iff.1 H).1;omega)
 rw[G]at this;exact this
def Wt(P:O7):List TypeId->Bool
  | _::t::_=>match P.underlying t with
    |some (.slice _)|some .string=>true
    |_=>false
  |_=>false
def sS{P:O7} {t0 t1:TypeId} (h:Wt P [t0,t1]=true):(∃e,P.underlying t1=some (.slice e))\/P.underlying t1=some .string:=by
 simp only[Wt]at h;split at h
 ·rename_i e u;exact .inl ⟨e,u⟩
 ·rename_i u;exact .inr u
 ·cases h
variable {i:TypeInfo} {base:Option Addr} {v:Value}
def Se{P:O7} {t0 t1 ty e:TypeId} {sLen sCap n:Nat} {us:List Value} (A:P.underlying t0=some (.slice e)) (C:Wt P [t0,t1]=true) (hi:P.info? e=some i)
  (u:(Builtin.lenOf v).run P w= .ok n w) (h:(Builtin.firstCells i.size n v).run P w= .ok ⟨us⟩ w) (hr:sLen+n<=sCap):
  (Builtin.append_ ⟨[t0,t1]⟩ ty ⟨[.slice base sLen sCap,v]⟩).run P w=(match base with|some a=>(storeCells (a.add (sLen*i.size)) us).run P w|none=> .ok () w).andThen (λ_ w=> .ok (.slice base (sLen+n) sCap) w):=by
 simp only[Builtin.append_,List.getElem?_toArray,List.getElem?_cons_zero,List.getElem?_cons_succ,Sem.run_bind,run_underlying A,Result.andThen,run_sizeOf hi];rcases sS C with⟨G,hu⟩|hu
 ·simp[run_underlying hu,Result.andThen,u,hr,h];cases base<;>simp[Result.andThen]
 ·simp[run_underlying hu,Result.andThen,u,hr,h];cases base<;>simp[Result.andThen]
def q6s{P:O7} {t0 t1 ty e:TypeId} {z:Value} {sLen sCap n:Nat} {us os:List Value} (Y:P.underlying t0=some (.slice e)) (hz:Wt P [t0,t1]=true) (hi:P.info? e=some i) (U:i.zero=some z)
  (X:(Builtin.lenOf v).run P w= .ok n w) (Z:∀A:World,A.heap=w.heap->(Builtin.firstCells i.size n v).run P A= .ok ⟨us⟩ A) (ho:∀A:World,A.heap=w.heap->(Builtin.firstCells i.size sLen (.slice base sLen sCap)).run P A= .ok ⟨os⟩ A) (hr:¬sLen+n<=sCap) (hb:0<i.bytes) (C:(sLen+n)*i.bytes<=140737488355328):
  (Builtin.append_ ⟨[t0,t1]⟩ ty ⟨[.slice base sLen sCap,v]⟩).run P w= .ok (.slice (some ⟨w.heap.size,0,none⟩) (sLen+n) (grownCap w (sLen+n) sCap e)) (w.drew.alloc (.cells (⟨os⟩++(⟨us⟩++Builtin.zeroCells z.cells (grownCap w (sLen+n) sCap e- (sLen+n)))) e)):=by
 have J:¬i.bytes=0:=by omega
 have V:=growslice_fits (bytes:=i.bytes) (Nat.lt_of_not_le hr) C;have O:(typeInfo e).run P w= .ok i w:=by simp[typeInfo,program,Sem.run,hi,bind,Sem.bind,pure]
 have u:(typeInfo e).run P w.drew= .ok i w.drew:=by simp[typeInfo,program,Sem.run,hi,bind,Sem.bind,pure]
 have T:(zeroValue e).run P w.drew= .ok z w.drew:=by simp[zeroValue,typeInfo,program,Sem.run,hi,bind,Sem.bind,pure,U]
 have H:¬Builtin.nextslicecap (sLen+n) sCap*i.bytes>2 ^ 48:=by omega
 have h:∀k,(askRoom k).run P w.drew= .ok () w.drew:=λk=>by unfold askRoom;split<;>rfl
 have N:=ho w.drew rfl;have G:=Z w.drew rfl;simp only[Builtin.append_,List.getElem?_toArray,List.getElem?_cons_zero,List.getElem?_cons_succ,Sem.run_bind,run_underlying Y,Result.andThen,run_sizeOf hi];rcases sS hz with⟨e',hu⟩|hu
 ·simp[run_underlying hu,Result.andThen,X,hr,O,u,J,H,Question.forced,h,N,G,T,newRow,newObj,Sem.run,grownCap];rfl
 ·simp[run_underlying hu,Result.andThen,X,hr,O,u,J,H,Question.forced,h,N,G,T,newRow,newObj,Sem.run,grownCap];rfl
def FV(P:O7) (h:T AO) (nx:Nat) (ts:List TypeId) (d x:AV):Option (AV×T AO×Nat):=none
def Sim.push'{F I h w} (s:Sim F I h w) {nx t o h'} (hi:I nx=none) (u:∀b,F true b->b<w.heap.size) (hp:T.put 64 nx (some o) h=some h') {ob:Obj} (A:OR (ext I nx (w.heap.size,t)) t o ob):
  Grow F I nx w (ext I nx (w.heap.size,t)) (nx+1) h' (w.drew.alloc ob):=s.push hi u hp rfl A ⟨rfl,rfl,rfl⟩
def Sim.drop{F I h w} (s:Sim F I h w) {id A} (hp:T.put 64 id none h=some A):Sim F I A w:=by
 have C:=T.get_put _ _ _ _ _ hp;have sub:∀k o,A.get k=some o->h.get k=some o:=λk o u=>by
  rw[C]at u;split at u
  ·cases u
  ·exact u
 exact⟨λk o b t a c=>s.obj k o b t (sub _ _ a) c,λk G o H b t J a c=>s.inj k G o H b t J (sub _ _ a) (sub _ _ c),λk o b t a c=>s.fr k o b t (sub _ _ a) c⟩
def qbb{P:O7} {e:TypeId} {z:List AV} (hi:P.info? e=some i) (h:xh P e=some z):∃u,i.zero=some u/\u.cells.size=z.length:=by
 unfold xh at h;rw[hi]at h;simp only at h;split at h
 ·rename_i u A;exact⟨u,A,by rw[←Array.length_toList,←(ofVals_rel (λ_=>none) _ _ h).len]⟩
 ·cases h
def q84{P:O7} {I:In} {h h':T AO} (hs:Sim F I h w) (J:∀b,F true b->b<w.heap.size) {nx A:Nat} {ts:List TypeId} {ty:TypeId} {d x r:AV} {u v:Value} (e:FV P h nx ts d x=some (r,h',A)) (H:∀i,nx<=i->i<A->I i=none) (hd:VR I d u) (hx:VR I x v):
  ∃z C G,(Builtin.append_ ⟨ts⟩ ty ⟨[u,v]⟩).run P w= .ok z G/\VR C r z/\Grow F I nx w C A h' G:=by unfold FV at e;cases e
def Sn(P:O7) (h:T AO) (t:TypeId) (id:Nat) (k:AV):Option (AV×T AO):=none
variable {F:Bool->Nat->Prop} {w:World}
def q5q{P:O7} {I:In} {h h':T AO} (hs:Sim F I h w) {t:TypeId} {id b:Nat} {n:Nat×Nat} {k r:AV} {u:Value} (e:Sn P h t id k=some (r,h')) (hi:I id=some (b,n)) (C:VR I k u) (nx:Nat):
  ∃z A,(Instr.mapEntry t (.map (some b)) u).run P w= .ok z A/\VR I r z/\Grow F I nx w I nx h' A:=by unfold Sn at e;cases e
def Sd(h:T AO) (id:Nat) (s v:AV):Option (T AO):=none
def q4e{P:O7} {I:In} {h h':T AO} (hs:Sim F I h w) {t:TypeId} {id b:Nat} {n:Nat×Nat} {s v:AV} {u z:Value} (e:Sd h id s v=some h') (hi:I id=some (b,n)) (C:VR I s u) (G:VR I v z) (nx:Nat):
  ∃A,(Instr.entryStore t (.map (some b)) u z).run P w= .ok () A/\Grow F I nx w I nx h' A:=by unfold Sd at e;cases e
def Ny(P:O7) (h:T AO) (ts:List TypeId) (l:List AV):Option (AV×T AO):=none
variable {F:Bool->Nat->Prop} {w:World}
def qbr{P:O7} {I:In} {h h':T AO} (hs:Sim F I h w) {ts:List TypeId} {ty:TypeId} {l:List AV} {vs:List Value} {r:AV} (e:Ny P h ts l=some (r,h')) (A:VRs I l vs) (nx:Nat):
  ∃z u,(Builtin.unsafeString_ ⟨ts⟩ ty ⟨vs⟩).run P w= .ok z u/\VR I r z/\Grow F I nx w I nx h' u:=by unfold Ny at e;cases e
def Nx(P:O7) (h:T AO) (s:TypeId) (a:AV):Option (AV×T AO):=none
def qbp{P:O7} {I:In} {h h':T AO} (hs:Sim F I h w) {s:TypeId} {a r:AV} {u:Value} (e:Nx P h s a=some (r,h')) (C:VR I a u) (nx:Nat):
  ∃z A,(convert s s u).run P w= .ok z A/\VR I r z/\Grow F I nx w I nx h' A:=by unfold Nx at e;cases e
def Wm(P:O7) (h:T AO) (nx:Nat) (ts:List TypeId) (d x:AV):Option (AV×T AO×Nat):=none
variable {ts:List TypeId}
def q6k{P:O7} {h h':T AO} {nx u:Nat} {d x r:AV} (e:Wm P h nx ts d x=some (r,h',u)):nx<=u:=by
 unfold Wm at e;repeat' split at e
 all_goals (try (cases e;done))
 all_goals (simp only[Option.some.injEq,Prod.mk.injEq]at e;omega)
variable {F:Bool->Nat->Prop} {I:In} {w:World}
def q6l{P:O7} {h h':T AO} (hs:Sim F I h w) (J:∀b,F true b->b<w.heap.size) {nx A:Nat} {ts:List TypeId} {ty:TypeId} {d x r:AV} {u v:Value} (e:Wm P h nx ts d x=some (r,h',A)) (H:∀i,nx<=i->i<A->I i=none) (hd:VR I d u) (hx:VR I x v):
  ∃z C G,(Builtin.append_ ⟨ts⟩ ty ⟨[u,v]⟩).run P w= .ok z G/\VR C r z/\Grow F I nx w C A h' G:=by unfold Wm at e;cases e
def Wl(P:O7) (h:T AO) (nx:Nat) (ts:List TypeId) (d x:AV):Option (AV×T AO×Nat):=
 match FV P h nx ts d x with
 |some r=>some r
 |none=>Wm P h nx ts d x
def sU{P:O7} {h h':T AO} {nx u:Nat} {d x r:AV} (e:Wl P h nx ts d x=some (r,h',u)):nx<=u:=by
 unfold Wl at e;split at e
 ·rename_i q hq;cases e;unfold FV at hq;repeat' split at hq
  all_goals (try (cases hq;done))
  all_goals (simp only[Option.some.injEq,Prod.mk.injEq]at hq;omega)
 ·exact q6k e
def q6j{P:O7} {h h':T AO} (hs:Sim F I h w) (H:∀b,F true b->b<w.heap.size) {nx A:Nat} {ts:List TypeId} {ty:TypeId} {d x r:AV} {u v:Value} (e:Wl P h nx ts d x=some (r,h',A)) (C:∀i,nx<=i->i<A->I i=none) (hd:VR I d u) (hx:VR I x v):
  ∃z G J,(Builtin.append_ ⟨ts⟩ ty ⟨[u,v]⟩).run P w= .ok z J/\VR G r z/\Grow F I nx w G A h' J:=by
 unfold Wl at e;split at e
 ·rename_i q hq;cases e;exact q84 hs H hq C hd hx
 ·exact q6l hs H e C hd hx
def Nv(P:O7) (h:T AO) (ts:List TypeId) (d x:AV):Option (AV×T AO):=none
def qbm{P:O7} {h h':T AO} (hs:Sim F I h w) {ts:List TypeId} {ty:TypeId} {d x r:AV} {u v:Value} (e:Nv P h ts d x=some (r,h')) (hd:VR I d u) (hx:VR I x v) (nx:Nat):
  ∃z A,(Builtin.copy_ ⟨ts⟩ ty ⟨[u,v]⟩).run P w= .ok z A/\VR I r z/\Grow F I nx w I nx h' A:=by unfold Nv at e;cases e
def uy (P:O7) (t:T AV) (h:T AO) (nx:Nat) (o:Oper):Option (AV×T AO×Nat):=
  match o.op with
  | .store ty x y=>match ev t x,ev t y with
    |some (.ptr id off),some a=>(match S9 P h ty id off a with|some h'=>some (yL,h',nx)|none=>none)
    |_,_=>none
  | .mapUpdate ty m k x| .insert ty m k x=>match ev t m,ev t k,ev t x with
    |some (.map id),some a,some b=>(match FW P h ty id a b with|some h'=>some (yL,h',nx)|none=>none)
    |_,_,_=>none
  | .mapEntry ty m k=>match ev t m,ev t k with
    |some (.map id),some a=>(match Sn P h ty id a with|some (v,h')=>some (v,h',nx)|none=>none)
    |_,_=>none
  | .entryStore ty m s x=>match ev t m,ev t s,ev t x with
    |some (.map id),some a,some b=>(match Sd h id a b with|some h'=>some (yL,h',nx)|none=>none)
    |_,_,_=>none
  | .convert s d x=>match Nat.beq s d with
    | true=>match ev t x with
      |some a=>(match Nx P h s a with|some (v,h')=>some (v,h',nx)|none=>none)
      |none=>none
    |false=>none
  | .call c=>match c.callee with
    | .builtin .append=>match kA t c.args.toList with
      |some [d,x]=>Wl P h nx c.argTypes.toList d x
      |_=>none
    | .builtin .copy=>match kA t c.args.toList with
      | some [d,x]=>match Nv P h c.argTypes.toList d x with
        |some (v,h')=>some (v,h',nx)
        |none=>none
      |_=>none
    | .builtin .unsafeString=>match kA t c.args.toList with
      | some l=>match Ny P h c.argTypes.toList l with
        |some (v,h')=>some (v,h',nx)
        |none=>none
      |none=>none
    |_=>none
  |_=>none
def WU{a b:AV} {vs:List Value} (h:VRs I [a,b] vs):∃v u,vs=[v,u]/\VR I a v/\VR I b u:=by cases h with|cons h t=>obtain⟨u,rfl,A⟩:=ux t;exact⟨_,_,rfl,h,A⟩
def qdn{P:O7} {t:T AV} {h h':T AO} {a:Act} {o:Oper} {nx G:Nat} {r:AV} (e:uy P t h nx o=some (r,h',G)) (O:TR I t a.tmps) (hs:Sim F I h w) (hF:∀b,F true b->b<w.heap.size) (hfr:∀i,nx<=i->i<G->I i=none):
    nx<=G/\qcz P F I nx w (execOp a.eval o) r h' G:=by
  obtain⟨dst,op,ty,pos,after,guard⟩:=o;have U:∀(lt:TypeId) (m k x:Operand),(match ev t m,ev t k,ev t x with
    |some (.map id),some a,some b=>(match FW P h lt id a b with|some h'=>some (yL,h',nx)|none=>none)
    |_,_,_=>none)=some (r,h',G)->nx<=G/\qcz P F I nx w (do Instr.mapUpdate lt (a.eval m) (a.eval k) (a.eval x);pure Next.skip) r h' G:=λlt m k x e=>by
    split at e
    · rename_i hm hk hx;split at e
      · rename_i Y hp;cases e;have J:=qn O hm;generalize V:a.eval m=v at J;cases J with
        | map Z=>
          obtain⟨N,C,H⟩:=q86 (P:=P) hs hp Z (qn O hk) (qn O hx) nx;exact⟨Nat.le_refl _,_,_,I,N,by simp[C,Result.andThen], .inr ⟨rfl,rfl⟩,Zc I,H⟩
      · cases e
    · cases e
  cases op with
  | store st x y=>
    simp only[uy]at e;split at e
    · rename_i id off v hx hy;split at e
      · rename_i Y hp;cases e;have J:=qn O hx;generalize V:a.eval x=xv at J;cases J with
        | ptr Z=>
          obtain⟨N,C,H⟩:=q9j (P:=P) hs hp Z (qn O hy) nx;exact⟨Nat.le_refl _,_,_,I,N,by simp[execOp,Instr.storeAt,V,Instr.sureAddr,C,Result.andThen], .inr ⟨rfl,rfl⟩,Zc I,H⟩
      · cases e
    · cases e
  |mapUpdate mt m k x=>exact U mt m k x e
  |insert mt m k x=>exact U mt m k x e
  | mapEntry mt m k=>
    simp only[uy]at e;split at e
    · rename_i id v hm hk;split at e
      · rename_i v2 Y hp;cases e;have J:=qn O hm;generalize V:a.eval m=mv at J;cases J with
        | map Z=>
          obtain⟨z,N,C,H,X⟩:=q5q (P:=P) hs hp Z (qn O hk) nx;exact⟨Nat.le_refl _,_,z,I,N,by simp[execOp,V,C,Result.andThen], .inl rfl,H,X⟩
      · cases e
    · cases e
  | entryStore mt m s x=>
    simp only[uy]at e;split at e
    · rename_i id v1 v2 hm hk hx;split at e
      · rename_i Y hp;cases e;have J:=qn O hm;generalize V:a.eval m=mv at J;cases J with
        | map Z=>
          obtain⟨N,C,H⟩:=q4e (P:=P) (t:=mt) hs hp Z (qn O hk) (qn O hx) nx;exact⟨Nat.le_refl _,_,_,I,N,by simp[execOp,V,C,Result.andThen], .inr ⟨rfl,rfl⟩,Zc I,H⟩
      · cases e
    · cases e
  | convert s d x=>
    simp only[uy]at e;split at e
    · rename_i hsd;have:=Nat.eq_of_beq_eq_true hsd;subst this;split at e
      · rename_i av hx;split at e
        · rename_i v0 Y hp;cases e;obtain⟨z,N,C,H,X⟩:=qbp (P:=P) hs hp (qn O hx) nx;exact⟨Nat.le_refl _,_,z,I,N,by simp[execOp,C,Result.andThen], .inl rfl,H,X⟩
        · cases e
      · cases e
    · cases e
  | call c=>
    simp only[uy]at e;split at e
    · rename_i hb;split at e
      · rename_i d x A;have hr:=vm O A;obtain⟨v,u,V,J,Y⟩:=WU hr;have hnx:nx<=G:=sU e;obtain⟨z,I',N,C,H,X⟩:=q6j (P:=P) (ty:=ty) hs hF e hfr J Y;refine⟨hnx,_,z,I',N,?_, .inl rfl,H,X⟩;have e2:c.args.map a.eval=⟨[v,u]⟩:=(by apply Array.toList_inj.1;simpa using V);simp only[execOp,resolve,hb,Sem.run_bind,Sem.run_pure,Result.andThen,invoke,builtin];rw[e2];simp[C]
      · cases e
    · rename_i hb;split at e
      · rename_i d x A;split at e
        · rename_i v0 Y hp;cases e;have hr:=vm O A;obtain⟨v,u,V,J,h3⟩:=WU hr;obtain⟨z,N,C,H,X⟩:=qbm (P:=P) (ty:=ty) hs hp J h3 nx;refine⟨Nat.le_refl _,_,z,I,N,?_, .inl rfl,H,X⟩;have e2:c.args.map a.eval=⟨[v,u]⟩:=(by apply Array.toList_inj.1;simpa using V);have e3:(⟨c.argTypes.toList⟩:Array TypeId)=c.argTypes:=rfl;rw[e3]at C;simp only[execOp,resolve,hb,Sem.run_bind,Sem.run_pure,Result.andThen,invoke,builtin];rw[e2];simp[C,Result.andThen]
        · cases e
      · cases e
    · rename_i hb;split at e
      · rename_i l A;split at e
        · rename_i v0 Y hp;cases e;obtain⟨z,N,C,H,X⟩:=qbr (P:=P) (ty:=ty) hs hp (vm O A) nx;refine⟨Nat.le_refl _,_,z,I,N,?_, .inl rfl,H,X⟩;have e2:(⟨c.args.toList.map a.eval⟩:Array Value)=c.args.map a.eval:=(by apply Array.toList_inj.1;simp);rw[e2]at C;have e3:(⟨c.argTypes.toList⟩:Array TypeId)=c.argTypes:=rfl;rw[e3]at C;simp only[execOp,resolve,hb,Sem.run_bind,Sem.run_pure,Result.andThen,invoke,builtin];simp[C,Result.andThen]
        · cases e
      · cases e
    · cases e
  |_=>simp[uy]at e
def Z4(gl:T AV) (I:In):Prop:=∀n a,gl.get n=some a->jE<=n/\VR I a (.pointer (some ⟨n- jE,0,none⟩))
def Z4.mono{I J:In} (u:I.le J) (h:Z4 gl I):Z4 gl J:=λn a e=>⟨(h n a e).1,(h n a e).2.mono u⟩
structure St(gl:T AV) (F:Bool->Nat->Prop) (I:In) (t:T AV) (h:T AO) (n:Nat) (a:Act) (w:World):Prop where
 tr:TR I t a.tmps
 size:a.tmps.size=n
 defers:a.defers=[]
 sim:Sim F I h w
 low:∀b,F true b->b<w.heap.size
 gok:Z4 gl I
 zf:∀b,F false b->F true b
def vn(I:In) (nx h:Nat):Prop:=∀i,nx<=i->i<h->I i=none
def yP(n:Nat) (dst:Option Tmp) (v:AV) (t:T AV):Option (T AV):=
 match dst with
 |none=>some t
 |some d=>if d<n then(if d<jE then T.put 64 d (some v) t else none)else none
def SY {I:In} {n:Nat} {dst:Option Tmp} {v:AV} {t N:T AV} {a:Act} {z:Value} (e:yP n dst v t=some N) (J:TR I t a.tmps) (H:a.tmps.size=n) (U:VR I v z):TR I N (a.put dst z).tmps/\(a.put dst z).tmps.size=n/\(a.put dst z).defers=a.defers:=by
  unfold yP at e;cases dst with
  |none=>cases e;exact⟨J,H,rfl⟩
  | some d=>
    simp only at e;split at e
    · rename_i hd;split at e
      · rename_i G;have O:=T.get_put _ _ _ _ _ e;refine⟨λk b C=> ?_,by simp[Act.put,H],rfl⟩;rw[O]at C;simp only[Act.put];split at C
        · rename_i A;subst A;cases C;have:(a.tmps.setIfInBounds k z).getD k undef=z:=(by rw[Array.getD_eq_getD_getElem?,Array.getElem?_setIfInBounds_self_of_lt (by rw[H];exact hd)];rfl);rw[Zd G,this];exact U
        · rename_i A;have u:=J k b C;unfold slot at u⊢;split
          · rename_i h;rw[if_pos h]at u;have:(a.tmps.setIfInBounds d z).getD k undef=a.tmps.getD k undef:=(by rw[Array.getD_eq_getD_getElem?,Array.getElem?_setIfInBounds_ne (by omega),←Array.getD_eq_getD_getElem?]);rw[this];exact u
          · rename_i h;rw[if_neg h]at u;exact u
      · cases e
    · cases e
def Wp(t:T AV) (o:Oper):Option (Nat×List AV):=
  match o.op with
  | .call c=>match c.callee with
    | .value f=>match ev t f,kA t c.args.toList with
      |some (.fn g h),some l=>some (g,l++h)
      |some (.bfn g first h),some l=>some (g,first++(l++h))
      |_,_=>none
    |_=>none
  |_=>none
def sX{P:O7} {I:In} {t:T AV} {o:Oper} {a:Act} {g:Nat} {l:List AV} (e:Wp t o=some (g,l)) (C:TR I t a.tmps):∃vs,VRs I l vs/\∀w,(execOp a.eval o).run P w=(callFunc g ⟨vs⟩).run P w:=by
  obtain⟨dst,op,ty,pos,after,guard⟩:=o;cases op with
  | call c=>
    simp only[Wp]at e;split at e
    · rename_i f U;split at e
      · rename_i g u X G H;cases e;have A:=qn C G;have O:=vm C H;generalize N:a.eval f=V at A;cases A with
        | @fn _ _ cs h=>
          refine⟨c.args.toList.map a.eval++cs,O.append h,λw=> ?_⟩;simp only[execOp,resolve,U,N,Deferred.ofValue,Sem.run_bind,Sem.run_pure,Result.andThen,invoke];congr 2;apply Array.toList_inj.1;simp
      · rename_i g first u X G H
        cases e;have A:=qn C G;have O:=vm C H;generalize N:a.eval f=V at A;cases A with
        | @bfn _ _ _ fs cs J h=>
          refine⟨fs++(c.args.toList.map a.eval++cs),J.append (O.append h),λw=> ?_⟩;simp only[execOp,resolve,U,N,Deferred.ofValue,Sem.run_bind,Sem.run_pure,Result.andThen,invoke];congr 2;apply Array.toList_inj.1;simp
      · cases e
    · cases e
  |_=>simp[Wp]at e
def keep(h:T AO) (nx:Nat):Option AV->Option (AV×T AO×Nat)
 |some v=>some (v,h,nx)
 |none=>none
def first(a b:Option (AV×T AO×Nat)):Option (AV×T AO×Nat):=
 match a with
 |some r=>some r
 |none=>b
def qhu(gl:T AV) (P:O7) (t:T AV) (h:T AO) (nx:Nat) (o:Oper) (r:AV) (h':T AO) (u:Nat):Prop:=
 nx<=u/\∀(F:Bool->Nat->Prop) (I:In) (n:Nat) (a:Act) (w:World),St gl F I t h n a w->vn I nx u->∀(K:Act->World->Prop) (Q:Exit->Act->World->Prop),
  (∀z A C,VR A r z->Grow F I nx w A u h' C->K (a.put o.dst z) C)->o.wp P a w K Q
def qjc {P:O7} {t:T AV} {h:T AO} {nx:Nat} {o:Oper} {r:AV} {h':T AO} {u:Nat} (e:uy P t h nx o=some (r,h',u)):qhu gl P t h nx o r h' u:=by
 have hle:nx<=u/\True:=by
  obtain⟨dst,op,ty,pos,after,guard⟩:=o;refine⟨?_,trivial⟩;unfold uy at e;simp only at e;split at e;all_goals (try (cases e;done))
  case h_6=>
   split at e
   ·split at e
    ·split at e
     ·cases e;exact Nat.le_refl _
     ·cases e
    ·cases e
   ·cases e
  case h_7=>
   split at e
   ·split at e
    ·exact sU e
    ·cases e
   ·split at e
    ·split at e
     ·cases e;exact Nat.le_refl _
     ·cases e
    ·cases e
   ·split at e
    ·split at e
     ·cases e;exact Nat.le_refl _
     ·cases e
    ·cases e
   ·cases e
  all_goals
   split at e
   ·split at e
    ·cases e;exact Nat.le_refl _
    ·cases e
   ·cases e
 refine⟨hle.1,λF I n a w st fr K Q H=> ?_⟩;obtain⟨_,U,z,A,J,N,O,C,G⟩:=qdn e st.tr st.sim st.low fr;unfold Oper.wp;rw[N];rcases O with rfl|⟨rfl,rfl⟩
 ·exact H z A J C G
 ·exact H undef A J C G
def Act.put_size(a:Act) (d:Option Tmp) (v:Value):(a.put d v).tmps.size=a.tmps.size:=by cases d<;>simp[Act.put]
inductive AX where
 |nrm
 |ex (id:Nat)
 |rt
def AX.is:AX->Exit->Prop
 | .nrm, .normal=>True
 | .ex i, .exit j=>i=j
 | .rt, .ret=>True
 |_,_=>False
def uq(P:O7) (t:T AV) (h:T AO):List ResultVar->Option (List AV)
  | []=>some []
  | .tmp k::l=>match(if k<jE then t.get k else none)with
    | some v=>match uq P t h l with
      |some r=>some (v::r)
      |none=>none
    |none=>none
  | .cell k ty::l=>match(if k<jE then t.get k else none)with
    | some (.ptr id off)=>match Gf P h ty id off with
      | some v=>match uq P t h l with
        |some r=>some (v::r)
        |none=>none
      |none=>none
    |_=>none
def WG:List AV->AV
 | [v]=>v
 |l=> .tup l
def tp{α β:Type} {P:O7} {w:World} (f:α->Sem β):∀(l:List α) (r:List β),All2 (λx y=>(f x).run P w= .ok y w) l r->(l.mapM f).run P w= .ok r w
  | [],r,h=>by cases h;simp
  | x::l,r,h=>by
    cases h with
    |cons u A=>simp[u,tp f l _ A,Result.andThen]
variable {w:World}
def q8e{α β:Type} {P:O7} (f:α->Sem β) (l:Array α) (r:List β) (h:All2 (λx y=>(f x).run P w= .ok y w) l.toList r):(l.mapM f).run P w= .ok ⟨r⟩ w:=by rw[Array.mapM_eq_mapM_toList];simp[tp f l.toList r h,Result.andThen]
def Sf{P:O7} {F:Bool->Nat->Prop} {I:In} {t:T AV} {h:T AO} {n:Nat} {a:Act} {w:World} (st:St gl F I t h n a w):∀(l:List ResultVar) (r:List AV),uq P t h l=some r->∃vs,VRs I r vs/\All2 (λ(x:ResultVar) y=>((match x with| .tmp t=>pure (a.tmps.getD t undef)| .cell k t=>do loadVar t (←asAddr (a.tmps.getD k undef))):Sem Value).run P w= .ok y w) l vs
  | [],r,e=>by simp[uq]at e;subst e;exact⟨[], .nil, .nil⟩
  | .tmp k::l,r,e=>by
    simp only[uq]at e;split at e
    · rename_i v C;split at e
      · rename_i N hr;cases e;obtain⟨vs,G,H⟩:=Sf st l N hr;split at C;case isFalse=>cases C
        rename_i u;have A:=st.tr k v C;rw[Zd u]at A;exact⟨_, .cons A G, .cons rfl H⟩
      · cases e
    · cases e
  | .cell k ty::l,r,e=>by
    simp only[uq]at e;split at e
    · rename_i id off J;split at e
      · rename_i v C;split at e
        · rename_i N hr;cases e;obtain⟨vs,G,H⟩:=Sf st l N hr;split at J;case isFalse=>cases J
          rename_i u;have A:=st.tr k _ J;rw[Zd u]at A;generalize X:a.tmps.getD k undef=z at A;cases A with
          | ptr V=>
            obtain⟨y,O,U⟩:=tI (P:=P) st.sim C V;refine⟨_, .cons U G, .cons ?_ H⟩;simp[X,asAddr,O,Result.andThen]
        · cases e
      · cases e
    · cases e
def sW{P:O7} {F:Bool->Nat->Prop} {I:In} {t:T AV} {h:T AO} {n:Nat} {a:Act} (st:St gl F I t h n a w) {fn:Func} {r:List AV} (e:uq P t h fn.results.toList=some r):∃v,(results fn a.tmps).run P w= .ok v w/\VR I (WG r) v:=by
  obtain⟨vs,u,A⟩:=Sf st _ _ e;have C:=q8e _ _ _ A;refine⟨if h:(⟨vs⟩:Array Value).size=1 then(⟨vs⟩:Array Value)[0]else .tuple ⟨vs⟩,?_,?_⟩
  · unfold results;rw[Sem.run_bind];have G:=congrArg (λr=>Result.andThen r λ(vs:Array Value) w=>Sem.run P (pure (if h:vs.size=1 then vs[0]else .tuple vs)) w) C;exact G
  · cases u with
    |nil=>exact .tup .nil
    | cons a b=>
      cases b with
      |nil=>exact a
      |cons c d=>exact .tup (.cons a (.cons c d))
def VM:List AV->Nat->T AV->Option (T AV)
  | [],_,t=>some t
  | a::l,k,t=>match T.put 64 k (some a) t with
    |some h=>VM l (k+1) h
    |none=>none
def Su:∀(l:List AV) (k:Nat) (t u:T AV),VM l k t=some u->∀j,u.get j=if j<k then t.get j else if j<k+l.length then l[j- k]? else t.get j
  | [],k,t,u,e,j=>by simp[VM]at e;subst e;simp;intros;omega
  | a :: l, k,t,u,e,j=>by
    simp only[VM]at e;split at e
    · rename_i t1 G;rw[Su l (k+1) t1 u e j,T.get_put _ _ _ _ _ G];simp only[List.length_cons];by_cases h:j<k
      · rw[if_pos (by omega),if_neg (by omega),if_pos h]
      · rw [if_neg h];by_cases A:j=k
        · subst A;simp
        · rw[if_neg (by omega)];by_cases C:j<k+(l.length+1)
          · rw[if_pos (by omega),if_pos C];obtain⟨m,hm⟩:∃m,j- k=m+1:=⟨j- k- 1,by omega⟩;rw[hm,List.getElem?_cons_succ];congr 1;omega
          · rw[if_neg (by omega),if_neg C,if_neg A]
    · cases e
inductive Kd where
 |q|r|a|s
 deriving DecidableEq
def qH(o:Oper):Bool:=match o.op with
  | .store .. | .mapUpdate .. | .insert .. | .mapEntry .. | .entryStore .. =>true
  | .convert s d _=>Nat.beq s d
  | .call c=>match c.callee with
    | .builtin .append=>true
    | .builtin .copy=>true
    | .builtin .unsafeString=>true
    | .builtin _=>false
    |_=>true
  |_=>false
def kX(P:O7) (o:Oper):Bool:=match o.op with
  | .alloc _| .box .. | .buildSlice .. | .makeMap .. | .makeSlice .. =>true
  | .convert _ d _=>match P.underlying d with
    |some (.slice _)=>true
    |_=>false
  |_=>false
def Qc(o:Oper):Bool:=match o.op with
  | .load .. | .lookup .. | .convert .. =>true
  | .call c=>match c.callee with
    | .builtin .len=>true
    |_=>false
  |_=>false
def slotsOf(ops:Array Oper) (o:Oper):List Nat:=
  (o.op.operands.toList.filterMap λ| .tmp t=>some t| .global g=>some (jE+g)|_=>none)++
  (match o.guard with
   | some (g,_)=>match nth ops.toList g with
     | some h=>match h.dst with
       |some d=>[d]
       |none=>[]
     |none=>[]
   |none=>[])
def Qn(t:T AV):List Nat->T AV->Option (T AV)
  | [],acc=>some acc
  | n ::l,acc=>match t.get n with
    | some a=>match T.put 64 n (some a) acc with
      |some h=>Qn t l h
      |none=>none
    |none=>Qn t l acc
def SJ{t:T AV}:∀{l:List Nat} {acc r:T AV},Qn t l acc=some r->∀n a,r.get n=some a->acc.get n=some a\/n∈l/\t.get n=some a
  | [],acc,r,e,n,a,h=>by simp[Qn]at e;subst e;exact .inl h
  | m ::l,acc,r,e,n,a,h=>by
    simp only[Qn]at e;split at e
    · rename_i b G;split at e
      · rename_i C hp;rcases SJ e n a h with u|⟨u,A⟩
        · rw[T.get_put _ _ _ _ _ hp]at u;split at u
          · rename_i H;subst H;cases u;exact .inr ⟨by simp,G⟩
          · exact .inl u
        · exact .inr ⟨by simp[u],A⟩
      · cases e
    · rcases SJ e n a h with u|⟨u,A⟩
      · exact .inl u
      · exact .inr ⟨by simp[u],A⟩
structure Rc where
 o:Oper
 w:Bool
 k:Kd
 t:T AV
 v:AV
 ob:Option AO
 nx:Nat
 h:T AO
def Zm(acc:List Nat) (i:Nat):List Edge->Nat->Option Nat
  | [],m=>some m
  | e ::l,m=>match Region.binds .any e with
    | true=>match Nat.blt e.on i with
      | true=>match nth acc e.on with
        |some k=>Zm acc i l (Nat.lor m (Nat.lor (Nat.pow 2 e.on) k))
        |none=>none
      |false=>none
    |false=>Zm acc i l m
def vT:List Oper->Nat->List Nat->Option (List Nat)
  | [],_,acc=>some acc
  | o::l,i,acc=>match Zm acc i o.after.toList 0 with
    |some m=>vT l (i+1) (acc++[m])
    |none=>none
def SS (acc:List Nat) (i:Nat):∀(l:List Edge) (m r:Nat),Zm acc i l m=some r->∀j,r.testBit j=true->m.testBit j=true\/∃e∈l,Region.binds .any e=true/\e.on<i/\(j=e.on\/∃k,acc[e.on]? =some k/\k.testBit j=true)
  | [],m,r,h,j,G=>by simp[Zm]at h;subst h;exact .inl G
  | e :: l, m,r,h,j,G=>by
    simp only[Zm]at h;split at h
    · rename_i N;split at h
      · rename_i C;split at h
        · rename_i k O;rcases SS acc i l _ r h j G with u|⟨H,u,J⟩
          · have A:(m||| (2 ^ e.on|||k)).testBit j=true:=u;rw[Nat.testBit_or,Nat.testBit_or,Bool.or_eq_true,Bool.or_eq_true]at A;rcases A with u|u|u
            · exact .inl u
            · refine .inr ⟨e,by simp,N,by simpa[Nat.blt_eq]using C, .inl ?_⟩;rw[Nat.testBit_two_pow]at u;simpa using(of_decide_eq_true u).symm
            · exact .inr ⟨e,by simp,N,by simpa[Nat.blt_eq]using C, .inr ⟨k,by rw[←jY];exact O,u⟩⟩
          · exact .inr ⟨H,by simp[u],J⟩
        · cases h
      · cases h
    · rcases SS acc i l m r h j G with u|⟨H,u,J⟩
      · exact .inl u
      · exact .inr ⟨H,by simp[u],J⟩
def Vr:∀(l:List Oper) (i:Nat) (acc A:List Nat),acc.length=i->vT l i acc=some A->A.length=i+l.length/\(∀k,k<i->A[k]? =acc[k]?)/\
    ∀k o,l[k]? =some o->∃m,A[i+k]? =some m/\∀j,m.testBit j=true->∃e∈o.after.toList,Region.binds .any e=true/\e.on<i+k/\(j=e.on\/∃q,A[e.on]? =some q/\q.testBit j=true)
  | [],i,acc,A,G,h=>by simp[vT]at h;subst h;exact⟨by simp[G],λk _=>rfl,λk o h=>by simp at h⟩
  | o ::l,i,acc,A,G,h=>by
    simp only[vT]at h;split at h
    · rename_i m hm;obtain⟨V,U,X⟩:=Vr l (i+1) (acc++[m]) A (by simp[G]) h;have pre:∀k,k<i->A[k]? =acc[k]? :=λk C=>(by rw[U k (by omega),List.getElem?_append_left (by omega)]);refine⟨by rw[V];simp;omega,pre,λk Z C=> ?_⟩;cases k with
      | zero=>
        simp at C;subst C;refine⟨m,by rw[Nat.add_zero,U i (by omega),List.getElem?_append_right (by omega)];simp[G],λj O=> ?_⟩;rcases SS _ _ _ _ _ hm j O with H|⟨e,he,N,u,J⟩
        · simp at H
        · refine⟨e,he,N,by omega,J.imp (λh=>h) λ⟨q,hq,T⟩=>⟨q,by rw[pre _ u];exact hq,T⟩⟩
      | succ k=>
        obtain⟨m',H,J⟩:=X k Z (by simpa using C);refine⟨m',by rw[show i+(k+1)=i+1+k by omega];exact H,λj O=> ?_⟩;obtain⟨e,he,N,u,Y⟩:=J j O;exact⟨e,he,N,by omega,Y⟩
    · cases h
def Vx(ops:Array Oper) (L:Nat->Prop):Prop:=∀i o,ops[i]? =some o->L i->∀e∈o.after,Region.binds .any e=true->L e.on
variable {ops:Array Oper} {A:List Nat}
def q8a(hA:vT ops.toList 0 []=some A) {L:Nat->Prop} (hL:Vx ops L):∀(i:Nat) (o:Oper),ops[i]? =some o->(∀e∈o.after,Region.binds .any e=true->L e.on)->∀m j,A[i]? =some m->m.testBit j=true->L j:=by
  have hlen:=(Vr ops.toList 0 [] A rfl hA).1;have O:=(Vr ops.toList 0 [] A rfl hA).2.2;intro i;induction i using Nat.strongRecOn with
  | _ i ih=>
    intro o Z hr m j hm X;obtain⟨m',H,T⟩:=O i o (by simpa using Z);rw[Nat.zero_add]at H;rw[hm]at H;cases H;obtain⟨e,he,V,Y,U⟩:=T j X;have J:e∈o.after:=(by simpa using he);have h:=hr e J V;rcases U with rfl|⟨q,hq,N⟩
    · exact h
    · have u:e.on<ops.size:=by have:=(List.getElem?_eq_some_iff.1 hq).1;rw[hlen]at this;simpa using this
      obtain⟨G,C⟩:∃G,ops[e.on]? =some G:=⟨_,Array.getElem?_eq_getElem u⟩;exact ih e.on (by omega) G C (hL e.on G C h) q j hq N
def qfy(hA:vT ops.toList 0 []=some A):∀(i:Nat) (m j:Nat),A[i]? =some m->m.testBit j=true->j<i:=by
  have hlen:=(Vr ops.toList 0 [] A rfl hA).1;have C:=(Vr ops.toList 0 [] A rfl hA).2.2;intro i;induction i using Nat.strongRecOn with
  | _ i O=>
    intro m j hm J;have hi:i<ops.toList.length:=by have:=(List.getElem?_eq_some_iff.1 hm).1;rw[hlen]at this;omega
    obtain⟨m',h,G⟩:=C i _ (List.getElem?_eq_getElem hi);rw[Nat.zero_add]at h;rw[hm]at h;cases h;obtain⟨e,he,T,N,H⟩:=G j J;rcases H with rfl|⟨q,hq,u⟩
    · omega
    · have:=O e.on (by omega) q j hq u;omega
def So(acc:List Nat) (i:Nat):∀(l:List Edge) (m r:Nat),Zm acc i l m=some r->∀e∈l,Region.binds .any e=true->e.on<i
  | [],m,r,h,e,he=>by cases he
  | e0 :: l,m,r,h,e,he=>by
    intro A;simp only[Zm]at h;split at h
    · rename_i u;split at h
      · rename_i C;split at h
        · cases he with
          |head=>simpa[Nat.blt_eq]using C
          |tail _ he=>exact So acc i l _ r h e he A
        · cases h
      · cases h
    · rename_i u;cases he with
      |head=>rw[A]at u;cases u
      |tail _ he=>exact So acc i l m r h e he A
def td:∀(l:List Oper) (i:Nat) (acc A:List Nat),vT l i acc=some A->∀k o,l[k]? =some o->∀e∈o.after.toList,Region.binds .any e=true->e.on<i+k
  | [],i,acc,A,h,k,o,u=>by simp at u
  | G::l,i,acc,A,h,k,o,u=>by
    simp only[vT]at h;split at h
    · rename_i m hm;cases k with
      | zero=>
        simp at u;subst u
        exactλe he C=>So _ _ _ _ _ hm e he C
      | succ k=>
        intro e he C;have:=td l (i+1) _ A h k o (by simpa using u) e he C;omega
    · cases h
def qel(hA:vT ops.toList 0 []=some A) {i:Nat} {o:Oper} (u:ops[i]? =some o) {e:Edge} (he:e∈o.after) (h:Region.binds .any e=true):e.on<i:=by have:=td ops.toList 0 [] A hA i o (by simpa using u) e (by simpa using he) h;omega
def j0(A:List Nat) (i j:Nat):Bool:=match nth A i with
 |some m=>Nat.testBit m j
 |none=>false
def Vn(hA:vT ops.toList 0 []=some A) {L:Nat->Prop} (hL:Vx ops L) {i:Nat} {o:Oper} (u:ops[i]? =some o) (hr:∀e∈o.after,Region.binds .any e=true->L e.on) {j:Nat} (h:j0 A i j=true):L j:=by
 unfold j0 at h;split at h
 ·rename_i m hm;exact q8a hA hL i o u hr m j (by rw[←jY];exact hm) h
 ·cases h
def Na(hA:vT ops.toList 0 []=some A) {i j:Nat} (h:j0 A i j=true):j<i:=by
 unfold j0 at h;split at h
 ·rename_i m hm;exact qfy hA i m j (by rw[←jY];exact hm) h
 ·cases h
def jZ(n:Nat) (p:Nat->Bool):Bool:=match n with
  |0=>true
  | n+1=>match p n with
    |true=>jZ n p
    |false=>false
def vP{p:Nat->Bool}:∀{n:Nat},jZ n p=true->∀i,i<n->p i=true
  |0,_,i,h=>by omega
  | n +1,h,i,hi=>by
    simp only[jZ]at h;split at h
    · rename_i hp;by_cases e:i=n
      · subst e;exact hp
      · exact vP h i (by omega)
    · cases h
def tH{p:Nat->Bool}:∀{n:Nat},(∀i,i<n->p i=true)->jZ n p=true
  |0,_=>rfl
  | n+1,h=>by simp only[jZ];rw[h n (Nat.lt_succ_self n)];exact tH λi hi=>h i (by omega)
def Gj(l:List Oper) (i:Nat):Option Nat:=match nth l i with
 |some o=>o.dst
 |none=>none
def flag(f:Oper->Bool) (l:List Oper) (i:Nat):Bool:=match nth l i with
 |some o=>f o
 |none=>false
def YV:Option Nat->Nat->Bool
 |some a,b=>Nat.beq a b
 |none,_=>false
abbrev vS:=Option (Nat×Nat)
def N6(pr:vS) (i j:Nat):Bool:=match pr with
 |some (p,q)=>Nat.beq i q&&Nat.beq j p
 |none=>false
def qeo{pr:vS} {i j:Nat} (h:N6 pr i j=true):pr=some (j,i):=by
 unfold N6 at h;split at h
 ·simp only[Bool.and_eq_true]at h;rw[Nat.eq_of_beq_eq_true h.1,Nat.eq_of_beq_eq_true h.2]
 ·cases h
def VH(P:O7) (ops:Array Oper) (A:List Nat) (pr:vS):Bool:=
  let l:=ops.toList
  let N:=l.length
  jZ N λi=>match nth l i with
    |none=>false
    | some o=>
      (match o.dst with
       |some d=>jZ N λj=>(Nat.beq i j)|| !(YV (Gj l j) d)
       |none=>true)&&
      ((slotsOf ops o).all fun τ=>jZ N λj=>(Nat.beq i j)|| !(YV (Gj l j) τ)||j0 A i j||j0 A j i)&&
      (!(qH o)||jZ i λj=> !(flag qH l j||flag (kX P) l j)||j0 A i j||N6 pr i j)
def FX(l:List Oper) (i:Nat):Bool:=match nth l i with
  | some o=>match o.op with
    | .store .. =>true
    |_=>false
  |none=>false
def F8(n:Nat) (p:Nat->Bool):Option Nat:=match n with
  |0=>none
  | n+1=>match p n with
    |true=>some n
    |false=>F8 n p
def qdg(P:O7) (ops:Array Oper) (A:List Nat):vS:=
  let l:=ops.toList
  let bad:=λi j=>flag qH l i&&(flag qH l j||flag (kX P) l j)&& !(j0 A i j)
  match F8 l.length λi=>match F8 i (bad i)with|some _=>true|none=>false with
  | some i=>match F8 i (bad i)with
    |some j=>some (j,i)
    |none=>none
  |none=>none
def FP(P:O7) (ops:Array Oper) (A:List Nat) (p q:Nat):Bool:=
 let l:=ops.toList
 FX l p&&FX l q&&Nat.blt p q&&Nat.blt q l.length&&
 jZ l.length λk=>Nat.beq k p||Nat.beq k q|| !(flag qH l k||flag (kX P) l k||flag Qc l k)|| (j0 A p k&&j0 A q k)
def VP(l:List Oper) (e:Nat):Bool:=match e with
 |0=>true
 |e+1=>flag qH l e
def JA(l:List Oper):Nat->Nat
  |0=>0
  | i+1=>match flag qH l i with
    |true=>i+1
    |false=>JA l i
def other(l:List Oper) (A:List Nat) (i e:Nat):Bool:=
  VP l e&& !(Nat.beq e (JA l i))&&
  (match e with
   |0=>true
   |e+1=> !(j0 A e i))&&
  jZ l.length λs=>Nat.blt s e|| !(flag qH l s)|| !(j0 A i s)
def others(l:List Oper) (A:List Nat) (i:Nat):List Nat:=(List.range (l.length+1)).filter (other l A i)
def Q8:IntKind->IntKind->Bool
 | .i8, .i8| .i16, .i16| .i32, .i32| .i64, .i64| .u8, .u8| .u16, .u16| .u32, .u32| .u64, .u64=>true
 |_,_=>false
def Jy{a b:IntKind} (h:Q8 a b=true):a=b:=by cases a<;>cases b<;>first|rfl|cases h
def Xw:List Nat->List Nat->Bool
  | [],[]=>true
  | a::x,b::y=>match Nat.beq a b with
    |true=>Xw x y
    |false=>false
  |_,_=>false
def qd4:∀{a b:List Nat},Xw a b=true->a=b
  | [],[],_=>rfl
  | [],_::_,h=>by cases h
  |_::_,[],h=>by cases h
  | a::x,b::y,h=>by
    simp only[Xw]at h;split at h
    · rename_i u;rw[Nat.eq_of_beq_eq_true u,qd4 h]
    · cases h
def GB:List (Int×Nat×Int×Int)->List (Int×Nat×Int×Int)->Bool
 | [],[]=>true
 | (a,b,c,d)::l,(h,u,A,C)::m=>yF a h&&(Nat.beq b u&&(yF c A&&(yF d C&&GB l m)))
 |_,_=>false
def q9z:∀{a b:List (Int×Nat×Int×Int)},GB a b=true->a=b
  | [],[],_=>rfl
  | [],_::_,h=>by cases h
  |_::_,[],h=>by cases h
  | (a,b,c,d)::l,(J,N,O,T)::m,h=>by simp only[GB,Bool.and_eq_true]at h;obtain⟨u,A,C,G,H⟩:=h;rw[VL u,Nat.eq_of_beq_eq_true A,VL C,VL G,q9z H]
def YU:AV->AV->Bool
 | .bool a, .bool b=>a==b
 | .int k a, .int j b=>Q8 k j&&yF a b
 | .str a, .str b=>Xw a b
 | .nilp, .nilp| .nsl, .nsl| .nmap, .nmap| .nilf, .nilf| .nili, .nili| .ifo, .ifo=>true
 | .ptr a b, .ptr c d=>Nat.beq a c&&Nat.beq b d
 | .sl a b c d, .sl e f g h=>Nat.beq a e&&Nat.beq b f&&Nat.beq c g&&Nat.beq d h
 | .gsl a b c d, .gsl e f g h=>Nat.beq a e&&Nat.beq b f&&Nat.beq c g&&Nat.beq d h
 | .map a, .map b=>Nat.beq a b
 | .anyi k, .anyi j=>Q8 k j
 | .lin k c l, .lin j d m=>Q8 k j&&(yF c d&&GB l m)
 | .ifc t (.ptr a b), .ifc u (.ptr c d)=>Nat.beq t u&&Nat.beq a c&&Nat.beq b d
 |_,_=>false
def Nf{a b:AV} (h:YU a b=true):a=b:=by
 unfold YU at h;split at h;all_goals (try (cases h;done))
 all_goals (try rfl)
 all_goals (try simp only[Bool.and_eq_true]at h)
 ·simp at h;rw[h]
 ·rw[Jy h.1];have:=h.2;rw[F7]at this;rw[of_decide_eq_true this]
 ·rw[qd4 h]
 ·rw[Nat.eq_of_beq_eq_true h.1,Nat.eq_of_beq_eq_true h.2]
 ·rw[Nat.eq_of_beq_eq_true h.1.1.1,Nat.eq_of_beq_eq_true h.1.1.2,Nat.eq_of_beq_eq_true h.1.2,Nat.eq_of_beq_eq_true h.2]
 ·rw[Nat.eq_of_beq_eq_true h.1.1.1,Nat.eq_of_beq_eq_true h.1.1.2,Nat.eq_of_beq_eq_true h.1.2,Nat.eq_of_beq_eq_true h.2]
 ·rw[Nat.eq_of_beq_eq_true h]
 ·rw[Jy h]
 ·rw[Jy h.1,VL h.2.1,q9z h.2.2]
 ·rw[Nat.eq_of_beq_eq_true h.1.1,Nat.eq_of_beq_eq_true h.1.2,Nat.eq_of_beq_eq_true h.2]
def WM:List AV->List AV->Bool
  | [],[]=>true
  | a::x,b::y=>match YU a b with
    |true=>WM x y
    |false=>false
  |_,_=>false
def SU:∀{a b:List AV},WM a b=true->a=b
  | [],[],_=>rfl
  | [],_::_,h=>by cases h
  |_::_,[],h=>by cases h
  | a::x,b::y,h=>by
    simp only[WM]at h;split at h
    · rename_i u;rw[Nf u,SU h]
    · cases h
def N5:AV->AV->Bool
 | .agg x, .agg y=>WM x y
 | .tup x, .tup y=>WM x y
 |a,b=>YU a b
def qem{a b:AV} (h:N5 a b=true):a=b:=by
 unfold N5 at h;split at h
 ·rw[SU h]
 ·rw[SU h]
 ·exact Nf h
def xg(rs:List Rc) (u:T AO) (e:Nat):T AO:=match nth rs e with
 |some c=>c.h
 |none=>u
def qj3:Option Nat->Option Nat->Bool
 |some a,some b=>Nat.beq a b
 |none,none=>true
 |_,_=>false
def qen{a b:Option Nat} (h:qj3 a b=true):a=b:=by cases a<;>cases b<;>first|rfl| (rw[Nat.eq_of_beq_eq_true h])|cases h
def cnt:Nat->(Nat->Bool)->Nat
 |0,_=>0
 |n+1,f=>cnt n f+(if f n=true then 1 else 0)
def qd3:∀n f,cnt n f<=n
 |0,_=>Nat.le_refl _
 |n+1,f=>by have:=qd3 n f;simp only[cnt];split<;>omega
def q9u:∀n f,cnt n f=n->∀i,i<n->f i=true
  |0,_,_,i,h=>by omega
  | n +1,f,h,i,hi=>by
    have:=qd3 n f;simp only[cnt]at h;split at h
    · rename_i u;by_cases e:i=n
      · subst e;exact u
      · exact q9u n f (by omega) i (by omega)
    · omega
def SD:∀n f g,(∀j,j<n->f j=g j)->cnt n f=cnt n g
 |0,_,_,_=>rfl
 |n+1,f,g,h=>by simp only[cnt];rw[SD n f g λj u=>h j (by omega),h n (by omega)]
def q9v:∀n (f g:Nat->Bool) i,i<n->f i=false->g i=true->(∀j,j≠i->g j=f j)->cnt n g=cnt n f+1
  |0,_,_,i,h,_,_,_=>by omega
  | n +1,f,g,i,h,A,C,u=>by
    simp only[cnt];by_cases e:i=n
    · subst e;rw[SD i g f λj G=>u j (by omega),A,C];simp
    · rw[q9v n f g i (by omega) A C u,u n (λx=>e x.symm)];omega
def tV{a:Act} {n d τ:Nat} {z:Value} (u:a.tmps.size=n) (hd:d<n) (h:d<jE):slot (a.put (some d) z).tmps τ=if τ=d then z else slot a.tmps τ:=by
 unfold slot;simp only[Act.put];by_cases e:τ=d
 ·subst e;rw[if_pos h,if_pos rfl,Array.getD_eq_getD_getElem?,Array.getElem?_setIfInBounds_self_of_lt (by rw[u];exact hd)];rfl
 ·rw[if_neg e];split
  ·rw[Array.getD_eq_getD_getElem?,Array.getElem?_setIfInBounds_ne (by omega),←Array.getD_eq_getD_getElem?]
  ·rfl
def FQ{n d:Nat} {v:AV} {t u:T AV} (h:yP n (some d) v t=some u):d<n/\d<jE/\∀τ,u.get τ=if τ=d then some v else t.get τ:=by
 simp only[yP]at h;split at h
 ·rename_i A;split at h
  ·rename_i C;exact⟨A,C,T.get_put _ _ _ _ _ h⟩
  ·cases h
 ·cases h
def xm{a b:Nat} (h:Nat.blt a b=true):a<b:=by simpa[Nat.blt_eq]using h
def yO(j:Nat):List Nat->Nat
  | []=>0
  | i::l=>match Nat.beq i j with
    |true=>0
    |false=>yO j l+1
def Zo(σ:List Nat) (e:Edge):Edge:={e with on:=yO e.on σ}
def yQ(σ:List Nat) (o:Oper):Oper:={o with after:=⟨o.after.toList.map (Zo σ)⟩,guard:=match o.guard with|some (j,b)=>some (yO j σ,b)|none=>none}
def Vu(l:List Oper) (σ:List Nat):List Nat->Option (List Oper)
  | []=>some []
  | i ::r=>match nth l i with
    | some o=>match Vu l σ r with
      |some x=>some (yQ σ o::x)
      |none=>none
    |none=>none
def jd(j:Nat):List Nat->Bool
 | []=>false
 |i::l=>Nat.beq i j||jd j l
def Wq(n:Nat):List Edge->Bool
 | []=>true
 |e::l=>Nat.blt e.on n&&Wq n l
def Ga(l:List Oper) (σ:List Nat):Bool:=
 Nat.beq σ.length l.length&&jZ l.length λi=>
  (match nth σ (yO i σ)with|some j=>Nat.beq j i|none=>false)&&
  (match nth σ i with|some j=>Nat.blt j l.length&&Nat.beq (yO j σ) i|none=>false)&&
  (match nth l i with|some o=>Wq l.length o.after.toList&&(match o.guard with|some (j,_)=>Nat.blt j l.length|none=>true)|none=>false)
def s_{l:List Oper} {σ:List Nat}:∀{r:List Nat} {x:List Oper},Vu l σ r=some x->x.length=r.length/\∀(k i:Nat),r[k]? =some i->∃o,l[i]? =some o/\x[k]? =some (yQ σ o)
  | [],x,h=>by cases h;exact⟨rfl,λk i h=>by simp at h⟩
  | i ::r,x,h=>by
    simp only[Vu]at h;split at h
    · rename_i o G;split at h
      · rename_i y H;cases h;obtain⟨A,C⟩:=s_ H;refine⟨by simp[A],λk j u=> ?_⟩;cases k with
        |zero=>simp at u;subst u;exact⟨o,by rw[←jY];exact G,rfl⟩
        |succ k=>simpa using C k j (by simpa using u)
      · cases h
    · cases h
structure PermR(ops ops':Array Oper) (τ:Nat->Nat):Prop where
 size:ops'.size=ops.size
 lt:∀i,i<ops.size->τ i<ops.size
 inj:∀i j,i<ops.size->j<ops.size->τ i=τ j->i=j
 sur:∀k,k<ops.size->∃i,i<ops.size/\τ i=k
 op:∀i o,ops[i]? =some o->∃o',ops'[τ i]? =some o'/\(∀P a w K Q,o'.wp P a w K Q=o.wp P a w K Q)/\(∀P a w,o'.asks P a w=o.asks P a w)/\o'.dst=o.dst/\
  (∀l:Array Bool,∀l':Array Bool,(∀j,j<ops.size->∀d,l'.getD (τ j) d=l.getD j d)->(o'.after.all λe=> !Region.binds .any e||l'.getD e.on false)=(o.after.all λe=> !Region.binds .any e||l.getD e.on false))/\
  (∀j b,o.guard=some (j,b)->j<ops.size/\o'.guard=some (τ j,b))/\(o.guard=none->o'.guard=none)
def Sh{n:Nat}:∀{l:List Edge},Wq n l=true->∀e∈l,e.on<n
  | [],_,e,h=>by cases h
  | x::l,h,e,he=>by
    simp only[Wq,Bool.and_eq_true]at h;cases he with
    |head=>exact xm h.1
    |tail _ he=>exact Sh h.2 e he
def qdp(σ:List Nat) (o:Oper):(∀P a w K Q,(yQ σ o).wp P a w K Q=o.wp P a w K Q)/\(∀P a w,(yQ σ o).asks P a w=o.asks P a w):=⟨λ_ _ _ _ _=>rfl,λ_ _ _=>rfl⟩
variable {ops:Array Oper}
def qar{σ:List Nat} {x:List Oper} (h:Ga ops.toList σ=true) (hx:Vu ops.toList σ σ=some x):PermR ops ⟨x⟩ λi=>yO i σ:=by
  unfold Ga at h;rw[Bool.and_eq_true]at h;obtain⟨Z,h⟩:=h;have hl:σ.length=ops.size:=by have:=Nat.eq_of_beq_eq_true Z;simpa using this
  have hn:ops.toList.length=ops.size:=by simp
  rw[hn]at h;have H:=vP h;obtain⟨x1,x2⟩:=s_ hx;have key:∀i,i<ops.size->σ[yO i σ]? =some i:=λi hi=>by
    have:=H i hi;simp only[Bool.and_eq_true]at this;have:=this.1.1;split at this
    · rename_i j A;rw[jY]at A;rw[A,Nat.eq_of_beq_eq_true this]
    · cases this
  have back:∀k,k<ops.size->∃j,σ[k]? =some j/\j<ops.size/\yO j σ=k:=λk O=>by
    have:=H k O;simp only[Bool.and_eq_true]at this;have:=this.1.2;split at this
    · rename_i j A;simp only[Bool.and_eq_true]at this;rw[jY]at A;exact⟨j,A,xm this.1,Nat.eq_of_beq_eq_true this.2⟩
    · cases this
  refine⟨by simpa[x1]using hl,λi hi=> ?_,λi j hi A e=> ?_,λk O=> ?_,λi o V=> ?_⟩
  · have:=(List.getElem?_eq_some_iff.1 (key i hi)).1;omega
  · have G:=key i hi;have u:=key j A;have e:yO i σ=yO j σ:=e;rw[e,u]at G;cases G;rfl
  · obtain⟨j,G,u,h3⟩:=back k O;exact⟨j,u,h3⟩
  · have hi:i<ops.size:=(Array.getElem?_eq_some_iff.1 V).1;obtain⟨C,X,Y⟩:=x2 _ _ (key i hi);have:C=o:=by have:ops.toList[i]? =some o:=(by simpa using V);rw[this]at X;cases X;rfl
    subst this;have hw:=H i hi;simp only[Bool.and_eq_true]at hw;have hw:=hw.2;have U:nth ops.toList i=some C:=(by rw[jY];simpa using V);rw[U]at hw;simp only[Bool.and_eq_true]at hw;refine⟨yQ σ C,by simpa using Y,(qdp σ C).1,(qdp σ C).2,rfl,λl l' T=> ?_,λj b N=> ?_,λN=> ?_⟩
    · have he:=Sh hw.1;have:∀es:List Edge,(∀e∈es,e.on<ops.size)->((es.map (Zo σ)).all λe=> !Region.binds .any e||l'.getD e.on false)=(es.all λe=> !Region.binds .any e||l.getD e.on false):=by
        intro es;induction es with
        |nil=>intro _;rfl
        | cons e es ih=>
          intro J;rw[List.map_cons,List.all_cons,List.all_cons,ih λe he=>J e (.tail _ he)];have G:(Zo σ e).on=yO e.on σ:=rfl;have u:Region.binds .any (Zo σ e)=Region.binds .any e:=rfl;rw[G,u,T e.on (J e (.head _)) false]
      have u:=this C.after.toList (λe h=>he e h);rw[←Array.all_toList,←Array.all_toList];exact u
    · have:=hw.2;rw[N]at this;refine⟨xm this,?_⟩;unfold yQ;rw[N]
    · unfold yQ;rw[N]
variable {τ:Nat->Nat}
def PermR.yield{ops h:Array Oper} (p:PermR ops h τ) (tmps:Array Value) {j:Nat} (u:j<ops.size):yielded h tmps (τ j)=yielded ops tmps j:=by obtain⟨G,A,_,_,C,_⟩:=p.op j _ (Array.getElem?_eq_getElem u);unfold yielded;rw[A,Array.getElem?_eq_getElem u];simp only[Option.bind_some,C]
def KW(ops:Array Oper) (τ:Nat->Nat) (l h:Array Bool):Prop:=l.size=ops.size/\h.size=ops.size/\∀j,j<ops.size->∀d,h.getD (τ j) d=l.getD j d
def PermR.ready{ops u:Array Oper} (p:PermR ops u τ) {l A:Array Bool} (h:KW ops τ l A) {i:Nat} (hi:i<ops.size):τ i∈Region.ready .any u A↔i∈Region.ready .any ops l:=by unfold Region.ready;rw[List.mem_filter,List.mem_filter,List.mem_range,List.mem_range,p.size];obtain⟨H,C,_,_,_,G,_⟩:=p.op i _ (Array.getElem?_eq_getElem hi);rw[h.2.2 i hi true,C,Array.getElem?_eq_getElem hi];simp only[Option.map_some,Option.getD_some];rw[G l A h.2.2];simp[hi,p.lt i hi]
def Wo{l:Array Bool} {i:Nat} (h:i∈Region.ready .any ops l):i<ops.size:=by unfold Region.ready at h;rw[List.mem_filter,List.mem_range]at h;exact h.1
def KW.set{ops A:Array Oper} (p:PermR ops A τ) {l G:Array Bool} (h:KW ops τ l G) {i:Nat} (hi:i<ops.size):KW ops τ (l.setIfInBounds i true) (G.setIfInBounds (τ i) true):=by
 refine⟨by simp[h.1],by simp[h.2.1],λj C d=> ?_⟩;have e:=h.2.2 j C d;simp only[Array.getD_eq_getD_getElem?,Array.getElem?_setIfInBounds]at e⊢;by_cases u:i=j
 ·subst u;have:=p.lt i hi;simp[h.1,h.2.1,hi,this]
 ·have:τ i≠τ j:=λe=>u (p.inj i j hi C e);rw[if_neg this,if_neg u];exact e
def ta{P:O7} {ops A:Array Oper} (p:PermR ops A τ) {Q:Exit->Act->World->Prop}:∀(fuel:Nat) (l C:Array Bool) (a:Act) (w:World),KW ops τ l C->wpAny P .any A Q fuel C a w->wpAny P .any ops Q fuel l a w:=by
  have empty:∀l C,KW ops τ l C->(Region.ready .any ops l=[]↔Region.ready .any A C=[]):=λl C h=>by
    constructor
    · intro e;rw[List.eq_nil_iff_forall_not_mem];intro k N;have u:=Wo N;rw[p.size]at u;obtain⟨i,hi,rfl⟩:=p.sur k u;have:=(p.ready h hi).1 N;rw[e]at this;cases this
    · intro e;rw[List.eq_nil_iff_forall_not_mem];intro i hi;have:=(p.ready h (Wo hi)).2 hi;rw[e]at this;cases this
  intro fuel;induction fuel with
  | zero=>
    intro l C a w H h;exact⟨(empty l C H).2 h.1,h.2⟩
  | succ fuel ih=>
    intro l C a w H h;refine⟨λe=>h.1 ((empty l C H).1 e),λi hi=> ?_⟩;have u:=Wo hi;have Z:=h.2 (τ i) ((p.ready H u).2 hi);have G:=wpOp_mono (λa w=>ih (l.setIfInBounds i true) (C.setIfInBounds (τ i) true) a w (H.set p u)) Z;obtain⟨o',O,T,U,V,g5,X,Y⟩:=p.op i _ (Array.getElem?_eq_getElem u);unfold wpOp at G⊢;rw[O]at G;rw[Array.getElem?_eq_getElem u];simp only at G⊢;have hw:Region.wanted o' (yielded A a.tmps)=Region.wanted ops[i] (yielded ops a.tmps):=by
      unfold Region.wanted;cases J:ops[i].guard with
      |none=>rw[Y J]
      | some x=>
        obtain⟨j,b⟩:=x;obtain⟨q1,q2⟩:=X j b J;rw[q2];simp only;rw[p.yield _ q1]
    rw[hw,T,U,V]at G;exact G
def S6(A:List Nat) (i:Nat):List Nat->List Nat->List Nat
  | [],done=>done
  | j::l,done=>match j0 A i j&& !(jd j done)with
    |true=>S6 A i l (done++[j])
    |false=>S6 A i l done
def F_(A:List Nat) (l:List Oper) (all:List Nat):List Nat->List Nat->List Nat
  | [],done=>done
  | i ::r,done=>match nth l i with
    | some o=>match qH o&& !(jd i done)with
      |true=>F_ A l all r (S6 A i all done++[i])
      |false=>F_ A l all r done
    |none=>F_ A l all r done
def NM:List Nat->List Nat->List Nat
  | [],done=>done
  | j::l,done=>match jd j done with
    |true=>NM l done
    |false=>NM l (done++[j])
def Gs(A:List Nat) (ops:Array Oper):List Nat:=NM (List.range ops.toList.length) (F_ A ops.toList (List.range ops.toList.length) (List.range ops.toList.length) [])
def qgr(A:List Nat) (ops:Array Oper):Option (Array Oper):=
  match Ga ops.toList (Gs A ops)with
  | true=>match Vu ops.toList (Gs A ops) (Gs A ops)with
    |some x=>some ⟨x⟩
    |none=>none
  |false=>none
def Fx(j:Nat):List Edge->Bool
 | []=>false
 |e::l=>(Region.binds .any e&&Nat.beq e.on j)||Fx j l
def Jx(l:List Oper) (k j:Nat):Bool:=match nth l k with
 |some o=>Fx j o.after.toList
 |none=>false
def WC:Nat->(Nat->Bool)->Bool
 |0,_=>false
 |n+1,p=>p n||WC n p
def SC:∀{n:Nat} {p:Nat->Bool},WC n p=true->∃k,k<n/\p k=true
  | n+1,p,h=>by
    unfold WC at h;rw[Bool.or_eq_true]at h;rcases h with h|h
    · exact⟨n,by omega,h⟩
    · obtain⟨k,A,u⟩:=SC h;exact⟨k,by omega,u⟩
def S1(l:List Oper) (q:Nat):Bool:=
 Nat.blt q l.length&&
 (jZ l.length (λi=>match nth l i with|some o=>Wq i o.after.toList&&(match o.guard with|some (j,_)=>Nat.blt j i|none=>true)|none=>false)&&
 (jZ q (λj=>WC (q+1) λk=>Nat.blt j k&&Jx l k j)&&
 jZ l.length (λi=>Nat.ble i q||Jx l i (i- 1))))
def Nn{j:Nat}:∀{l:List Edge},Fx j l=true->∃e∈l,Region.binds .any e=true/\e.on=j
  | e::l,h=>by
    unfold Fx at h;rw[Bool.or_eq_true,Bool.and_eq_true]at h;rcases h with h|h
    · exact⟨e,List.mem_cons_self,h.1,Nat.eq_of_beq_eq_true h.2⟩
    · obtain⟨u,A,C⟩:=Nn h;exact⟨u,List.mem_cons_of_mem _ A,C⟩
structure SpR(ops:Array Oper) (q:Nat):Prop where
 lt:q<ops.size
 back:∀i (h:i<ops.size),(∀e∈ops[i].after,e.on<i)/\∀j b,ops[i].guard=some (j,b)->j<i
 succ:∀j,j<q->∃k,j<k/\k<=q/\∃(h:k<ops.size),∃e∈ops[k].after,Region.binds .any e=true/\e.on=j
 next:∀i (h:i<ops.size),q<i->∃e∈ops[i].after,Region.binds .any e=true/\e.on=i- 1
variable {ops:Array Oper}
def qcr{q:Nat} (h:S1 ops.toList q=true):SpR ops q:=by
 unfold S1 at h;simp only[Bool.and_eq_true]at h;obtain⟨J,N,O,T⟩:=h;have G:ops.toList.length=ops.size:=Array.length_toList;have hq:q<ops.size:=by rw[←G];exact xm J
 have A:∀i (hi:i<ops.size),nth ops.toList i=some ops[i]:=λi hi=>by rw[jY];simp[hi]
 have u:∀k j (C:k<ops.size),Jx ops.toList k j=true->∃e∈ops[k].after,Region.binds .any e=true/\e.on=j:=λk j C e=>by unfold Jx at e;rw[A k C]at e;obtain⟨x,e1,e2⟩:=Nn e;exact⟨x,Array.mem_toList_iff.1 e1,e2⟩
 refine⟨hq,λi hi=> ?_,λj V=> ?_,λi hi X=> ?_⟩
 ·have:=vP N i (by rw[G];exact hi);rw[A i hi]at this;simp only[Bool.and_eq_true]at this;refine⟨λe he=>Sh this.1 e (Array.mem_toList_iff.2 he),λj b U=> ?_⟩;have g:=this.2;rw[U]at g;exact xm g
 ·obtain⟨k,Y,H⟩:=SC (vP O j V);rw[Bool.and_eq_true]at H;have C:k<ops.size:=by omega
  exact⟨k,xm H.1,by omega,C,u k j C H.2⟩
 ·have:=vP T i (by rw[G];exact hi);rw[Bool.or_eq_true]at this;rcases this with h|h
  ·exact absurd (Nat.le_of_ble_eq_true h) (by omega)
  ·exact u i (i- 1) hi h
structure Lq(ops:Array Oper) (l:Array Bool):Prop where
 size:l.size=ops.size
 down:∀i (h:i<ops.size),l.getD i true=true->∀e∈ops[i].after,Region.binds .any e=true->l.getD e.on false=true
variable {l:Array Bool}
def ki{i:Nat}:i∈Region.ready .any ops l↔∃(h:i<ops.size),l.getD i true=false/\∀e∈ops[i].after,Region.binds .any e=true->l.getD e.on false=true:=by
 unfold Region.ready;rw[List.mem_filter,List.mem_range];constructor
 ·rintro⟨h,u⟩;rw[Bool.and_eq_true,Bool.not_eq_true',Array.getElem?_eq_getElem h]at u;refine⟨h,u.1,λe he A=> ?_⟩;have:=u.2;simp only[Option.map_some,Option.getD_some,Array.all_eq_true_iff_forall_mem]at this;have:=this e he;rw[A]at this;simpa using this
 ·rintro⟨h,C,u⟩;refine⟨h,?_⟩;rw[Bool.and_eq_true,Bool.not_eq_true',Array.getElem?_eq_getElem h];refine⟨C,?_⟩;simp only[Option.map_some,Option.getD_some,Array.all_eq_true_iff_forall_mem];intro e he;cases A:Region.binds .any e with
  |false=>rfl
  |true=>rw[u e he A];rfl
def Js{i:Nat} (h:i<l.size) (a b:Bool):l.getD i a=l.getD i b:=by simp[Array.getD_eq_getD_getElem?,h]
def vQ{i j:Nat} (hi:i<l.size) (d:Bool):(l.setIfInBounds i true).getD j d=if j=i then true else l.getD j d:=by
 rw[Array.getD_eq_getD_getElem?,Array.getElem?_setIfInBounds];by_cases h:i=j
 ·subst h;rw[if_pos rfl,if_pos hi,if_pos rfl];rfl
 ·rw[if_neg h,if_neg (λe=>h e.symm),Array.getD_eq_getD_getElem?]
def Lq.set(h:Lq ops l) {i:Nat} (hi:i∈Region.ready .any ops l):Lq ops (l.setIfInBounds i true):=by
 obtain⟨H,O,J⟩:=ki.1 hi;have hs:i<l.size:=by rw[h.size];exact H
 refine⟨by rw[Array.size_setIfInBounds,h.size],λk N C e he G=> ?_⟩;rw[vQ hs]at C⊢;by_cases u:e.on=i
 ·rw[if_pos u]
 ·rw[if_neg u];by_cases A:k=i
  ·subst A;exact J e he G
  ·rw[if_neg A]at C;exact h.down k N C e he G
def SN{o:Oper} {P:O7} {a:Act} {w:World} {K:Act->World->Prop} {Q A:Exit->Act->World->Prop} (h:∀e a w,e≠ .normal->A e a w->Q e a w) (u:o.wp P a w K A):o.wp P a w K Q:=by
  have lets:LetsOut A->LetsOut Q:=λ⟨a,w,C⟩=>⟨a,w,h _ _ _ (by simp) C⟩;unfold Oper.wp at*;generalize (execOp a.eval o).run P w=r at*;cases r with
  | ok n G=>
    cases n<;>simp only[Oper.upon]at u⊢<;>
      first
        |exact u
        |exact Calls.mono u (λe H he=>by cases e<;>first|exact he|exact h _ _ _ (by simp) he|exact lets he)
  |halt x G=>cases x<;>simp only[Oper.upon]at u⊢<;>first|exact h _ _ _ (by simp) u|exact u|exact lets u
def tW{P:O7} {ops:Array Oper} {q:Nat} (s:SpR ops q) {Q:Exit->Act->World->Prop}:∀(m k:Nat) (l:Array Bool) (fuel:Nat) (a:Act) (w:World),k+m=ops.size->q<=k->m<=fuel->Lq ops l->(∀i,i<ops.size->∀d,l.getD i d=decide (i<k))->wpOps P ops Q (List.range' k m) a w->wpAny P .any ops Q fuel l a w
  | 0,k,l,fuel,a,w,J,hq,H,G,hd,h=>by
    have e:Region.ready .any ops l=[]:=(by rw[List.eq_nil_iff_forall_not_mem];intro i hi;obtain⟨A,C,_⟩:=ki.1 hi;rw[hd i A]at C;exact absurd (of_decide_eq_false C) (by omega));cases fuel with
    |zero=>exact⟨e,h⟩
    |succ f=>exact⟨λ_=>h,λi hi=>by rw[e]at hi;cases hi⟩
  |m+1,k,l,0,a,w,J,hq,H,G,hd,h=>absurd H (by omega)
  | m + 1,k,l,f+1,a,w,J,hq,H,G,hd,h=>by
    have u:k<ops.size:=(by omega);have hr:k∈Region.ready .any ops l:=ki.2 ⟨u,by rw[hd k u];exact decide_eq_false (by omega),λe he _=>by have:=(s.back k u).1 e he;rw[hd e.on (by omega)];exact decide_eq_true this⟩;refine⟨λe=>(by rw[e]at hr;cases hr),λi hi=> ?_⟩;obtain⟨A,C,N⟩:=ki.1 hi;rw[hd i A]at C;have T:=of_decide_eq_false C;have:i=k:=by
      by_cases e:i=k
      · exact e
      · obtain⟨x,hx,O,V⟩:=s.next i A (by omega);have:=N x hx O;rw[V,hd (i- 1) (by omega)]at this;exact absurd (of_decide_eq_true this) (by omega)
    subst this;rw[List.range'_succ,wpOps_cons]at h;refine wpOp_mono (λa w h=>tW s m (i+1) _ f a w (by omega) (by omega) (by omega) (G.set hr) (λj U d=> ?_) h) h;rw[vQ (by rw[G.size];exact A)];by_cases e:j=i
    · rw[if_pos e];exact(decide_eq_true (by omega)).symm
    · rw[if_neg e,hd j U];by_cases g:j<i
      · rw[decide_eq_true g,decide_eq_true (by omega)]
      · rw[decide_eq_false g,decide_eq_false (by omega)]
def kY(ops:Array Oper) (q:Nat):Array Oper:=⟨ops.toList.take q⟩
def Fz{q:Nat} (h:q<ops.size):(kY ops q).size=q:=by show(ops.toList.take q).length=q;rw[List.length_take,Array.length_toList];omega
def Zb{q i:Nat} (h:q<ops.size) (hi:i<q):(kY ops q)[i]? =some (ops[i]'(by omega)):=by
 unfold kY;have e:∀l:List Oper,(⟨l⟩:Array Oper)[i]? =l[i]? :=λl=>by simp
 rw[e,List.getElem?_take,if_pos hi,Array.getElem?_toList,Array.getElem?_eq_getElem (by omega)]
def qb2{P:O7} {ops:Array Oper} {q:Nat} (s:SpR ops q) {Q Q':Exit->Act->World->Prop} (hn:∀a w,Q' .normal a w->wpOps P ops Q (List.range' q (ops.size- q)) a w) (ho:∀e a w,e≠ .normal->Q' e a w->Q e a w):∀(fuel:Nat) (l N:Array Bool) (a:Act) (w:World),Lq ops l->(∀i,q<=i->i<ops.size->∀d,l.getD i d=false)->N.size=q->(∀i,i<q->∀d,N.getD i d=l.getD i d)->wpAny P .any (kY ops q) Q' fuel N a w->wpAny P .any ops Q (fuel+(ops.size- q)) l a w:=by
  have hs:=Fz s.lt;have rd:∀{l N:Array Bool},(∀i,i<q->∀d,N.getD i d=l.getD i d)->∀i,i∈Region.ready .any (kY ops q) N↔i<q/\i∈Region.ready .any ops l:=λ{l N} u i=>by
    rw[ki,ki];constructor
    · rintro⟨O,A,V⟩;have hi:i<q:=(by rw[hs]at O;exact O);have hg:(kY ops q)[i]=ops[i]'(by have:=s.lt;omega):=by have:=Zb s.lt hi;rw[Array.getElem?_eq_getElem O]at this;exact Option.some.inj this
      rw[hg]at V;refine⟨hi,by have:=s.lt;omega,by rw[←u i hi];exact A,λe he H=> ?_⟩;have:=(s.back i (by have:=s.lt;omega)).1 e he;rw[←u e.on (by omega)];exact V e he H
    · rintro⟨hi,O,A,V⟩;have h1':i<(kY ops q).size:=(by rw[hs];exact hi);have hg:(kY ops q)[i]=ops[i]'O:=by have:=Zb s.lt hi;rw[Array.getElem?_eq_getElem h1']at this;exact Option.some.inj this
      refine⟨h1',by rw[u i hi];exact A,λe he H=> ?_⟩;rw[hg]at he;have:=(s.back i O).1 e he;rw[u e.on (by omega)];exact V e he H
  have prog :∀{l:Array Bool},Lq ops l->(∀i,i<q->l.getD i true=true)\/∃i,i<q/\i∈Region.ready .any ops l:=λ{l} C=>by
    have step:∀m:Nat,m<=q->(∀i,i<m->l.getD i true=true)\/∃i,i<q/\i∈Region.ready .any ops l:=λm=>by
      induction m with
      |zero=>intro _;exact .inl λi h=>absurd h (by omega)
      | succ m ih=>
        intro hm;rcases ih (by omega)with h|h
        · have hms:m<ops.size:=by have:=s.lt;omega
          cases H:l.getD m true with
          | true=>
            refine .inl λi hi=> ?_;by_cases e:i=m
            · rw[e];exact H
            · exact h i (by omega)
          | false=>
            refine .inr ⟨m,by omega,ki.2 ⟨hms,H,λe he _=> ?_⟩⟩;have:=(s.back m hms).1 e he;rw[Js (by rw[C.size];omega) false true];exact h e.on this
        · exact .inr h
    exact step q (Nat.le_refl _)
  have only:∀{l:Array Bool},Lq ops l->(∀i,q<=i->i<ops.size->∀d,l.getD i d=false)->∀i,q<=i->i∈Region.ready .any ops l->∀j,j<q->l.getD j true=true:=λ{l} C U i hqi hi=>by
    obtain⟨O,A,V⟩:=ki.1 hi;have G:i=q:=by
      by_cases e:i=q
      · exact e
      · obtain⟨x,hx,H,ho'⟩:=s.next i O (by omega);have:=V x hx H;rw[ho',U (i- 1) (by omega) (by omega)]at this;cases this
    subst G;have down:∀d j,i- j<=d->j<i->l.getD j true=true:=λd=>by
      induction d with
      |zero=>intro j h4 h5;omega
      | succ d ih=>
        intro j h4 h5;obtain⟨k,k1,k2,hk,e,he,H,hon⟩:=s.succ j h5;rw[Js (by rw[C.size];omega) true false,←hon];by_cases hki:k=i
        · subst hki;exact V e he H
        · exact C.down k hk (ih k (by omega) (by omega)) e he H
    exactλj Z=>down i j (by omega) Z
  have fin:∀(l:Array Bool) (fuel:Nat) (a:Act) (w:World),ops.size- q<=fuel->Lq ops l->(∀i,q<=i->i<ops.size->∀d,l.getD i d=false)->(∀i,i<q->l.getD i true=true)->Q' .normal a w->wpAny P .any ops Q fuel l a w:=λl fuel a w hf C U hd h=>by
    refine tW s (ops.size- q) q l fuel a w (by have:=s.lt;omega) (Nat.le_refl _) hf C (λi hi d=> ?_) (hn a w h);by_cases G:i<q
    · rw[decide_eq_true G,Js (by rw[C.size];exact hi) d true];exact hd i G
    · rw[decide_eq_false G];exact U i (by omega) hi d
  intro fuel;induction fuel with
  | zero=>
    intro l N a w C U X u h;refine fin l _ a w (by omega) C U ?_ h.2;rcases prog C with hd|⟨i,hi,hr⟩
    · exact hd
    · have:=(rd u i).2 ⟨hi,hr⟩;rw[h.1]at this;cases this
  | succ fuel ih=>
    intro l N a w C U X u h;rcases prog C with hd|⟨i,hi,hr⟩
    · refine fin l _ a w (by omega) C U hd (h.1 ?_);rw[List.eq_nil_iff_forall_not_mem];intro i hi;obtain⟨G,hi2⟩:=(rd u i).1 hi;obtain⟨_,A,_⟩:=ki.1 hi2;rw[hd i G]at A;cases A
    · rw [show fuel+1+(ops.size- q)=(fuel+(ops.size- q))+1 by omega];refine⟨λe=>(by rw[e]at hr;cases hr),λk hk=> ?_⟩;have J:k<q:=by
        by_cases J:k<q
        · exact J
        · obtain⟨_,A,_⟩:=ki.1 hr;rw[only C U k (by omega) hk i hi]at A;cases A
      have T:k<ops.size:=by have:=s.lt;omega
      have O:=h.2 k ((rd u k).2 ⟨J,hk⟩);have A:=wpOp_mono (λa w h=>ih (l.setIfInBounds k true) (N.setIfInBounds k true) a w (C.set hk) (λj Z hjs d=>by rw[vQ (by rw[C.size];exact T),if_neg (by omega)];exact U j Z hjs d) (by rw[Array.size_setIfInBounds];exact X) (λj Z d=>by rw[vQ (l:=N) (by rw[X];exact J),vQ (l:=l) (by rw[C.size];exact T),u j Z d]) h) O;unfold wpOp at A⊢;rw[Zb s.lt J]at A;rw[Array.getElem?_eq_getElem T];simp only at A⊢;have hw:Region.wanted ops[k] (yielded (kY ops q) a.tmps)=Region.wanted ops[k] (yielded ops a.tmps):=by
        unfold Region.wanted;cases hg:ops[k].guard with
        |none=>rfl
        | some x=>
          obtain⟨j,b⟩:=x;have Z:=(s.back k T).2 j b hg;simp only;unfold yielded;rw[Zb s.lt (show j<q by omega),Array.getElem?_eq_getElem (by omega)]
      rw[hw]at A;split
      · rename_i Y;rw[if_pos Y]at A;exact A.imp (SN ho) λh=>⟨h.1,h.2.elim λa h=>h.elim λw h=>⟨a,w,ho _ _ _ (by simp) h⟩⟩
      · rename_i Y;rw[if_neg Y]at A;exact A
def Gv(o:Oper) (i:Nat):Oper:={o with after:=⟨{on:=i,ground:= .data}::o.after.toList⟩}
def uu:List Oper->Nat->Nat->List Oper
  | [],_,_=>[]
  | o::l,j,i=>match j with
    |0=>Gv o i::l
    |j+1=>o::uu l j i
def vt(ops:Array Oper) (j i:Nat):Array Oper:=⟨uu ops.toList j i⟩
def tF:∀(l:List Oper) (j i k:Nat),(uu l j i)[k]? =if k=j then(l[k]?).map (Gv · i)else l[k]?
  | [],j,i,k=>by simp[uu]
  | o::l,0,i,k=>by
    cases k with
    |zero=>simp[uu]
    |succ k=>simp[uu]
  | o ::l,j+1,i,k=>by
    cases k with
    |zero=>simp[uu]
    | succ k=>
      simp only[uu,List.getElem?_cons_succ,tF l j i k];by_cases h:k=j
      · rw[if_pos h,if_pos (by omega)]
      · rw[if_neg h,if_neg (by omega)]
def tG:∀(l:List Oper) (j i:Nat),(uu l j i).length=l.length
 | [],j,i=>rfl
 |o::l,0,i=>rfl
 |o::l,j+1,i=>by simp[uu,tG l j i]
def q95(ops:Array Oper) (j i:Nat):(vt ops j i).size=ops.size:=by show(uu ops.toList j i).length=_;rw[tG,Array.length_toList]
def FH(ops:Array Oper) (j i k:Nat):(vt ops j i)[k]? =if k=j then(ops[k]?).map (Gv · i)else ops[k]? :=by
 unfold vt;have e:∀l:List Oper,(⟨l⟩:Array Oper)[k]? =l[k]? :=λl=>by simp
 rw[e,tF,Array.getElem?_toList]
variable {ops:Array Oper} {l:Array Bool}
def FM{i:Nat}:i∈Region.ready .any ops l↔∃o,ops[i]? =some o/\l.getD i true=false/\∀e∈o.after,Region.binds .any e=true->l.getD e.on false=true:=by
 rw[ki];constructor
 ·rintro⟨h,u,A⟩;exact⟨ops[i],Array.getElem?_eq_getElem h,u,A⟩
 ·rintro⟨o,h,u,A⟩;obtain⟨hi,rfl⟩:=Array.getElem?_eq_some_iff.1 h;exact⟨hi,u,A⟩
def Jq{j i:Nat} {k:Nat}:k∈Region.ready .any (vt ops j i) l↔k∈Region.ready .any ops l/\(k=j->l.getD i false=true):=by
  rw[FM,FM];constructor
  · rintro⟨o,h,C,A⟩;rw[FH]at h;by_cases u:k=j
    · rw [if_pos u]at h;cases J:ops[k]? with
      |none=>rw[J]at h;cases h
      | some H=>
        rw[J]at h;cases h;refine⟨⟨H,rfl,C,λe he G=>A e ?_ G⟩,λ_=>A {on:=i,ground:= .data} ?_ rfl⟩
        · show e∈(⟨_::H.after.toList⟩:Array Edge);simp;exact .inr he
        · show _∈(⟨_::H.after.toList⟩:Array Edge);simp
    · rw[if_neg u]at h;exact⟨⟨o,h,C,A⟩,λe=>absurd e u⟩
  · rintro⟨⟨o,h,C,A⟩,N⟩;rw[FH];by_cases u:k=j
    · rw[if_pos u,h];refine⟨Gv o i,rfl,C,λe he G=> ?_⟩;have he:e∈(⟨{on:=i,ground:= .data}::o.after.toList⟩:Array Edge):=he;simp at he;rcases he with rfl|he
      · exact N u
      · exact A e he G
    · rw[if_neg u];exact⟨o,h,C,A⟩
def q6a(ops:Array Oper) (j i:Nat) (tmps:Array Value) (k:Nat):yielded (vt ops j i) tmps k=yielded ops tmps k:=by
 unfold yielded;rw[FH];by_cases h:k=j
 ·rw[if_pos h];cases ops[k]? <;>rfl
 ·rw[if_neg h]
variable {Q:Exit->Act->World->Prop} {a:Act} {w:World}
def qb9{P:O7} {j i:Nat} {k:Nat} {K:Act->World->Prop}:wpOp P (vt ops j i) Q k K a w↔wpOp P ops Q k K a w:=by
  have hw:∀o,Region.wanted o (yielded (vt ops j i) a.tmps)=Region.wanted o (yielded ops a.tmps):=λo=>by rw[show yielded (vt ops j i) a.tmps=yielded ops a.tmps from funext (q6a ops j i a.tmps)]
  unfold wpOp;rw[FH];by_cases h:k=j
  · rw[if_pos h];cases ops[k]? with
    |none=>exact Iff.rfl
    | some o=>
      simp only[Option.map_some,hw];exact Iff.rfl
  · rw[if_neg h];cases ops[k]? with
    |none=>exact Iff.rfl
    |some o=>simp only[hw]
def qa6{i k:Nat} (h:l.getD i false=true):(l.setIfInBounds k true).getD i false=true:=by
 by_cases u:k<l.size
 ·rw[vQ u];split
  ·rfl
  ·exact h
 ·rw[Array.setIfInBounds_eq_of_size_le (by omega)];exact h
inductive OrdO(ops:Array Oper):Nat->Array Bool->List Nat->Prop
 |zero (l:Array Bool):OrdO ops 0 l []
 |stop {f:Nat} {l:Array Bool} (h:Region.ready .any ops l=[]):OrdO ops (f+1) l []
 |step {f:Nat} {l:Array Bool} {k:Nat} {r:List Nat} (h:k∈Region.ready .any ops l) (t:OrdO ops f (l.setIfInBounds k true) r):OrdO ops (f+1) l (k::r)
def qf3(ops:Array Oper):∀(f t:Nat) (l:Array Bool),OrdO ops f l (Region.linearise.go .any ops f t l []):=by
  intro f;induction f with
  |zero=>intro t l;exact .zero l
  | succ f u=>
    intro t l;simp only[Region.linearise.go];change OrdO ops (f+1) l (match(Region.ready .any ops l)[t % (Region.ready .any ops l).length]? with
      |some i=>Region.linearise.go .any ops f (t / (Region.ready .any ops l).length) (l.setIfInBounds i true) [i]
      |none=>[].reverse)
    cases hi:(Region.ready .any ops l)[t % (Region.ready .any ops l).length]? with
    | none=>
      refine .stop ?_;cases hr:Region.ready .any ops l with
      |nil=>rfl
      | cons x xs=>
        rw[hr]at hi;have h:t % (x::xs).length<(x::xs).length:=Nat.mod_lt _ (by simp);simp at hi;simp at h;omega
    | some i=>
      simp only[];rw[linearise_go_acc,List.reverse_singleton,List.singleton_append];exact .step (List.mem_of_getElem? hi) (u _ _)
def qb8{P:O7}:∀{f:Nat} {l:Array Bool} {r:List Nat},OrdO ops f l r->∀{a:Act} {w:World},wpAny P .any ops Q f l a w->wpOps P ops Q r a w:=by
  intro f l r h;induction h with
  |zero l=>intro a w h;exact h.2
  |stop e=>intro a w h;exact h.1 e
  | step u t A=>
    intro a w h;rw[wpOps_cons];exact wpOp_mono (λa w h=>A h) (h.2 _ u)
def tS{j i:Nat}:∀{f:Nat} {l:Array Bool} {r:List Nat},OrdO ops f l r->l.getD i false=true->OrdO (vt ops j i) f l r:=by
  intro f l r h;induction h with
  |zero l=>intro _;exact .zero l
  | stop e=>
    intro _;refine .stop ?_;rw[List.eq_nil_iff_forall_not_mem];intro k u;have:=(Jq.1 u).1;rw[e]at this;cases this
  |step u t A=>intro hi;exact .step (Jq.2 ⟨u,λ_=>hi⟩) (A (qa6 hi))
def qf4{ops:Array Oper} {i j:Nat} (C:i≠j):∀{f:Nat} {l:Array Bool} {r:List Nat},OrdO ops f l r->l.size=ops.size->OrdO (vt ops j i) f l r\/OrdO (vt ops i j) f l r:=by
  intro f l r h;induction h with
  |zero l=>intro _;exact .inl (.zero l)
  | stop e=>
    intro _;refine .inl (.stop ?_);rw[List.eq_nil_iff_forall_not_mem];intro k A;have:=(Jq.1 A).1;rw[e]at this;cases this
  | @step f l k r A t J=>
    intro hs;have H:k<l.size:=(by rw[hs];exact Wo A);have u:(l.setIfInBounds k true).getD k false=true:=(by rw[vQ H,if_pos rfl]);by_cases G:k=j
    · subst G;exact .inr (.step (Jq.2 ⟨A,λe=>absurd e.symm C⟩) (tS t u))
    · by_cases hi:k=i
      · subst hi;exact .inl (.step (Jq.2 ⟨A,λe=>absurd e G⟩) (tS t u))
      · rcases J (by rw[Array.size_setIfInBounds];exact hs)with h|h
        · exact .inl (.step (Jq.2 ⟨A,λe=>absurd e G⟩) h)
        · exact .inr (.step (Jq.2 ⟨A,λe=>absurd e hi⟩) h)
def FB{P:O7} {ops:Array Oper} {j i:Nat} {Q:Exit->Act->World->Prop}:∀{r:List Nat} {a:Act} {w:World},wpOps P (vt ops j i) Q r a w↔wpOps P ops Q r a w
  | [],a,w=>Iff.rfl
  | k::r,a,w=>by
    rw[wpOps_cons,wpOps_cons,qb9];constructor
    · exact wpOp_mono λa w h=>FB.1 h
    · exact wpOp_mono λa w h=>FB.2 h
def vR(P:O7) (ops:Array Oper) (Q:Exit->Act->World->Prop) (a:Act) (w:World):Prop:=∀r,OrdO ops ops.size (Array.replicate ops.size false) r->wpOps P ops Q r a w
def vR.of{P:O7} (h:wpAny P .any ops Q ops.size (Array.replicate ops.size false) a w):vR P ops Q a w:=λr hr=>qb8 hr h
def vR.two{P:O7} {i j:Nat} (C:i≠j) (u:vR P (vt ops j i) Q a w) (A:vR P (vt ops i j) Q a w):vR P ops Q a w:=λr hr=>by
 unfold vR at u A;rw[q95]at u A;rcases qf4 C hr (by simp)with h|h
 ·exact FB.1 (u r h)
 ·exact FB.1 (A r h)
def q5l{P:O7} {id:Nat} (hm:P.follows .mixedOrders=true) (h:vR P ops Q a {w with drawn:=w.drawn+1}):(Code.region id ops true).wp P Q a w:=
 wp_region_draw λt=>by simp only[Region.schedule,hm,Bool.true_or,if_true];exact h _ (qf3 ops ops.size t _)
def WN(f:Nat):List Nat->Array Oper->(Array Oper->Prop)->Prop
  | [],ops,K=>K ops
  | c::l,ops,K=>match Nat.beq c f with
    |true=>False
    |false=>K (vt ops c f)/\WN f l (vt ops f c) K
def SW{P:O7} {Q:Exit->Act->World->Prop} {a:Act} {w:World} {f:Nat}:∀{cs:List Nat} {ops:Array Oper} {K:Array Oper->Prop},WN f cs ops K->(∀u,K u->vR P u Q a w)->vR P ops Q a w
  | [],ops,K,e,h=>h _ e
  | c ::l,ops,K,e,h=>by
    simp only[WN]at e;split at e
    · exact e.elim
    · rename_i C;have A:f≠c:=λx=>(by subst x;simp at C);exact vR.two A (h _ e.1) (SW e.2 h)
def N_:List Edge->List Nat->List Nat
  | [],acc=>acc
  | e::l,acc=>match Region.binds .any e with
    |true=>e.on::N_ l acc
    |false=>N_ l acc
def Gb(ops:List Oper):Nat->List Nat->List Nat->List Nat
  |0,_,acc=>acc
  | n + 1,todo,acc=>match todo with
    | []=>acc
    | i ::todo=>match jd i acc with
      |true=>Gb ops n todo acc
      | false=>match nth ops i with
        |some o=>Gb ops n (N_ o.after.toList todo) (i::acc)
        |none=>Gb ops n todo (i::acc)
def Pb:List Edge->List Nat->Bool
 | [],_=>true
 |e::l,acc=>(Bool.not (Region.binds .any e)||jd e.on acc)&&Pb l acc
def Gt(ops:List Oper) (acc:List Nat):List Nat->Option Nat
  | []=>none
  | i ::l=>match jd i acc with
    |true=>Gt ops acc l
    | false=>match nth ops i with
      | some o=>match Pb o.after.toList acc with
        |true=>some i
        |false=>Gt ops acc l
      |none=>Gt ops acc l
def qh5(ops:List Oper) (h:List Nat):Nat->List Nat->List Nat->List Nat
  |0,_,r=>r
  | n+1,acc,r=>match Gt ops acc h with
    |some i=>qh5 ops h n (i::acc) (r++[i])
    |none=>r
def Ng(q:Nat) (m:List Nat):List Nat->List Nat
  | []=>[]
  | i::l=>match jd i m&&Bool.not (Nat.beq i q)with
    |true=>i::Ng q m l
    |false=>Ng q m l
def Nz(f:Nat):List Nat->List Nat
  | []=>[f]
  | i::l=>match Nat.beq i f with
    |true=>Nz f l
    |false=>i::Nz f l
def qje(ops:List Oper) (q f:Nat):List Nat×Nat:=match Ng q (Gb ops 2000 [q] []) (List.range ops.length)with
 |fr=>(qh5 ops (Nz f (List.range ops.length)) ops.length (q::fr) (fr++[q]),fr.length)
def Ia(ops:Array Oper) (q f:Nat):Option (Array Oper×Nat):=match qje ops.toList q f with
  | (σ,m)=>match Ga ops.toList σ with
    | true=>match Vu ops.toList σ σ with
      |some x=>some (⟨x⟩,m)
      |none=>none
    |false=>none
def qf2{P:O7} {ops u:Array Oper} {q f m:Nat} (e:Ia ops q f=some (u,m)) (h:wpAny P .any u Q u.size (Array.replicate u.size false) a w):vR P ops Q a w:=by
 unfold Ia at e;split at e;rename_i σ m' _;split at e
 ·rename_i C;split at e
  ·rename_i x hx;cases e;have p:=qar C hx;have hs:(⟨x⟩:Array Oper).size=ops.size:=p.size;rw[hs]at h;refine vR.of (ta p ops.size _ (Array.replicate ops.size false) a _ ⟨by simp,by simp,λj G d=> ?_⟩ h);have A:yO j σ<ops.size:=p.lt j G;have e1:∀i,i<ops.size->(Array.replicate ops.size false).getD i d=false:=λi hi=>(by simp[Array.getD_eq_getD_getElem?,hi]);exact(e1 _ A).trans (e1 j G).symm
  ·cases e
 ·cases e
def Qs(m:Nat):List Edge->List Edge
  | []=>[]
  | e::l=>match Nat.ble m e.on with
    |true=>{e with on:=e.on- m}::Qs m l
    |false=>Qs m l
def VT(m:Nat) (o:Oper):Oper:={o with after:=⟨Qs m o.after.toList⟩,guard:=match o.guard with|some (j,b)=>some (j- m,b)|none=>none}
def WR(m:Nat):List Oper->List Oper
 | []=>[]
 |o::l=>VT m o::WR m l
def jG(ops:Array Oper) (m:Nat):Array Oper:=⟨WR m (ops.toList.drop m)⟩
def SL(m:Nat):∀l,WR m l=l.map (VT m)
 | []=>rfl
 |o::l=>by rw[WR,SL m l];rfl
def FT(ops:Array Oper) (m k:Nat):(jG ops m)[k]? =(ops[m+k]?).map (VT m):=by
 unfold jG;have e:∀l:List Oper,(⟨l⟩:Array Oper)[k]? =l[k]? :=λl=>by simp
 rw[e,SL,List.getElem?_map,List.getElem?_drop,Array.getElem?_toList]
def qb3(ops:Array Oper) (m:Nat):(jG ops m).size=ops.size- m:=by show(WR m (ops.toList.drop m)).length=_;rw[SL,List.length_map,List.length_drop,Array.length_toList]
def FR{m:Nat}:∀{l:List Edge} {e:Edge},e∈Qs m l↔∃x∈l,m<=x.on/\e={x with on:=x.on- m}
  | [],e=>by simp[Qs]
  | x ::l,e=>by
    unfold Qs;split
    · rename_i h;have h:=Nat.le_of_ble_eq_true h;rw[List.mem_cons,FR];constructor
      · rintro(rfl|⟨y,u,A⟩)
        · exact⟨x,List.mem_cons_self,h,rfl⟩
        · exact⟨y,List.mem_cons_of_mem _ u,A⟩
      · rintro⟨y,u,A,C⟩;rcases List.mem_cons.1 u with rfl|u
        · exact .inl C
        · exact .inr ⟨y,u,A,C⟩
    · rename_i h;have h:¬m<=x.on:=λg=>(by rw[Nat.ble_eq_true_of_le g]at h;cases h);rw[FR];constructor
      · rintro⟨y,u,A⟩;exact⟨y,List.mem_cons_of_mem _ u,A⟩
      · rintro⟨y,u,A,C⟩;rcases List.mem_cons.1 u with rfl|u
        · exact absurd A h
        · exact⟨y,u,A,C⟩
def qfj{P:O7} {m:Nat} (T:∀i (h:i<ops.size),m<=i->∀j b,ops[i].guard=some (j,b)->m<=j) {Q:Exit->Act->World->Prop}:∀(g f:Nat) (l C:Array Bool) (a:Act) (w:World),g<=f->l.size=ops.size->(∀i,i<m->l.getD i true=true)->(∀k,m+k<ops.size->∀d,C.getD k d=l.getD (m+k) d)->C.size=ops.size- m->wpAny P .any (jG ops m) Q g C a w->wpAny P .any ops Q f l a w:=by
  have rd :∀{l C:Array Bool},l.size=ops.size->(∀i,i<m->l.getD i true=true)->(∀k,m+k<ops.size->∀d,C.getD k d=l.getD (m+k) d)->C.size=ops.size- m->∀i,i∈Region.ready .any ops l↔m<=i/\(i- m)∈Region.ready .any (jG ops m) C:=λ{l C} hs hd u A i=>by
    rw[FM,FM];constructor
    · rintro⟨o,h,J,H⟩;have G:i<ops.size:=(Array.getElem?_eq_some_iff.1 h).1;have hm:m<=i:=Nat.le_of_not_lt λx=>(by rw[hd i x]at J;cases J);refine⟨hm,VT m o,by rw[FT,show m+(i- m)=i by omega,h];rfl,by rw[u (i- m) (by omega),show m+(i- m)=i by omega];exact J,λe he O=> ?_⟩;have he:e∈(⟨Qs m o.after.toList⟩:Array Edge):=he;obtain⟨x,x1,x2,rfl⟩:=FR.1 (by simpa using he);have:=H x (by simpa using x1) O;show C.getD (x.on- m) false=true;by_cases hx:x.on<ops.size
      · rw[u (x.on- m) (by omega),show m+(x.on- m)=x.on by omega];exact this
      · rw[Array.getD_eq_getD_getElem?,Array.getElem?_eq_none (by omega)]at this;cases this
    · rintro⟨hm,o',h,J,H⟩;rw[FT,show m+(i- m)=i by omega]at h;cases Y:ops[i]? with
      |none=>rw[Y]at h;cases h
      | some o=>
        rw[Y]at h;cases h;have G:i<ops.size:=(Array.getElem?_eq_some_iff.1 Y).1;refine⟨o,rfl,by rw[u (i- m) (by omega),show m+(i- m)=i by omega]at J;exact J,λe he O=> ?_⟩;by_cases hx:e.on<m
        · have:=hd e.on hx;rw[Js (by omega) false true];exact this
        · have N:({e with on:=e.on- m}:Edge)∈Qs m o.after.toList:=FR.2 ⟨e,by simpa using he,by omega,rfl⟩;have:=H {e with on:=e.on- m} (by show _∈(⟨Qs m o.after.toList⟩:Array Edge);simpa using N) O;have:C.getD (e.on- m) false=true:=this;by_cases hx2:e.on<ops.size
          · rw[u (e.on- m) (by omega),show m+(e.on- m)=e.on by omega]at this;exact this
          · rw[Array.getD_eq_getD_getElem?,Array.getElem?_eq_none (by omega)]at this;cases this
  have nil:∀{l C:Array Bool},l.size=ops.size->(∀i,i<m->l.getD i true=true)->(∀k,m+k<ops.size->∀d,C.getD k d=l.getD (m+k) d)->C.size=ops.size- m->(Region.ready .any ops l=[]↔Region.ready .any (jG ops m) C=[]):=λ{l C} hs hd u A=>by
    rw[List.eq_nil_iff_forall_not_mem,List.eq_nil_iff_forall_not_mem];constructor
    · intro h k X;exact h (m+k) ((rd hs hd u A (m+k)).2 ⟨by omega,by rw[show m+k- m=k by omega];exact X⟩)
    · intro h i hi;exact h _ ((rd hs hd u A i).1 hi).2
  intro g;induction g with
  | zero=>
    intro f l C a w U hs hd u A h;have e:=(nil hs hd u A).2 h.1;cases f with
    |zero=>exact⟨e,h.2⟩
    |succ f=>exact⟨λ_=>h.2,λi hi=>by rw[e]at hi;cases hi⟩
  | succ g ih=>
    intro f l C a w U hs hd u A h;obtain⟨f,rfl⟩:∃n,f=n+1:=⟨f- 1,by omega⟩;refine⟨λe=>h.1 ((nil hs hd u A).1 e),λi hi=> ?_⟩;obtain⟨hm,hr⟩:=(rd hs hd u A i).1 hi;have G:i<ops.size:=Wo hi;have J:=h.2 (i- m) hr;have H:=wpOp_mono (λa w h=>ih f (l.setIfInBounds i true) (C.setIfInBounds (i- m) true) a w (by omega) (by rw[Array.size_setIfInBounds];exact hs) (λj Z=>by rw[vQ (by omega),if_neg (by omega)];exact hd j Z) (λk X d=>by
      rw[vQ (l:=C) (by omega),vQ (l:=l) (by omega)];by_cases e:k=i- m
      · rw[if_pos e,if_pos (by omega)]
      · rw[if_neg e,if_neg (by omega)];exact u k X d) (by rw[Array.size_setIfInBounds];exact A) h) J
    unfold wpOp at H⊢;rw[FT,show m+(i- m)=i by omega,Array.getElem?_eq_getElem G]at H;rw[Array.getElem?_eq_getElem G];simp only[Option.map_some]at H⊢;have hy:∀j,m<=j->yielded (jG ops m) a.tmps (j- m)=yielded ops a.tmps j:=λj Z=>(by unfold yielded;rw[FT,show m+(j- m)=j by omega];cases ops[j]? <;>rfl);have hw:Region.wanted (VT m ops[i]) (yielded (jG ops m) a.tmps)=Region.wanted ops[i] (yielded ops a.tmps):=by
      have V:=T i G hm;unfold Region.wanted VT;cases hg:ops[i].guard with
      |none=>rfl
      | some x=>
        obtain⟨j,b⟩:=x;simp only;rw[hy j (V j b hg)]
    rw[hw]at H;exact H
structure SpX(ops:Array Oper) (q:Nat):Prop where
 lt:q<ops.size
 back:∀i (h:i<ops.size),(∀e∈ops[i].after,Region.binds .any e=true->e.on<i)/\∀j b,ops[i].guard=some (j,b)->j<i
 succ:∀j,j<q->∃k,j<k/\k<=q/\∃(h:k<ops.size),∃e∈ops[k].after,Region.binds .any e=true/\e.on=j
 next:∀i (h:i<ops.size),q<i->∃e∈ops[i].after,Region.binds .any e=true/\q<=e.on
 gd:∀i (h:i<ops.size),q+1<=i->∀j b,ops[i].guard=some (j,b)->q+1<=j
def F6(n:Nat):List Edge->Bool
 | []=>true
 |e::l=>(Bool.not (Region.binds .any e)||Nat.blt e.on n)&&F6 n l
def ti{n:Nat}:∀{l:List Edge},F6 n l=true->∀e∈l,Region.binds .any e=true->e.on<n
  | [],_,e,h,_=>by cases h
  | x ::l,h,e,he,A=>by
    simp only[F6,Bool.and_eq_true,Bool.or_eq_true]at h;rcases List.mem_cons.1 he with rfl|he
    · rcases h.1 with u|u
      · rw[A]at u;cases u
      · exact xm u
    · exact ti h.2 e he A
def GM(q:Nat):List Edge->Bool
 | []=>false
 |e::l=>(Region.binds .any e&&Nat.ble q e.on)||GM q l
def qap{q:Nat}:∀{l:List Edge},GM q l=true->∃e∈l,Region.binds .any e=true/\q<=e.on
  | e::l,h=>by
    unfold GM at h;rw[Bool.or_eq_true,Bool.and_eq_true]at h;rcases h with h|h
    · exact⟨e,List.mem_cons_self,h.1,Nat.le_of_ble_eq_true h.2⟩
    · obtain⟨u,A,C⟩:=qap h;exact⟨u,List.mem_cons_of_mem _ A,C⟩
def Nr(l:List Oper) (q:Nat):Bool:=
 Nat.blt q l.length&&
 (jZ l.length (λi=>match nth l i with|some o=>F6 i o.after.toList&&(match o.guard with|some (j,_)=>Nat.blt j i|none=>true)|none=>false)&&
 (jZ q (λj=>WC (q+1) λk=>Nat.blt j k&&Jx l k j)&&
 jZ l.length (λi=>Nat.ble i q|| (match nth l i with|some o=>GM q o.after.toList&&(match o.guard with|some (j,_)=>Nat.ble (q+1) j|none=>true)|none=>false))))
def qb1{q:Nat} (h:Nr ops.toList q=true):SpX ops q:=by
 unfold Nr at h;simp only[Bool.and_eq_true]at h;obtain⟨U,V,X,Y⟩:=h;have J:ops.toList.length=ops.size:=Array.length_toList;have hq:q<ops.size:=by rw[←J];exact xm U
 have u:∀i (hi:i<ops.size),nth ops.toList i=some ops[i]:=λi hi=>by rw[jY];simp[hi]
 have C:∀k j (G:k<ops.size),Jx ops.toList k j=true->∃e∈ops[k].after,Region.binds .any e=true/\e.on=j:=λk j G e=>by unfold Jx at e;rw[u k G]at e;obtain⟨x,e1,e2⟩:=Nn e;exact⟨x,Array.mem_toList_iff.1 e1,e2⟩
 have late:∀i (hi:i<ops.size),q<i->(∃e∈ops[i].after,Region.binds .any e=true/\q<=e.on)/\∀j b,ops[i].guard=some (j,b)->q+1<=j:=λi hi A=>by
  have:=vP Y i (by rw[J];exact hi);rw[u i hi]at this;simp only[Bool.or_eq_true,Bool.and_eq_true]at this;rcases this with g|⟨T,O⟩
  ·have:=Nat.le_of_ble_eq_true g;omega
  ·obtain⟨x,e1,e2⟩:=qap T;refine⟨⟨x,Array.mem_toList_iff.1 e1,e2⟩,λj b H=> ?_⟩;rw[H]at O;exact Nat.le_of_ble_eq_true O
 refine⟨hq,λi hi=> ?_,λj hj=> ?_,λi hi A=>(late i hi A).1,λi hi A=>(late i hi (by omega)).2⟩
 ·have:=vP V i (by rw[J];exact hi);rw[u i hi]at this;simp only[Bool.and_eq_true]at this;refine⟨λe he Z=>ti this.1 e (Array.mem_toList_iff.2 he) Z,λj b H=> ?_⟩;have g:=this.2;rw[H]at g;exact xm g
 ·have:=vP X j hj;obtain⟨k,k1,N⟩:=SC this;rw[Bool.and_eq_true]at N;have G:k<ops.size:=by omega
  exact⟨k,xm N.1,by omega,G,C k j G N.2⟩
def q8n{P:O7} {ops:Array Oper} {q:Nat} (s:SpX ops q) {Q Q':Exit->Act->World->Prop} (hn:∀a w,Q' .normal a w->wpOp P ops Q q (wpAny P .any (jG ops (q+1)) Q (ops.size- q- 1) (Array.replicate (ops.size- q- 1) false)) a w) (ho:∀e a w,e≠ .normal->Q' e a w->Q e a w):∀(fuel:Nat) (l O:Array Bool) (a:Act) (w:World),Lq ops l->(∀i,q<=i->i<ops.size->∀d,l.getD i d=false)->O.size=q->(∀i,i<q->∀d,O.getD i d=l.getD i d)->wpAny P .any (kY ops q) Q' fuel O a w->wpAny P .any ops Q (fuel+(ops.size- q)) l a w:=by
  have hs:=Fz s.lt;have rd:∀{l O:Array Bool},(∀i,i<q->∀d,O.getD i d=l.getD i d)->∀i,i∈Region.ready .any (kY ops q) O↔i<q/\i∈Region.ready .any ops l:=λ{l O} A i=>by
    rw[ki,ki];constructor
    · rintro⟨H,u,T⟩;have hi:i<q:=(by rw[hs]at H;exact H);have hg:(kY ops q)[i]=ops[i]'(by have:=s.lt;omega):=by have:=Zb s.lt hi;rw[Array.getElem?_eq_getElem H]at this;exact Option.some.inj this
      rw[hg]at T;refine⟨hi,by have:=s.lt;omega,by rw[←A i hi];exact u,λe he C=> ?_⟩;have:=(s.back i (by have:=s.lt;omega)).1 e he C;rw[←A e.on (by omega)];exact T e he C
    · rintro⟨hi,H,u,T⟩;have h1':i<(kY ops q).size:=(by rw[hs];exact hi);have hg:(kY ops q)[i]=ops[i]'H:=by have:=Zb s.lt hi;rw[Array.getElem?_eq_getElem h1']at this;exact Option.some.inj this
      refine⟨h1',by rw[A i hi];exact u,λe he C=> ?_⟩;rw[hg]at he;have:=(s.back i H).1 e he C;rw[A e.on (by omega)];exact T e he C
  have prog :∀{l:Array Bool},Lq ops l->(∀i,i<q->l.getD i true=true)\/∃i,i<q/\i∈Region.ready .any ops l:=λ{l} G=>by
    have step:∀m:Nat,m<=q->(∀i,i<m->l.getD i true=true)\/∃i,i<q/\i∈Region.ready .any ops l:=λm=>by
      induction m with
      |zero=>intro _;exact .inl λi h=>absurd h (by omega)
      | succ m ih=>
        intro hm;rcases ih (by omega)with h|h
        · have hms:m<ops.size:=by have:=s.lt;omega
          cases C:l.getD m true with
          | true=>
            refine .inl λi hi=> ?_;by_cases e:i=m
            · rw[e];exact C
            · exact h i (by omega)
          | false=>
            refine .inr ⟨m,by omega,ki.2 ⟨hms,C,λe he hbb=> ?_⟩⟩;have:=(s.back m hms).1 e he hbb;rw[Js (by rw[G.size];omega) false true];exact h e.on this
        · exact .inr h
    exact step q (Nat.le_refl _)
  have only:∀{l:Array Bool},Lq ops l->(∀i,q<=i->i<ops.size->∀d,l.getD i d=false)->∀i,q<=i->i∈Region.ready .any ops l->∀j,j<q->l.getD j true=true:=λ{l} G N i hqi hi=>by
    obtain⟨H,u,T⟩:=ki.1 hi;have X:i=q:=by
      by_cases e:i=q
      · exact e
      · obtain⟨x,hx,C,ho'⟩:=s.next i H (by omega);have:=T x hx C;have hxi:=(s.back i H).1 x hx C;rw[N x.on ho' (by omega)]at this;cases this
    subst X;have down:∀d j,i- j<=d->j<i->l.getD j true=true:=λd=>by
      induction d with
      |zero=>intro j h4 h5;omega
      | succ d ih=>
        intro j h4 h5;obtain⟨k,k1,k2,Z,e,he,C,hon⟩:=s.succ j h5;rw[Js (by rw[G.size];omega) true false,←hon];by_cases hki:k=i
        · subst hki;exact T e he C
        · exact G.down k Z (ih k (by omega) (by omega)) e he C
    exactλj Y=>down i j (by omega) Y
  have fin:∀(l:Array Bool) (fuel:Nat) (a:Act) (w:World),ops.size- q<=fuel->Lq ops l->(∀i,q<=i->i<ops.size->∀d,l.getD i d=false)->(∀i,i<q->l.getD i true=true)->Q' .normal a w->wpAny P .any ops Q fuel l a w:=λl fuel a w hf G N hd h=>by
    obtain⟨fuel,rfl⟩:∃n,fuel=n+1:=⟨fuel- 1,by have:=s.lt;omega⟩;have hr:q∈Region.ready .any ops l:=ki.2 ⟨s.lt,by rw[N q (Nat.le_refl _) s.lt],λe he C=>by have:=(s.back q s.lt).1 e he C;rw[Js (by rw[G.size];have:=s.lt;omega) false true];exact hd e.on this⟩;refine⟨λe=>(by rw[e]at hr;cases hr),λi hi=> ?_⟩;have:i=q:=by
      obtain⟨H,u,T⟩:=ki.1 hi;by_cases e:i=q
      · exact e
      · by_cases V:i<q
        · rw[hd i V]at u;cases u
        · obtain⟨x,hx,C,ho'⟩:=s.next i H (by omega);have:=T x hx C;have hxi:=(s.back i H).1 x hx C;rw[N x.on ho' (by omega)]at this;cases this
    subst this;have V:=s.lt;refine wpOp_mono (λa w h=>qfj s.gd (ops.size- i- 1) fuel (l.setIfInBounds i true) (Array.replicate (ops.size- i- 1) false) a w (by omega) (by rw[Array.size_setIfInBounds];exact G.size) (λj Y=> ?_) (λk Z d=> ?_) (by simp;omega) h) (hn a w h)
    · rw[vQ (by rw[G.size];exact V)];by_cases e:j=i
      · rw[if_pos e]
      · rw[if_neg e];exact hd j (by omega)
    · rw[vQ (by rw[G.size];exact V),if_neg (by omega),N (i+1+k) (by omega) Z];simp[Array.getD_eq_getD_getElem?,show k<ops.size- i- 1 by omega]
  intro fuel;induction fuel with
  | zero=>
    intro l O a w G N hs' A h;refine fin l _ a w (by omega) G N ?_ h.2;rcases prog G with hd|⟨i,hi,hr⟩
    · exact hd
    · have:=(rd A i).2 ⟨hi,hr⟩;rw[h.1]at this;cases this
  | succ fuel ih=>
    intro l O a w G N hs' A h;rcases prog G with hd|⟨i,hi,hr⟩
    · refine fin l _ a w (by omega) G N hd (h.1 ?_);rw[List.eq_nil_iff_forall_not_mem];intro i hi;obtain⟨X,hi2⟩:=(rd A i).1 hi;obtain⟨_,u,_⟩:=ki.1 hi2;rw[hd i X]at u;cases u
    · rw [show fuel+1+(ops.size- q)=(fuel+(ops.size- q))+1 by omega];refine⟨λe=>(by rw[e]at hr;cases hr),λk Z=> ?_⟩;have J:k<q:=by
        by_cases J:k<q
        · exact J
        · obtain⟨_,u,_⟩:=ki.1 hr;rw[only G N k (by omega) Z i hi]at u;cases u
      have U:k<ops.size:=by have:=s.lt;omega
      have H:=h.2 k ((rd A k).2 ⟨J,Z⟩);have u:=wpOp_mono (λa w h=>ih (l.setIfInBounds k true) (O.setIfInBounds k true) a w (G.set Z) (λj Y hjs d=>by rw[vQ (by rw[G.size];exact U),if_neg (by omega)];exact N j Y hjs d) (by rw[Array.size_setIfInBounds];exact hs') (λj Y d=>by rw[vQ (l:=O) (by rw[hs'];exact J),vQ (l:=l) (by rw[G.size];exact U),A j Y d]) h) H;unfold wpOp at u⊢;rw[Zb s.lt J]at u;rw[Array.getElem?_eq_getElem U];simp only at u⊢;have hw:Region.wanted ops[k] (yielded (kY ops q) a.tmps)=Region.wanted ops[k] (yielded ops a.tmps):=by
        unfold Region.wanted;cases hg:ops[k].guard with
        |none=>rfl
        | some x=>
          obtain⟨j,b⟩:=x;have Y:=(s.back k U).2 j b hg;simp only;unfold yielded;rw[Zb s.lt (show j<q by omega),Array.getElem?_eq_getElem (by omega)]
      rw[hw]at u;split
      · rename_i hwt;rw[if_pos hwt]at u;exact u.imp (SN ho) λh=>⟨h.1,h.2.elim λa h=>h.elim λw h=>⟨a,w,ho _ _ _ (by simp) h⟩⟩
      · rename_i hwt;rw[if_neg hwt]at u;exact u
section
variable {P:O7} {n:Nat} {ops:Array Oper} {A:List Nat} {pr:vS} {rs:List Rc} {Tt:Nat->T AV} {H:Nat->T AO} {X:Nat->Nat}
def Qj{f:Oper->Bool} {i:Nat} {o:Oper} (h:ops[i]? =some o):flag f ops.toList i=f o:=by
 have:nth ops.toList i=some o:=by rw[jY];simpa using h
 unfold flag;rw[this]
end
end
end Go.Proofs.YtniogjgfomaicaaGreat.Eng
