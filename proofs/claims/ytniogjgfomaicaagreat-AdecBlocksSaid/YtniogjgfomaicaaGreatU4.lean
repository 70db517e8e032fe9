/-
  The machine with unknown values: questions reckoned out of the code. No condition but what its theorems ask.
-/
import Derived.Test.YtniogjgfomaicaaGreatU1
import Derived.Laws.AppendOwn
import Derived.Lib.UnsafeStr
namespace Go.Proofs.YtniogjgfomaicaaGreat.Eng
open Go.RowKit
set_option linter.defProp false
set_option linter.unusedVariables false
set_option linter.unusedSimpArgs false
variable {gl:T AV}
noncomputable section
def AK(h:T AO) (id off:Nat) (x:List AV):Option (T AO):=
 match h.get id with
 |some (.cells e (some fz) g l)=>if fz<=off/\off+x.length<=l.length/\x.all atom=true then T.put 64 id (some (.cells e (some fz) g (spl l off x))) h else none
 |_=>none
variable {F:Bool->Nat->Prop} {I:In} {w:World}
def qad{P:IW} {h h':T AO} (hs:Sim F I h w) {id off b s t:Nat} {x:List AV} {us:List Value} (e:AK h id off x=some h') (hi:I id=some (b,s,t)) (hx:VRs I x us) (nx:Nat):
    ∃w',(storeCells ⟨b,s+off,none⟩ us).run P w= .ok () w'/\Grow F I nx w I nx h' w':=by
  unfold AK at e;split at e
  · rename_i el fz g l hg;split at e
    · rename_i hc;obtain⟨c1,c2,c3⟩:=hc;obtain⟨ob,hb,ho⟩:=hs.obj _ _ _ _ hg hi;cases ho with
      | @cells _ _ _ _ _ pre vs rest fr hv hg' hp ht hf hE=>
        rcases hE with hE|⟨hE,_⟩;case inr=>cases hE
        have hE:=hE.symm;subst hE;have hxl:=hx.len;have hvl:=hv.len;simp only at hp ht hf;have hlen:(vs++rest).length=t:=ht;rw[List.length_append]at hlen;obtain⟨w',h1,h2,h3,h4,h5⟩:=X4 (P:=P) (o:=s+off) us 0 (pre++(vs++rest)) w hb (by simp only[List.length_append];omega) (λj a1 a2=>by have:=hf fz rfl (j- s) (by omega) (by omega);rw[show s+(j- s)=j by omega]at this;exact this) (X6 hx c3);refine⟨w',h1,hs.upd hg rfl hi e h2 ?_ h3 h4 h5 nx⟩;rw[Nat.add_zero,←hp,Fw us pre (vs++rest) off,ET us vs rest off (by omega)];exact .cells (t:=(pre.length,t)) (Az hx off hv) hg' rfl (by simp only[List.length_append,q7q];omega) (by rw[hp];exact hf) (.inl rfl)
    · cases e
  · cases e
def sG(P:IW) (F:Bool->Nat->Prop) (I:In) (nx:Nat) (w:World) (s:Sem Next) (v:AV) (h':T AO) (nx':Nat):Prop:=
 ∃n z I' w',s.run P w= .ok n w'/\(n= .value z\/n= .skip/\z=undef)/\VR I' v z/\Grow F I nx w I' nx' h' w'
def j8:AV:= .tup []
def wZ(I:In):VR I j8 undef:= .tup .nil
def Fy(P:IW) (h:T AO) (t:TypeId) (id off:Nat) (a:AV):Option (T AO):=
 let x:=Z3 a
 match P.info? t with
 |some i=>if x.length=i.size then AK h id off x else none
 |none=>none
def p7{P:IW} {h h':T AO} (hs:Sim F I h w) {t:TypeId} {id off b s k:Nat} {a:AV} {v:Value} (e:Fy P h t id off a=some h') (hi:I id=some (b,s,k)) (ha:VR I a v) (nx:Nat):
  ∃w',(storeVar t ⟨b,s+off,none⟩ v).run P w= .ok () w'/\Grow F I nx w I nx h' w':=by
 unfold Fy at e;simp only at e;split at e
 ·rename_i i hi';split at e
  ·rename_i hl;have hc:=X7 ha;obtain⟨w',h1,h2⟩:=qad (P:=P) hs e hi hc nx;have hsz:v.cells.size=i.size:=(by rw[←Array.length_toList,←hc.len];exact hl);exact⟨w',by simp[storeVar,run_sizeOf hi',hsz,h1,Result.andThen],h2⟩
  ·cases e
 ·cases e
def Ft(P:IW) (h:T AO) (t:TypeId) (id:Nat) (k v:AV):Option (T AO):=none
def YU{P:IW} {b:Nat} {o:Obj} {ms:Array MapEntry} {c:Nat} (h:w.heap[b]? =some (.map ms c)):(setObj b o).run P w= .ok () (y0 w b o):=by simp[setObj,Sem.run,h,y0]
def q8u{P:IW} {h h':T AO} (hs:Sim F I h w) {t:TypeId} {id b:Nat} {n:Nat×Nat} {k v:AV} {u z:Value} (e:Ft P h t id k v=some h') (hi:I id=some (b,n)) (hk:VR I k u) (hv:VR I v z) (nx:Nat):
  ∃w',(Instr.mapUpdate t (.map (some b)) u z).run P w= .ok () w'/\Grow F I nx w I nx h' w':=by unfold Ft at e;cases e
def tf{α:Type}:∀(xs l:List α) (k:Nat),k+xs.length<=l.length->spl l k xs=l.take k++xs++l.drop (k+xs.length)
  | [],l,k,h=>by simp[spl]
  | x::xs,l,k,h=>by simp only[List.length_cons]at h;rw[spl,tf xs (l.set k x) (k+1) (by rw[List.length_set];omega)];have hk:k<l.length:=(by omega);rw[List.take_succ_eq_append_getElem (by rw[List.length_set];exact hk),List.getElem_set_self,List.take_set_of_le (Nat.le_refl _),List.drop_set_of_lt (by omega)];simp only[List.length_cons,List.append_assoc,List.cons_append,List.nil_append];congr 4;omega
variable {F:Bool->Nat->Prop} {w:World}
def qa7{P:IW} {I:In} {h:T AO} (hs:Sim F I h w) {id off n b s t o:Nat} {l:List AV} (e:Q5 h id off n=some l) (hi:I id=some (b,s,t)) (ho:o=s+off\/n=0):
  ∃ys:List Value,VRs I l ys/\ys.length=n/\∀w':World,w'.heap=w.heap->(loadCells ⟨b,o,none⟩ n).run P w'= .ok ⟨ys⟩ w':=by
 obtain⟨ys,g1,g2,g3,c,el,fr,hb,g4⟩:=qey hs e hi;refine⟨ys,g1,g2,λw' hw=> ?_⟩;have:=pU (P:=P) (w:=w') (b:=b) (o:=o) (c:=c) (e:=el) (fr:=fr) (by rw[hw];exact hb) ys (λj v hj=>by
  rcases ho with ho|ho
  ·subst ho;exact g4 j v hj
  ·have:=(List.getElem?_eq_some_iff.1 hj).1;omega)
 rw[g2]at this;exact this
def Y7(P:IW):List TypeId->Bool
  | _::t::_=>match P.underlying t with
    |some (.slice _)|some .string=>true
    |_=>false
  |_=>false
def pK{P:IW} {t0 t1:TypeId} (h:Y7 P [t0,t1]=true):(∃e,P.underlying t1=some (.slice e))\/P.underlying t1=some .string:=by
 simp only[Y7]at h;split at h
 ·rename_i e h1;exact .inl ⟨e,h1⟩
 ·rename_i h1;exact .inr h1
 ·cases h
variable {i:TypeInfo} {base:Option Addr} {v:Value}
def EL{P:IW} {t0 t1 ty e:TypeId} {sLen sCap n:Nat} {us:List Value} (h0:P.underlying t0=some (.slice e)) (hz:Y7 P [t0,t1]=true) (hi:P.info? e=some i)
  (hl:(Builtin.lenOf v).run P w= .ok n w) (hf:(Builtin.firstCells i.size n v).run P w= .ok ⟨us⟩ w) (hr:sLen+n<=sCap):
  (Builtin.append_ ⟨[t0,t1]⟩ ty ⟨[.slice base sLen sCap,v]⟩).run P w=(match base with|some a=>(storeCells (a.add (sLen*i.size)) us).run P w|none=> .ok () w).andThen (λ_ w=> .ok (.slice base (sLen+n) sCap) w):=by
 simp only[Builtin.append_,List.getElem?_toArray,List.getElem?_cons_zero,List.getElem?_cons_succ,Sem.run_bind,run_underlying h0,Result.andThen,run_sizeOf hi];rcases pK hz with⟨e',hu⟩|hu
 ·simp[run_underlying hu,Result.andThen,hl,hr,hf];cases base<;>simp[Result.andThen]
 ·simp[run_underlying hu,Result.andThen,hl,hr,hf];cases base<;>simp[Result.andThen]
def q7f{P:IW} {t0 t1 ty e:TypeId} {z:Value} {sLen sCap n:Nat} {us os:List Value} (h0:P.underlying t0=some (.slice e)) (hz:Y7 P [t0,t1]=true) (hi:P.info? e=some i) (hzv:i.zero=some z)
  (hl:(Builtin.lenOf v).run P w= .ok n w) (hf:∀w':World,w'.heap=w.heap->(Builtin.firstCells i.size n v).run P w'= .ok ⟨us⟩ w') (ho:∀w':World,w'.heap=w.heap->(Builtin.firstCells i.size sLen (.slice base sLen sCap)).run P w'= .ok ⟨os⟩ w') (hr:¬sLen+n<=sCap) (hb:0<i.bytes) (hbig:(sLen+n)*i.bytes<=140737488355328):
  (Builtin.append_ ⟨[t0,t1]⟩ ty ⟨[.slice base sLen sCap,v]⟩).run P w= .ok (.slice (some ⟨w.heap.size,0,none⟩) (sLen+n) (grownCap w (sLen+n) sCap e)) (w.drew.alloc (.cells (⟨os⟩++(⟨us⟩++Builtin.zeroCells z.cells (grownCap w (sLen+n) sCap e- (sLen+n)))) e)):=by
 have hne:¬i.bytes=0:=by omega
 have hfit:=growslice_fits (bytes:=i.bytes) (Nat.lt_of_not_le hr) hbig;have hti:(typeInfo e).run P w= .ok i w:=by simp[typeInfo,program,Sem.run,hi,bind,Sem.bind,pure]
 have hti':(typeInfo e).run P w.drew= .ok i w.drew:=by simp[typeInfo,program,Sem.run,hi,bind,Sem.bind,pure]
 have hzr:(zeroValue e).run P w.drew= .ok z w.drew:=by simp[zeroValue,typeInfo,program,Sem.run,hi,bind,Sem.bind,pure,hzv]
 have hnb:¬Builtin.nextslicecap (sLen+n) sCap*i.bytes>2 ^ 48:=by omega
 have hroomrun:∀k,(askRoom k).run P w.drew= .ok () w.drew:=λk=>by unfold askRoom;split<;>rfl
 have ho':=ho w.drew rfl;have hf':=hf w.drew rfl;simp only[Builtin.append_,List.getElem?_toArray,List.getElem?_cons_zero,List.getElem?_cons_succ,Sem.run_bind,run_underlying h0,Result.andThen,run_sizeOf hi];rcases pK hz with⟨e',hu⟩|hu
 ·simp[run_underlying hu,Result.andThen,hl,hr,hti,hti',hne,hnb,Question.forced,hroomrun,ho',hf',hzr,newRow,newObj,Sem.run,grownCap];rfl
 ·simp[run_underlying hu,Result.andThen,hl,hr,hti,hti',hne,hnb,Question.forced,hroomrun,ho',hf',hzr,newRow,newObj,Sem.run,grownCap];rfl
def Fs(P:IW) (h:T AO) (nx:Nat) (ts:List TypeId) (d x:AV):Option (AV×T AO×Nat):=none
def Sim.push'{F I h w} (s:Sim F I h w) {nx t o h'} (hi:I nx=none) (hF:∀b,F true b->b<w.heap.size) (hp:T.put 64 nx (some o) h=some h') {ob:Obj} (ho:OR (ext I nx (w.heap.size,t)) t o ob):
  Grow F I nx w (ext I nx (w.heap.size,t)) (nx+1) h' (w.drew.alloc ob):=s.push hi hF hp rfl ho ⟨rfl,rfl,rfl⟩
def Sim.drop{F I h w} (s:Sim F I h w) {id h1} (hp:T.put 64 id none h=some h1):Sim F I h1 w:=by
 have hg:=T.get_put _ _ _ _ _ hp;have sub:∀k o,h1.get k=some o->h.get k=some o:=λk o hk=>by
  rw[hg]at hk;split at hk
  ·cases hk
  ·exact hk
 exact⟨λk o b t a c=>s.obj k o b t (sub _ _ a) c,λk k' o o' b t t' a c=>s.inj k k' o o' b t t' (sub _ _ a) (sub _ _ c),λk o b t a c=>s.fr k o b t (sub _ _ a) c⟩
def qc6{P:IW} {e:TypeId} {z:List AV} (hi:P.info? e=some i) (h:uY P e=some z):∃zv,i.zero=some zv/\zv.cells.size=z.length:=by
 unfold uY at h;rw[hi]at h;simp only at h;split at h
 ·rename_i zv hz;exact⟨zv,hz,by rw[←Array.length_toList,←(ofVals_rel (λ_=>none) _ _ h).len]⟩
 ·cases h
def q8s{P:IW} {I:In} {h h':T AO} (hs:Sim F I h w) (hF:∀b,F true b->b<w.heap.size) {nx nx':Nat} {ts:List TypeId} {ty:TypeId} {d x r:AV} {u v:Value} (e:Fs P h nx ts d x=some (r,h',nx')) (hfr:∀i,nx<=i->i<nx'->I i=none) (hd:VR I d u) (hx:VR I x v):
  ∃z I' w',(Builtin.append_ ⟨ts⟩ ty ⟨[u,v]⟩).run P w= .ok z w'/\VR I' r z/\Grow F I nx w I' nx' h' w':=by unfold Fs at e;cases e
def EV(P:IW) (h:T AO) (t:TypeId) (id:Nat) (k:AV):Option (AV×T AO):=none
variable {F:Bool->Nat->Prop} {w:World}
def q6b{P:IW} {I:In} {h h':T AO} (hs:Sim F I h w) {t:TypeId} {id b:Nat} {n:Nat×Nat} {k r:AV} {u:Value} (e:EV P h t id k=some (r,h')) (hi:I id=some (b,n)) (hk:VR I k u) (nx:Nat):
  ∃z w',(Instr.mapEntry t (.map (some b)) u).run P w= .ok z w'/\VR I r z/\Grow F I nx w I nx h' w':=by unfold EV at e;cases e
def EK(h:T AO) (id:Nat) (s v:AV):Option (T AO):=none
def q4s{P:IW} {I:In} {h h':T AO} (hs:Sim F I h w) {t:TypeId} {id b:Nat} {n:Nat×Nat} {s v:AV} {u z:Value} (e:EK h id s v=some h') (hi:I id=some (b,n)) (hk:VR I s u) (hv:VR I v z) (nx:Nat):
  ∃w',(Instr.entryStore t (.map (some b)) u z).run P w= .ok () w'/\Grow F I nx w I nx h' w':=by unfold EK at e;cases e
def Sh(P:IW) (h:T AO) (ts:List TypeId) (l:List AV):Option (AV×T AO):=none
variable {F:Bool->Nat->Prop} {w:World}
def qck{P:IW} {I:In} {h h':T AO} (hs:Sim F I h w) {ts:List TypeId} {ty:TypeId} {l:List AV} {vs:List Value} {r:AV} (e:Sh P h ts l=some (r,h')) (hl:VRs I l vs) (nx:Nat):
  ∃z w',(Builtin.unsafeString_ ⟨ts⟩ ty ⟨vs⟩).run P w= .ok z w'/\VR I r z/\Grow F I nx w I nx h' w':=by unfold Sh at e;cases e
def Sg(P:IW) (h:T AO) (s:TypeId) (a:AV):Option (AV×T AO):=none
def qci{P:IW} {I:In} {h h':T AO} (hs:Sim F I h w) {s:TypeId} {a r:AV} {u:Value} (e:Sg P h s a=some (r,h')) (ha:VR I a u) (nx:Nat):
  ∃z w',(convert s s u).run P w= .ok z w'/\VR I r z/\Grow F I nx w I nx h' w':=by unfold Sg at e;cases e
def Y0(P:IW) (h:T AO) (nx:Nat) (ts:List TypeId) (d x:AV):Option (AV×T AO×Nat):=none
variable {ts:List TypeId}
def q77{P:IW} {h h':T AO} {nx nx':Nat} {d x r:AV} (e:Y0 P h nx ts d x=some (r,h',nx')):nx<=nx':=by
 unfold Y0 at e;repeat' split at e
 all_goals (try (cases e;done))
 all_goals (simp only[Option.some.injEq,Prod.mk.injEq]at e;omega)
variable {F:Bool->Nat->Prop} {I:In} {w:World}
def q78{P:IW} {h h':T AO} (hs:Sim F I h w) (hF:∀b,F true b->b<w.heap.size) {nx nx':Nat} {ts:List TypeId} {ty:TypeId} {d x r:AV} {u v:Value} (e:Y0 P h nx ts d x=some (r,h',nx')) (hfr:∀i,nx<=i->i<nx'->I i=none) (hd:VR I d u) (hx:VR I x v):
  ∃z I' w',(Builtin.append_ ⟨ts⟩ ty ⟨[u,v]⟩).run P w= .ok z w'/\VR I' r z/\Grow F I nx w I' nx' h' w':=by unfold Y0 at e;cases e
def YZ(P:IW) (h:T AO) (nx:Nat) (ts:List TypeId) (d x:AV):Option (AV×T AO×Nat):=
 match Fs P h nx ts d x with
 |some r=>some r
 |none=>Y0 P h nx ts d x
def pL{P:IW} {h h':T AO} {nx nx':Nat} {d x r:AV} (e:YZ P h nx ts d x=some (r,h',nx')):nx<=nx':=by
 unfold YZ at e;split at e
 ·rename_i q hq;cases e;unfold Fs at hq;repeat' split at hq
  all_goals (try (cases hq;done))
  all_goals (simp only[Option.some.injEq,Prod.mk.injEq]at hq;omega)
 ·exact q77 e
def q76{P:IW} {h h':T AO} (hs:Sim F I h w) (hF:∀b,F true b->b<w.heap.size) {nx nx':Nat} {ts:List TypeId} {ty:TypeId} {d x r:AV} {u v:Value} (e:YZ P h nx ts d x=some (r,h',nx')) (hfr:∀i,nx<=i->i<nx'->I i=none) (hd:VR I d u) (hx:VR I x v):
  ∃z I' w',(Builtin.append_ ⟨ts⟩ ty ⟨[u,v]⟩).run P w= .ok z w'/\VR I' r z/\Grow F I nx w I' nx' h' w':=by
 unfold YZ at e;split at e
 ·rename_i q hq;cases e;exact q8s hs hF hq hfr hd hx
 ·exact q78 hs hF e hfr hd hx
def Se(P:IW) (h:T AO) (ts:List TypeId) (d x:AV):Option (AV×T AO):=none
def qcg{P:IW} {h h':T AO} (hs:Sim F I h w) {ts:List TypeId} {ty:TypeId} {d x r:AV} {u v:Value} (e:Se P h ts d x=some (r,h')) (hd:VR I d u) (hx:VR I x v) (nx:Nat):
  ∃z w',(Builtin.copy_ ⟨ts⟩ ty ⟨[u,v]⟩).run P w= .ok z w'/\VR I r z/\Grow F I nx w I nx h' w':=by unfold Se at e;cases e
def uf (P:IW) (t:T AV) (h:T AO) (nx:Nat) (o:Oper):Option (AV×T AO×Nat):=
  match o.op with
  | .store ty x y=>match ev t x,ev t y with
    |some (.ptr id off),some a=>(match Fy P h ty id off a with|some h'=>some (j8,h',nx)|none=>none)
    |_,_=>none
  | .mapUpdate ty m k x| .insert ty m k x=>match ev t m,ev t k,ev t x with
    |some (.map id),some a,some b=>(match Ft P h ty id a b with|some h'=>some (j8,h',nx)|none=>none)
    |_,_,_=>none
  | .mapEntry ty m k=>match ev t m,ev t k with
    |some (.map id),some a=>(match EV P h ty id a with|some (v,h')=>some (v,h',nx)|none=>none)
    |_,_=>none
  | .entryStore ty m s x=>match ev t m,ev t s,ev t x with
    |some (.map id),some a,some b=>(match EK h id a b with|some h'=>some (j8,h',nx)|none=>none)
    |_,_,_=>none
  | .convert s d x=>match Nat.beq s d with
    | true=>match ev t x with
      |some a=>(match Sg P h s a with|some (v,h')=>some (v,h',nx)|none=>none)
      |none=>none
    |false=>none
  | .call c=>match c.callee with
    | .builtin .append=>match ki t c.args.toList with
      |some [d,x]=>YZ P h nx c.argTypes.toList d x
      |_=>none
    | .builtin .copy=>match ki t c.args.toList with
      | some [d,x]=>match Se P h c.argTypes.toList d x with
        |some (v,h')=>some (v,h',nx)
        |none=>none
      |_=>none
    | .builtin .unsafeString=>match ki t c.args.toList with
      | some l=>match Sh P h c.argTypes.toList l with
        |some (v,h')=>some (v,h',nx)
        |none=>none
      |none=>none
    |_=>none
  |_=>none
def Wv{a b:AV} {vs:List Value} (h:VRs I [a,b] vs):∃v u,vs=[v,u]/\VR I a v/\VR I b u:=by cases h with|cons h t=>obtain⟨u,rfl,h2⟩:=ud t;exact⟨_,_,rfl,h,h2⟩
def te{P:IW} {t:T AV} {h h':T AO} {a:Act} {o:Oper} {nx nx':Nat} {r:AV} (e:uf P t h nx o=some (r,h',nx')) (ht:TR I t a.tmps) (hs:Sim F I h w) (hF:∀b,F true b->b<w.heap.size) (hfr:∀i,nx<=i->i<nx'->I i=none):
    nx<=nx'/\sG P F I nx w (execOp a.eval o) r h' nx':=by
  obtain⟨dst,op,ty,pos,after,guard⟩:=o;have mapUp:∀(lt:TypeId) (m k x:Operand),(match ev t m,ev t k,ev t x with
    |some (.map id),some a,some b=>(match Ft P h lt id a b with|some h'=>some (j8,h',nx)|none=>none)
    |_,_,_=>none)=some (r,h',nx')->nx<=nx'/\sG P F I nx w (do Instr.mapUpdate lt (a.eval m) (a.eval k) (a.eval x);pure Next.skip) r h' nx':=λlt m k x e=>by
    split at e
    · rename_i hm hk hx;split at e
      · rename_i h2 hp;cases e;have h1:=qj ht hm;generalize hv:a.eval m=v at h1;cases h1 with
        | map hI=>
          obtain⟨w',g1,g2⟩:=q8u (P:=P) hs hp hI (qj ht hk) (qj ht hx) nx;exact⟨Nat.le_refl _,_,_,I,w',by simp[g1,Result.andThen], .inr ⟨rfl,rfl⟩,wZ I,g2⟩
      · cases e
    · cases e
  cases op with
  | store st x y=>
    simp only[uf]at e;split at e
    · rename_i id off v hx hy;split at e
      · rename_i h2 hp;cases e;have h1:=qj ht hx;generalize hv:a.eval x=xv at h1;cases h1 with
        | ptr hI=>
          obtain⟨w',g1,g2⟩:=p7 (P:=P) hs hp hI (qj ht hy) nx;exact⟨Nat.le_refl _,_,_,I,w',by simp[execOp,Instr.storeAt,hv,Instr.sureAddr,g1,Result.andThen], .inr ⟨rfl,rfl⟩,wZ I,g2⟩
      · cases e
    · cases e
  |mapUpdate mt m k x=>exact mapUp mt m k x e
  |insert mt m k x=>exact mapUp mt m k x e
  | mapEntry mt m k=>
    simp only[uf]at e;split at e
    · rename_i id v hm hk;split at e
      · rename_i v2 h2 hp;cases e;have h1:=qj ht hm;generalize hv:a.eval m=mv at h1;cases h1 with
        | map hI=>
          obtain⟨z,w',g1,g2,g3⟩:=q6b (P:=P) hs hp hI (qj ht hk) nx;exact⟨Nat.le_refl _,_,z,I,w',by simp[execOp,hv,g1,Result.andThen], .inl rfl,g2,g3⟩
      · cases e
    · cases e
  | entryStore mt m s x=>
    simp only[uf]at e;split at e
    · rename_i id v1 v2 hm hk hx;split at e
      · rename_i h2 hp;cases e;have h1:=qj ht hm;generalize hv:a.eval m=mv at h1;cases h1 with
        | map hI=>
          obtain⟨w',g1,g2⟩:=q4s (P:=P) (t:=mt) hs hp hI (qj ht hk) (qj ht hx) nx;exact⟨Nat.le_refl _,_,_,I,w',by simp[execOp,hv,g1,Result.andThen], .inr ⟨rfl,rfl⟩,wZ I,g2⟩
      · cases e
    · cases e
  | convert s d x=>
    simp only[uf]at e;split at e
    · rename_i hsd;have:=Nat.eq_of_beq_eq_true hsd;subst this;split at e
      · rename_i av hx;split at e
        · rename_i v0 h2 hp;cases e;obtain⟨z,w',g1,g2,g3⟩:=qci (P:=P) hs hp (qj ht hx) nx;exact⟨Nat.le_refl _,_,z,I,w',by simp[execOp,g1,Result.andThen], .inl rfl,g2,g3⟩
        · cases e
      · cases e
    · cases e
  | call c=>
    simp only[uf]at e;split at e
    · rename_i hb;split at e
      · rename_i d x hargs;have hr:=k_ ht hargs;obtain⟨v,u,hv,h1,h2⟩:=Wv hr;have hnx:nx<=nx':=pL e;obtain⟨z,I',w',g1,g2,g3⟩:=q76 (P:=P) (ty:=ty) hs hF e hfr h1 h2;refine⟨hnx,_,z,I',w',?_, .inl rfl,g2,g3⟩;have e2:c.args.map a.eval=⟨[v,u]⟩:=(by apply Array.toList_inj.1;simpa using hv);simp only[execOp,resolve,hb,Sem.run_bind,Sem.run_pure,Result.andThen,invoke,builtin];rw[e2];simp[g1]
      · cases e
    · rename_i hb;split at e
      · rename_i d x hargs;split at e
        · rename_i v0 h2 hp;cases e;have hr:=k_ ht hargs;obtain⟨v,u,hv,h1,h3⟩:=Wv hr;obtain⟨z,w',g1,g2,g3⟩:=qcg (P:=P) (ty:=ty) hs hp h1 h3 nx;refine⟨Nat.le_refl _,_,z,I,w',?_, .inl rfl,g2,g3⟩;have e2:c.args.map a.eval=⟨[v,u]⟩:=(by apply Array.toList_inj.1;simpa using hv);have e3:(⟨c.argTypes.toList⟩:Array TypeId)=c.argTypes:=rfl;rw[e3]at g1;simp only[execOp,resolve,hb,Sem.run_bind,Sem.run_pure,Result.andThen,invoke,builtin];rw[e2];simp[g1,Result.andThen]
        · cases e
      · cases e
    · rename_i hb;split at e
      · rename_i l hargs;split at e
        · rename_i v0 h2 hp;cases e;obtain⟨z,w',g1,g2,g3⟩:=qck (P:=P) (ty:=ty) hs hp (k_ ht hargs) nx;refine⟨Nat.le_refl _,_,z,I,w',?_, .inl rfl,g2,g3⟩;have e2:(⟨c.args.toList.map a.eval⟩:Array Value)=c.args.map a.eval:=(by apply Array.toList_inj.1;simp);rw[e2]at g1;have e3:(⟨c.argTypes.toList⟩:Array TypeId)=c.argTypes:=rfl;rw[e3]at g1;simp only[execOp,resolve,hb,Sem.run_bind,Sem.run_pure,Result.andThen,invoke,builtin];simp[g1,Result.andThen]
        · cases e
      · cases e
    · cases e
  |_=>simp[uf]at e
def ZE(gl:T AV) (I:In):Prop:=∀n a,gl.get n=some a->jB<=n/\VR I a (.pointer (some ⟨n- jB,0,none⟩))
def ZE.mono{I J:In} (hl:I.le J) (h:ZE gl I):ZE gl J:=λn a e=>⟨(h n a e).1,(h n a e).2.mono hl⟩
structure St(gl:T AV) (F:Bool->Nat->Prop) (I:In) (t:T AV) (h:T AO) (n:Nat) (a:Act) (w:World):Prop where
 tr:TR I t a.tmps
 size:a.tmps.size=n
 defers:a.defers=[]
 sim:Sim F I h w
 low:∀b,F true b->b<w.heap.size
 gok:ZE gl I
 zf:∀b,F false b->F true b
def vd(I:In) (nx nx':Nat):Prop:=∀i,nx<=i->i<nx'->I i=none
def yz(n:Nat) (dst:Option Tmp) (v:AV) (t:T AV):Option (T AV):=
 match dst with
 |none=>some t
 |some d=>if d<n then(if d<jB then T.put 64 d (some v) t else none)else none
def Ax {I:In} {n:Nat} {dst:Option Tmp} {v:AV} {t t':T AV} {a:Act} {z:Value} (e:yz n dst v t=some t') (ht:TR I t a.tmps) (hn:a.tmps.size=n) (hv:VR I v z):TR I t' (a.put dst z).tmps/\(a.put dst z).tmps.size=n/\(a.put dst z).defers=a.defers:=by
  unfold yz at e;cases dst with
  |none=>cases e;exact⟨ht,hn,rfl⟩
  | some d=>
    simp only at e;split at e
    · rename_i hd;split at e
      · rename_i hdg;have hg:=T.get_put _ _ _ _ _ e;refine⟨λk b hk=> ?_,by simp[Act.put,hn],rfl⟩;rw[hg]at hk;simp only[Act.put];split at hk
        · rename_i hkd;subst hkd;cases hk;have:(a.tmps.setIfInBounds k z).getD k undef=z:=(by rw[Array.getD_eq_getD_getElem?,Array.getElem?_setIfInBounds_self_of_lt (by rw[hn];exact hd)];rfl);rw[QV hdg,this];exact hv
        · rename_i hkd;have h1:=ht k b hk;unfold slot at h1⊢;split
          · rename_i hkg;rw[if_pos hkg]at h1;have:(a.tmps.setIfInBounds d z).getD k undef=a.tmps.getD k undef:=(by rw[Array.getD_eq_getD_getElem?,Array.getElem?_setIfInBounds_ne (by omega),←Array.getD_eq_getD_getElem?]);rw[this];exact h1
          · rename_i hkg;rw[if_neg hkg]at h1;exact h1
      · cases e
    · cases e
def Y3(t:T AV) (o:Oper):Option (Nat×List AV):=
  match o.op with
  | .call c=>match c.callee with
    | .value f=>match ev t f,ki t c.args.toList with
      |some (.fn g caps),some l=>some (g,l++caps)
      |some (.bfn g first caps),some l=>some (g,first++(l++caps))
      |_,_=>none
    |_=>none
  |_=>none
def pQ{P:IW} {I:In} {t:T AV} {o:Oper} {a:Act} {g:Nat} {l:List AV} (e:Y3 t o=some (g,l)) (ht:TR I t a.tmps):∃vs,VRs I l vs/\∀w,(execOp a.eval o).run P w=(callFunc g ⟨vs⟩).run P w:=by
  obtain⟨dst,op,ty,pos,after,guard⟩:=o;cases op with
  | call c=>
    simp only[Y3]at e;split at e
    · rename_i f hc;split at e
      · rename_i g caps l0 h1 h2;cases e;have r1:=qj ht h1;have r2:=k_ ht h2;generalize hv:a.eval f=fv at r1;cases r1 with
        | @fn _ _ cs hcs=>
          refine⟨c.args.toList.map a.eval++cs,r2.append hcs,λw=> ?_⟩;simp only[execOp,resolve,hc,hv,Deferred.ofValue,Sem.run_bind,Sem.run_pure,Result.andThen,invoke];congr 2;apply Array.toList_inj.1;simp
      · rename_i g first caps l0 h1 h2
        cases e;have r1:=qj ht h1;have r2:=k_ ht h2;generalize hv:a.eval f=fv at r1;cases r1 with
        | @bfn _ _ _ fs cs hfs hcs=>
          refine⟨fs++(c.args.toList.map a.eval++cs),hfs.append (r2.append hcs),λw=> ?_⟩;simp only[execOp,resolve,hc,hv,Deferred.ofValue,Sem.run_bind,Sem.run_pure,Result.andThen,invoke];congr 2;apply Array.toList_inj.1;simp
      · cases e
    · cases e
  |_=>simp[Y3]at e
def keep(h:T AO) (nx:Nat):Option AV->Option (AV×T AO×Nat)
 |some v=>some (v,h,nx)
 |none=>none
def first(a b:Option (AV×T AO×Nat)):Option (AV×T AO×Nat):=
 match a with
 |some r=>some r
 |none=>b
def qiz(gl:T AV) (P:IW) (t:T AV) (h:T AO) (nx:Nat) (o:Oper) (r:AV) (h':T AO) (nx':Nat):Prop:=
 nx<=nx'/\∀(F:Bool->Nat->Prop) (I:In) (n:Nat) (a:Act) (w:World),St gl F I t h n a w->vd I nx nx'->∀(K:Act->World->Prop) (Q:Exit->Act->World->Prop),
  (∀z I' w',VR I' r z->Grow F I nx w I' nx' h' w'->K (a.put o.dst z) w')->o.wp P a w K Q
def qkj {P:IW} {t:T AV} {h:T AO} {nx:Nat} {o:Oper} {r:AV} {h':T AO} {nx':Nat} (e:uf P t h nx o=some (r,h',nx')):qiz gl P t h nx o r h' nx':=by
 have hle:nx<=nx'/\True:=by
  obtain⟨dst,op,ty,pos,after,guard⟩:=o;refine⟨?_,trivial⟩;unfold uf at e;simp only at e;split at e;all_goals (try (cases e;done))
  case h_6=>
   split at e
   ·split at e
    ·split at e
     ·cases e;exact Nat.le_refl _
     ·cases e
    ·cases e
   ·cases e
  case h_7=>
   split at e
   ·split at e
    ·exact pL e
    ·cases e
   ·split at e
    ·split at e
     ·cases e;exact Nat.le_refl _
     ·cases e
    ·cases e
   ·split at e
    ·split at e
     ·cases e;exact Nat.le_refl _
     ·cases e
    ·cases e
   ·cases e
  all_goals
   split at e
   ·split at e
    ·cases e;exact Nat.le_refl _
    ·cases e
   ·cases e
 refine⟨hle.1,λF I n a w st fr K Q hk=> ?_⟩;obtain⟨_,nn,z,I',w',g1,g2,g3,g4⟩:=te e st.tr st.sim st.low fr;unfold Oper.wp;rw[g1];rcases g2 with rfl|⟨rfl,rfl⟩
 ·exact hk z I' w' g3 g4
 ·exact hk undef I' w' g3 g4
def Act.put_size(a:Act) (d:Option Tmp) (v:Value):(a.put d v).tmps.size=a.tmps.size:=by cases d<;>simp[Act.put]
inductive AX where
 |nrm
 |ex (id:Nat)
 |rt
def AX.is:AX->Exit->Prop
 | .nrm, .normal=>True
 | .ex i, .exit j=>i=j
 | .rt, .ret=>True
 |_,_=>False
def w_(P:IW) (t:T AV) (h:T AO):List ResultVar->Option (List AV)
  | []=>some []
  | .tmp k::l=>match(if k<jB then t.get k else none)with
    | some v=>match w_ P t h l with
      |some r=>some (v::r)
      |none=>none
    |none=>none
  | .cell k ty::l=>match(if k<jB then t.get k else none)with
    | some (.ptr id off)=>match Wf P h ty id off with
      | some v=>match w_ P t h l with
        |some r=>some (v::r)
        |none=>none
      |none=>none
    |_=>none
def Wk:List AV->AV
 | [v]=>v
 |l=> .tup l
def rh{α β:Type} {P:IW} {w:World} (f:α->Sem β):∀(l:List α) (r:List β),All2 (λx y=>(f x).run P w= .ok y w) l r->(l.mapM f).run P w= .ok r w
  | [],r,h=>by cases h;simp
  | x::l,r,h=>by
    cases h with
    |cons h1 h2=>simp[h1,rh f l _ h2,Result.andThen]
variable {w:World}
def q93{α β:Type} {P:IW} (f:α->Sem β) (l:Array α) (r:List β) (h:All2 (λx y=>(f x).run P w= .ok y w) l.toList r):(l.mapM f).run P w= .ok ⟨r⟩ w:=by rw[Array.mapM_eq_mapM_toList];simp[rh f l.toList r h,Result.andThen]
def EM{P:IW} {F:Bool->Nat->Prop} {I:In} {t:T AV} {h:T AO} {n:Nat} {a:Act} {w:World} (st:St gl F I t h n a w):∀(l:List ResultVar) (r:List AV),w_ P t h l=some r->∃vs,VRs I r vs/\All2 (λ(x:ResultVar) y=>((match x with| .tmp t=>pure (a.tmps.getD t undef)| .cell k t=>do loadVar t (←asAddr (a.tmps.getD k undef))):Sem Value).run P w= .ok y w) l vs
  | [],r,e=>by simp[w_]at e;subst e;exact⟨[], .nil, .nil⟩
  | .tmp k::l,r,e=>by
    simp only[w_]at e;split at e
    · rename_i v hv;split at e
      · rename_i r2 hr;cases e;obtain⟨vs,h1,h2⟩:=EM st l r2 hr;split at hv;case isFalse=>cases hv
        rename_i hkg;have h3:=st.tr k v hv;rw[QV hkg]at h3;exact⟨_, .cons h3 h1, .cons rfl h2⟩
      · cases e
    · cases e
  | .cell k ty::l,r,e=>by
    simp only[w_]at e;split at e
    · rename_i id off hk;split at e
      · rename_i v hv;split at e
        · rename_i r2 hr;cases e;obtain⟨vs,h1,h2⟩:=EM st l r2 hr;split at hk;case isFalse=>cases hk
          rename_i hkg;have h3:=st.tr k _ hk;rw[QV hkg]at h3;generalize hz:a.tmps.getD k undef=z at h3;cases h3 with
          | ptr hI=>
            obtain⟨y,g1,g2⟩:=E_ (P:=P) st.sim hv hI;refine⟨_, .cons g2 h1, .cons ?_ h2⟩;simp[hz,asAddr,g1,Result.andThen]
        · cases e
      · cases e
    · cases e
def pO{P:IW} {F:Bool->Nat->Prop} {I:In} {t:T AV} {h:T AO} {n:Nat} {a:Act} (st:St gl F I t h n a w) {fn:Func} {r:List AV} (e:w_ P t h fn.results.toList=some r):∃v,(results fn a.tmps).run P w= .ok v w/\VR I (Wk r) v:=by
  obtain⟨vs,h1,h2⟩:=EM st _ _ e;have h4:=q93 _ _ _ h2;refine⟨if h:(⟨vs⟩:Array Value).size=1 then(⟨vs⟩:Array Value)[0]else .tuple ⟨vs⟩,?_,?_⟩
  · unfold results;rw[Sem.run_bind];have h5:=congrArg (λr=>Result.andThen r λ(vs:Array Value) w=>Sem.run P (pure (if h:vs.size=1 then vs[0]else .tuple vs)) w) h4;exact h5
  · cases h1 with
    |nil=>exact .tup .nil
    | cons a b=>
      cases b with
      |nil=>exact a
      |cons c d=>exact .tup (.cons a (.cons c d))
def Vn:List AV->Nat->T AV->Option (T AV)
  | [],_,t=>some t
  | a::l,k,t=>match T.put 64 k (some a) t with
    |some t'=>Vn l (k+1) t'
    |none=>none
def E1:∀(l:List AV) (k:Nat) (t t':T AV),Vn l k t=some t'->∀j,t'.get j=if j<k then t.get j else if j<k+l.length then l[j- k]? else t.get j
  | [],k,t,t',e,j=>by simp[Vn]at e;subst e;simp;intros;omega
  | a :: l, k,t,t',e,j=>by
    simp only[Vn]at e;split at e
    · rename_i t1 h1;rw[E1 l (k+1) t1 t' e j,T.get_put _ _ _ _ _ h1];simp only[List.length_cons];by_cases h:j<k
      · rw[if_pos (by omega),if_neg (by omega),if_pos h]
      · rw [if_neg h];by_cases h2:j=k
        · subst h2;simp
        · rw[if_neg (by omega)];by_cases h3:j<k+(l.length+1)
          · rw[if_pos (by omega),if_pos h3];obtain⟨m,hm⟩:∃m,j- k=m+1:=⟨j- k- 1,by omega⟩;rw[hm,List.getElem?_cons_succ];congr 1;omega
          · rw[if_neg (by omega),if_neg h3,if_neg h2]
    · cases e
inductive Kd where
 |q|r|a|s
 deriving DecidableEq
def qG(o:Oper):Bool:=match o.op with
  | .store .. | .mapUpdate .. | .insert .. | .mapEntry .. | .entryStore .. =>true
  | .convert s d _=>Nat.beq s d
  | .call c=>match c.callee with
    | .builtin .append=>true
    | .builtin .copy=>true
    | .builtin .unsafeString=>true
    | .builtin _=>false
    |_=>true
  |_=>false
def kS(P:IW) (o:Oper):Bool:=match o.op with
  | .alloc _| .box .. | .buildSlice .. | .makeMap .. | .makeSlice .. =>true
  | .convert _ d _=>match P.underlying d with
    |some (.slice _)=>true
    |_=>false
  |_=>false
def xS(o:Oper):Bool:=match o.op with
  | .load .. | .lookup .. | .convert .. =>true
  | .call c=>match c.callee with
    | .builtin .len=>true
    |_=>false
  |_=>false
def slotsOf(ops:Array Oper) (o:Oper):List Nat:=
  (o.op.operands.toList.filterMap λ| .tmp t=>some t| .global g=>some (jB+g)|_=>none)++
  (match o.guard with
   | some (g,_)=>match nth ops.toList g with
     | some og=>match og.dst with
       |some d=>[d]
       |none=>[]
     |none=>[]
   |none=>[])
def x0(t:T AV):List Nat->T AV->Option (T AV)
  | [],acc=>some acc
  | n ::l,acc=>match t.get n with
    | some a=>match T.put 64 n (some a) acc with
      |some acc'=>x0 t l acc'
      |none=>none
    |none=>x0 t l acc
def Ai{t:T AV}:∀{l:List Nat} {acc r:T AV},x0 t l acc=some r->∀n a,r.get n=some a->acc.get n=some a\/n∈l/\t.get n=some a
  | [],acc,r,e,n,a,h=>by simp[x0]at e;subst e;exact .inl h
  | m ::l,acc,r,e,n,a,h=>by
    simp only[x0]at e;split at e
    · rename_i b hb;split at e
      · rename_i acc' hp;rcases Ai e n a h with h1|⟨h1,h2⟩
        · rw[T.get_put _ _ _ _ _ hp]at h1;split at h1
          · rename_i hn;subst hn;cases h1;exact .inr ⟨by simp,hb⟩
          · exact .inl h1
        · exact .inr ⟨by simp[h1],h2⟩
      · cases e
    · rcases Ai e n a h with h1|⟨h1,h2⟩
      · exact .inl h1
      · exact .inr ⟨by simp[h1],h2⟩
structure Rc where
 o:Oper
 w:Bool
 k:Kd
 t:T AV
 v:AV
 ob:Option AO
 nx:Nat
 h:T AO
def Q4(acc:List Nat) (i:Nat):List Edge->Nat->Option Nat
  | [],m=>some m
  | e ::l,m=>match Region.binds .any e with
    | true=>match Nat.blt e.on i with
      | true=>match nth acc e.on with
        |some k=>Q4 acc i l (Nat.lor m (Nat.lor (Nat.pow 2 e.on) k))
        |none=>none
      |false=>none
    |false=>Q4 acc i l m
def vL:List Oper->Nat->List Nat->Option (List Nat)
  | [],_,acc=>some acc
  | o::l,i,acc=>match Q4 acc i o.after.toList 0 with
    |some m=>vL l (i+1) (acc++[m])
    |none=>none
def Ar (acc:List Nat) (i:Nat):∀(l:List Edge) (m r:Nat),Q4 acc i l m=some r->∀j,r.testBit j=true->m.testBit j=true\/∃e∈l,Region.binds .any e=true/\e.on<i/\(j=e.on\/∃k,acc[e.on]? =some k/\k.testBit j=true)
  | [],m,r,h,j,hj=>by simp[Q4]at h;subst h;exact .inl hj
  | e :: l, m,r,h,j,hj=>by
    simp only[Q4]at h;split at h
    · rename_i hb;split at h
      · rename_i hlt;split at h
        · rename_i k hk;rcases Ar acc i l _ r h j hj with h1|⟨e',h1,h2⟩
          · have h1':(m||| (2 ^ e.on|||k)).testBit j=true:=h1;rw[Nat.testBit_or,Nat.testBit_or,Bool.or_eq_true,Bool.or_eq_true]at h1';rcases h1' with h1|h1|h1
            · exact .inl h1
            · refine .inr ⟨e,by simp,hb,by simpa[Nat.blt_eq]using hlt, .inl ?_⟩;rw[Nat.testBit_two_pow]at h1;simpa using(of_decide_eq_true h1).symm
            · exact .inr ⟨e,by simp,hb,by simpa[Nat.blt_eq]using hlt, .inr ⟨k,by rw[←jY];exact hk,h1⟩⟩
          · exact .inr ⟨e',by simp[h1],h2⟩
        · cases h
      · cases h
    · rcases Ar acc i l m r h j hj with h1|⟨e',h1,h2⟩
      · exact .inl h1
      · exact .inr ⟨e',by simp[h1],h2⟩
def K3:∀(l:List Oper) (i:Nat) (acc A:List Nat),acc.length=i->vL l i acc=some A->A.length=i+l.length/\(∀k,k<i->A[k]? =acc[k]?)/\
    ∀k o,l[k]? =some o->∃m,A[i+k]? =some m/\∀j,m.testBit j=true->∃e∈o.after.toList,Region.binds .any e=true/\e.on<i+k/\(j=e.on\/∃q,A[e.on]? =some q/\q.testBit j=true)
  | [],i,acc,A,hl,h=>by simp[vL]at h;subst h;exact⟨by simp[hl],λk _=>rfl,λk o h=>by simp at h⟩
  | o ::l,i,acc,A,hl,h=>by
    simp only[vL]at h;split at h
    · rename_i m hm;obtain⟨h1,h2,h3⟩:=K3 l (i+1) (acc++[m]) A (by simp[hl]) h;have pre:∀k,k<i->A[k]? =acc[k]? :=λk hk=>(by rw[h2 k (by omega),List.getElem?_append_left (by omega)]);refine⟨by rw[h1];simp;omega,pre,λk o' hk=> ?_⟩;cases k with
      | zero=>
        simp at hk;subst hk;refine⟨m,by rw[Nat.add_zero,h2 i (by omega),List.getElem?_append_right (by omega)];simp[hl],λj hj=> ?_⟩;rcases Ar _ _ _ _ _ hm j hj with h4|⟨e,he,hb,hlt,h5⟩
        · simp at h4
        · refine⟨e,he,hb,by omega,h5.imp (λh=>h) λ⟨q,hq,hqj⟩=>⟨q,by rw[pre _ hlt];exact hq,hqj⟩⟩
      | succ k=>
        obtain⟨m',h4,h5⟩:=h3 k o' (by simpa using hk);refine⟨m',by rw[show i+(k+1)=i+1+k by omega];exact h4,λj hj=> ?_⟩;obtain⟨e,he,hb,hlt,h6⟩:=h5 j hj;exact⟨e,he,hb,by omega,h6⟩
    · cases h
def K9(ops:Array Oper) (L:Nat->Prop):Prop:=∀i o,ops[i]? =some o->L i->∀e∈o.after,Region.binds .any e=true->L e.on
variable {ops:Array Oper} {A:List Nat}
def q8z(hA:vL ops.toList 0 []=some A) {L:Nat->Prop} (hL:K9 ops L):∀(i:Nat) (o:Oper),ops[i]? =some o->(∀e∈o.after,Region.binds .any e=true->L e.on)->∀m j,A[i]? =some m->m.testBit j=true->L j:=by
  have hlen:=(K3 ops.toList 0 [] A rfl hA).1;have h3:=(K3 ops.toList 0 [] A rfl hA).2.2;intro i;induction i using Nat.strongRecOn with
  | _ i ih=>
    intro o ho hr m j hm hj;obtain⟨m',h4,h5⟩:=h3 i o (by simpa using ho);rw[Nat.zero_add]at h4;rw[hm]at h4;cases h4;obtain⟨e,he,hb,hlt,h6⟩:=h5 j hj;have hin:e∈o.after:=(by simpa using he);have hLe:=hr e hin hb;rcases h6 with rfl|⟨q,hq,hqj⟩
    · exact hLe
    · have helt:e.on<ops.size:=by have:=(List.getElem?_eq_some_iff.1 hq).1;rw[hlen]at this;simpa using this
      obtain⟨oe,hoe⟩:∃oe,ops[e.on]? =some oe:=⟨_,Array.getElem?_eq_getElem helt⟩;exact ih e.on (by omega) oe hoe (hL e.on oe hoe hLe) q j hq hqj
def qgw(hA:vL ops.toList 0 []=some A):∀(i:Nat) (m j:Nat),A[i]? =some m->m.testBit j=true->j<i:=by
  have hlen:=(K3 ops.toList 0 [] A rfl hA).1;have h3:=(K3 ops.toList 0 [] A rfl hA).2.2;intro i;induction i using Nat.strongRecOn with
  | _ i ih=>
    intro m j hm hj;have hi:i<ops.toList.length:=by have:=(List.getElem?_eq_some_iff.1 hm).1;rw[hlen]at this;omega
    obtain⟨m',h4,h5⟩:=h3 i _ (List.getElem?_eq_getElem hi);rw[Nat.zero_add]at h4;rw[hm]at h4;cases h4;obtain⟨e,he,hb,hlt,h6⟩:=h5 j hj;rcases h6 with rfl|⟨q,hq,hqj⟩
    · omega
    · have:=ih e.on (by omega) q j hq hqj;omega
def EW(acc:List Nat) (i:Nat):∀(l:List Edge) (m r:Nat),Q4 acc i l m=some r->∀e∈l,Region.binds .any e=true->e.on<i
  | [],m,r,h,e,he=>by cases he
  | e0 :: l,m,r,h,e,he=>by
    intro hb;simp only[Q4]at h;split at h
    · rename_i hb0;split at h
      · rename_i hlt;split at h
        · cases he with
          |head=>simpa[Nat.blt_eq]using hlt
          |tail _ he=>exact EW acc i l _ r h e he hb
        · cases h
      · cases h
    · rename_i hb0;cases he with
      |head=>rw[hb]at hb0;cases hb0
      |tail _ he=>exact EW acc i l m r h e he hb
def p6:∀(l:List Oper) (i:Nat) (acc A:List Nat),vL l i acc=some A->∀k o,l[k]? =some o->∀e∈o.after.toList,Region.binds .any e=true->e.on<i+k
  | [],i,acc,A,h,k,o,hk=>by simp at hk
  | o0::l,i,acc,A,h,k,o,hk=>by
    simp only[vL]at h;split at h
    · rename_i m hm;cases k with
      | zero=>
        simp at hk;subst hk
        exactλe he hb=>EW _ _ _ _ _ hm e he hb
      | succ k=>
        intro e he hb;have:=p6 l (i+1) _ A h k o (by simpa using hk) e he hb;omega
    · cases h
def qfg(hA:vL ops.toList 0 []=some A) {i:Nat} {o:Oper} (ho:ops[i]? =some o) {e:Edge} (he:e∈o.after) (hb:Region.binds .any e=true):e.on<i:=by have:=p6 ops.toList 0 [] A hA i o (by simpa using ho) e (by simpa using he) hb;omega
def j0(A:List Nat) (i j:Nat):Bool:=match nth A i with
 |some m=>Nat.testBit m j
 |none=>false
def KY(hA:vL ops.toList 0 []=some A) {L:Nat->Prop} (hL:K9 ops L) {i:Nat} {o:Oper} (ho:ops[i]? =some o) (hr:∀e∈o.after,Region.binds .any e=true->L e.on) {j:Nat} (hb:j0 A i j=true):L j:=by
 unfold j0 at hb;split at hb
 ·rename_i m hm;exact q8z hA hL i o ho hr m j (by rw[←jY];exact hm) hb
 ·cases hb
def AL(hA:vL ops.toList 0 []=some A) {i j:Nat} (hb:j0 A i j=true):j<i:=by
 unfold j0 at hb;split at hb
 ·rename_i m hm;exact qgw hA i m j (by rw[←jY];exact hm) hb
 ·cases hb
def jZ(n:Nat) (p:Nat->Bool):Bool:=match n with
  |0=>true
  | n+1=>match p n with
    |true=>jZ n p
    |false=>false
def vG{p:Nat->Bool}:∀{n:Nat},jZ n p=true->∀i,i<n->p i=true
  |0,_,i,h=>by omega
  | n +1,h,i,hi=>by
    simp only[jZ]at h;split at h
    · rename_i hp;by_cases e:i=n
      · subst e;exact hp
      · exact vG h i (by omega)
    · cases h
def rD{p:Nat->Bool}:∀{n:Nat},(∀i,i<n->p i=true)->jZ n p=true
  |0,_=>rfl
  | n+1,h=>by simp only[jZ];rw[h n (Nat.lt_succ_self n)];exact rD λi hi=>h i (by omega)
def FR(l:List Oper) (i:Nat):Option Nat:=match nth l i with
 |some o=>o.dst
 |none=>none
def flag(f:Oper->Bool) (l:List Oper) (i:Nat):Bool:=match nth l i with
 |some o=>f o
 |none=>false
def Xd:Option Nat->Nat->Bool
 |some a,b=>Nat.beq a b
 |none,_=>false
abbrev vK:=Option (Nat×Nat)
def SO(pr:vK) (i j:Nat):Bool:=match pr with
 |some (p,q)=>Nat.beq i q&&Nat.beq j p
 |none=>false
def qfj{pr:vK} {i j:Nat} (h:SO pr i j=true):pr=some (j,i):=by
 unfold SO at h;split at h
 ·simp only[Bool.and_eq_true]at h;rw[Nat.eq_of_beq_eq_true h.1,Nat.eq_of_beq_eq_true h.2]
 ·cases h
def Vi(P:IW) (ops:Array Oper) (A:List Nat) (pr:vK):Bool:=
  let l:=ops.toList
  let N:=l.length
  jZ N λi=>match nth l i with
    |none=>false
    | some o=>
      (match o.dst with
       |some d=>jZ N λj=>(Nat.beq i j)|| !(Xd (FR l j) d)
       |none=>true)&&
      ((slotsOf ops o).all fun τ=>jZ N λj=>(Nat.beq i j)|| !(Xd (FR l j) τ)||j0 A i j||j0 A j i)&&
      (!(qG o)||jZ i λj=> !(flag qG l j||flag (kS P) l j)||j0 A i j||SO pr i j)
def Fu(l:List Oper) (i:Nat):Bool:=match nth l i with
  | some o=>match o.op with
    | .store .. =>true
    |_=>false
  |none=>false
def FC(n:Nat) (p:Nat->Bool):Option Nat:=match n with
  |0=>none
  | n+1=>match p n with
    |true=>some n
    |false=>FC n p
def s9(P:IW) (ops:Array Oper) (A:List Nat):vK:=
  let l:=ops.toList
  let bad:=λi j=>flag qG l i&&(flag qG l j||flag (kS P) l j)&& !(j0 A i j)
  match FC l.length λi=>match FC i (bad i)with|some _=>true|none=>false with
  | some i=>match FC i (bad i)with
    |some j=>some (j,i)
    |none=>none
  |none=>none
def Fk(P:IW) (ops:Array Oper) (A:List Nat) (p q:Nat):Bool:=
 let l:=ops.toList
 Fu l p&&Fu l q&&Nat.blt p q&&Nat.blt q l.length&&
 jZ l.length λk=>Nat.beq k p||Nat.beq k q|| !(flag qG l k||flag (kS P) l k||flag xS l k)|| (j0 A p k&&j0 A q k)
def Vq(l:List Oper) (e:Nat):Bool:=match e with
 |0=>true
 |e+1=>flag qG l e
def Z8(l:List Oper):Nat->Nat
  |0=>0
  | i+1=>match flag qG l i with
    |true=>i+1
    |false=>Z8 l i
def other(l:List Oper) (A:List Nat) (i e:Nat):Bool:=
  Vq l e&& !(Nat.beq e (Z8 l i))&&
  (match e with
   |0=>true
   |e+1=> !(j0 A e i))&&
  jZ l.length λs=>Nat.blt s e|| !(flag qG l s)|| !(j0 A i s)
def others(l:List Oper) (A:List Nat) (i:Nat):List Nat:=(List.range (l.length+1)).filter (other l A i)
def QM:IntKind->IntKind->Bool
 | .i8, .i8| .i16, .i16| .i32, .i32| .i64, .i64| .u8, .u8| .u16, .u16| .u32, .u32| .u64, .u64=>true
 |_,_=>false
def Z6{a b:IntKind} (h:QM a b=true):a=b:=by cases a<;>cases b<;>first|rfl|cases h
def Xc:List Nat->List Nat->Bool
  | [],[]=>true
  | a::x,b::y=>match Nat.beq a b with
    |true=>Xc x y
    |false=>false
  |_,_=>false
def sL:∀{a b:List Nat},Xc a b=true->a=b
  | [],[],_=>rfl
  | [],_::_,h=>by cases h
  |_::_,[],h=>by cases h
  | a::x,b::y,h=>by
    simp only[Xc]at h;split at h
    · rename_i hb;rw[Nat.eq_of_beq_eq_true hb,sL h]
    · cases h
def F_:List (Int×Nat×Int×Int)->List (Int×Nat×Int×Int)->Bool
 | [],[]=>true
 | (a,b,c,d)::l,(a',b',c',d')::m=>yj a a'&&(Nat.beq b b'&&(yj c c'&&(yj d d'&&F_ l m)))
 |_,_=>false
def sd:∀{a b:List (Int×Nat×Int×Int)},F_ a b=true->a=b
  | [],[],_=>rfl
  | [],_::_,h=>by cases h
  |_::_,[],h=>by cases h
  | (a,b,c,d)::l,(a',b',c',d')::m,h=>by simp only[F_,Bool.and_eq_true]at h;obtain⟨h1,h2,h3,h4,h5⟩:=h;rw[Vm h1,Nat.eq_of_beq_eq_true h2,Vm h3,Vm h4,sd h5]
def Yv:AV->AV->Bool
 | .bool a, .bool b=>a==b
 | .int k a, .int j b=>QM k j&&yj a b
 | .str a, .str b=>Xc a b
 | .nilp, .nilp| .nsl, .nsl| .nmap, .nmap| .nilf, .nilf| .nili, .nili| .ifo, .ifo=>true
 | .ptr a b, .ptr c d=>Nat.beq a c&&Nat.beq b d
 | .sl a b c d, .sl e f g h=>Nat.beq a e&&Nat.beq b f&&Nat.beq c g&&Nat.beq d h
 | .gsl a b c d, .gsl e f g h=>Nat.beq a e&&Nat.beq b f&&Nat.beq c g&&Nat.beq d h
 | .map a, .map b=>Nat.beq a b
 | .anyi k, .anyi j=>QM k j
 | .lin k c l, .lin j d m=>QM k j&&(yj c d&&F_ l m)
 | .ifc t (.ptr a b), .ifc u (.ptr c d)=>Nat.beq t u&&Nat.beq a c&&Nat.beq b d
 |_,_=>false
def AR{a b:AV} (h:Yv a b=true):a=b:=by
 unfold Yv at h;split at h;all_goals (try (cases h;done))
 all_goals (try rfl)
 all_goals (try simp only[Bool.and_eq_true]at h)
 ·simp at h;rw[h]
 ·rw[Z6 h.1];have:=h.2;rw[FB]at this;rw[of_decide_eq_true this]
 ·rw[sL h]
 ·rw[Nat.eq_of_beq_eq_true h.1,Nat.eq_of_beq_eq_true h.2]
 ·rw[Nat.eq_of_beq_eq_true h.1.1.1,Nat.eq_of_beq_eq_true h.1.1.2,Nat.eq_of_beq_eq_true h.1.2,Nat.eq_of_beq_eq_true h.2]
 ·rw[Nat.eq_of_beq_eq_true h.1.1.1,Nat.eq_of_beq_eq_true h.1.1.2,Nat.eq_of_beq_eq_true h.1.2,Nat.eq_of_beq_eq_true h.2]
 ·rw[Nat.eq_of_beq_eq_true h]
 ·rw[Z6 h]
 ·rw[Z6 h.1,Vm h.2.1,sd h.2.2]
 ·rw[Nat.eq_of_beq_eq_true h.1.1,Nat.eq_of_beq_eq_true h.1.2,Nat.eq_of_beq_eq_true h.2]
def Wo:List AV->List AV->Bool
  | [],[]=>true
  | a::x,b::y=>match Yv a b with
    |true=>Wo x y
    |false=>false
  |_,_=>false
def As:∀{a b:List AV},Wo a b=true->a=b
  | [],[],_=>rfl
  | [],_::_,h=>by cases h
  |_::_,[],h=>by cases h
  | a::x,b::y,h=>by
    simp only[Wo]at h;split at h
    · rename_i hb;rw[AR hb,As h]
    · cases h
def SN:AV->AV->Bool
 | .agg x, .agg y=>Wo x y
 | .tup x, .tup y=>Wo x y
 |a,b=>Yv a b
def qfh{a b:AV} (h:SN a b=true):a=b:=by
 unfold SN at h;split at h
 ·rw[As h]
 ·rw[As h]
 ·exact AR h
def uX(rs:List Rc) (hN:T AO) (e:Nat):T AO:=match nth rs e with
 |some c=>c.h
 |none=>hN
def tL:Option Nat->Option Nat->Bool
 |some a,some b=>Nat.beq a b
 |none,none=>true
 |_,_=>false
def qfi{a b:Option Nat} (h:tL a b=true):a=b:=by cases a<;>cases b<;>first|rfl| (rw[Nat.eq_of_beq_eq_true h])|cases h
def cnt:Nat->(Nat->Bool)->Nat
 |0,_=>0
 |n+1,f=>cnt n f+(if f n=true then 1 else 0)
def sK:∀n f,cnt n f<=n
 |0,_=>Nat.le_refl _
 |n+1,f=>by have:=sK n f;simp only[cnt];split<;>omega
def sa:∀n f,cnt n f=n->∀i,i<n->f i=true
  |0,_,_,i,h=>by omega
  | n +1,f,h,i,hi=>by
    have:=sK n f;simp only[cnt]at h;split at h
    · rename_i hn;by_cases e:i=n
      · subst e;exact hn
      · exact sa n f (by omega) i (by omega)
    · omega
def Ab:∀n f g,(∀j,j<n->f j=g j)->cnt n f=cnt n g
 |0,_,_,_=>rfl
 |n+1,f,g,h=>by simp only[cnt];rw[Ab n f g λj hj=>h j (by omega),h n (by omega)]
def sb:∀n (f g:Nat->Bool) i,i<n->f i=false->g i=true->(∀j,j≠i->g j=f j)->cnt n g=cnt n f+1
  |0,_,_,i,h,_,_,_=>by omega
  | n +1,f,g,i,h,h1,h2,h3=>by
    simp only[cnt];by_cases e:i=n
    · subst e;rw[Ab i g f λj hj=>h3 j (by omega),h1,h2];simp
    · rw[sb n f g i (by omega) h1 h2 h3,h3 n (λx=>e x.symm)];omega
def rR{a:Act} {n d τ:Nat} {z:Value} (hn:a.tmps.size=n) (hd:d<n) (hg:d<jB):slot (a.put (some d) z).tmps τ=if τ=d then z else slot a.tmps τ:=by
 unfold slot;simp only[Act.put];by_cases e:τ=d
 ·subst e;rw[if_pos hg,if_pos rfl,Array.getD_eq_getD_getElem?,Array.getElem?_setIfInBounds_self_of_lt (by rw[hn];exact hd)];rfl
 ·rw[if_neg e];split
  ·rw[Array.getD_eq_getD_getElem?,Array.getElem?_setIfInBounds_ne (by omega),←Array.getD_eq_getD_getElem?]
  ·rfl
def Fl{n d:Nat} {v:AV} {t t':T AV} (h:yz n (some d) v t=some t'):d<n/\d<jB/\∀τ,t'.get τ=if τ=d then some v else t.get τ:=by
 simp only[yz]at h;split at h
 ·rename_i h1;split at h
  ·rename_i h2;exact⟨h1,h2,T.get_put _ _ _ _ _ h⟩
  ·cases h
 ·cases h
def u7{a b:Nat} (h:Nat.blt a b=true):a<b:=by simpa[Nat.blt_eq]using h
def yy(j:Nat):List Nat->Nat
  | []=>0
  | i::l=>match Nat.beq i j with
    |true=>0
    |false=>yy j l+1
def Q6(σ:List Nat) (e:Edge):Edge:={e with on:=yy e.on σ}
def yA(σ:List Nat) (o:Oper):Oper:={o with after:=⟨o.after.toList.map (Q6 σ)⟩,guard:=match o.guard with|some (j,b)=>some (yy j σ,b)|none=>none}
def K6(l:List Oper) (σ:List Nat):List Nat->Option (List Oper)
  | []=>some []
  | i ::r=>match nth l i with
    | some o=>match K6 l σ r with
      |some x=>some (yA σ o::x)
      |none=>none
    |none=>none
def je(j:Nat):List Nat->Bool
 | []=>false
 |i::l=>Nat.beq i j||je j l
def Y4(n:Nat):List Edge->Bool
 | []=>true
 |e::l=>Nat.blt e.on n&&Y4 n l
def FG(l:List Oper) (σ:List Nat):Bool:=
 Nat.beq σ.length l.length&&jZ l.length λi=>
  (match nth σ (yy i σ)with|some j=>Nat.beq j i|none=>false)&&
  (match nth σ i with|some j=>Nat.blt j l.length&&Nat.beq (yy j σ) i|none=>false)&&
  (match nth l i with|some o=>Y4 l.length o.after.toList&&(match o.guard with|some (j,_)=>Nat.blt j l.length|none=>true)|none=>false)
def pW{l:List Oper} {σ:List Nat}:∀{r:List Nat} {x:List Oper},K6 l σ r=some x->x.length=r.length/\∀(k i:Nat),r[k]? =some i->∃o,l[i]? =some o/\x[k]? =some (yA σ o)
  | [],x,h=>by cases h;exact⟨rfl,λk i h=>by simp at h⟩
  | i ::r,x,h=>by
    simp only[K6]at h;split at h
    · rename_i o ho;split at h
      · rename_i y hy;cases h;obtain⟨h1,h2⟩:=pW hy;refine⟨by simp[h1],λk j hk=> ?_⟩;cases k with
        |zero=>simp at hk;subst hk;exact⟨o,by rw[←jY];exact ho,rfl⟩
        |succ k=>simpa using h2 k j (by simpa using hk)
      · cases h
    · cases h
structure PermR(ops ops':Array Oper) (τ:Nat->Nat):Prop where
 size:ops'.size=ops.size
 lt:∀i,i<ops.size->τ i<ops.size
 inj:∀i j,i<ops.size->j<ops.size->τ i=τ j->i=j
 sur:∀k,k<ops.size->∃i,i<ops.size/\τ i=k
 op:∀i o,ops[i]? =some o->∃o',ops'[τ i]? =some o'/\(∀P a w K Q,o'.wp P a w K Q=o.wp P a w K Q)/\(∀P a w,o'.asks P a w=o.asks P a w)/\o'.dst=o.dst/\
  (∀l:Array Bool,∀l':Array Bool,(∀j,j<ops.size->∀d,l'.getD (τ j) d=l.getD j d)->(o'.after.all λe=> !Region.binds .any e||l'.getD e.on false)=(o.after.all λe=> !Region.binds .any e||l.getD e.on false))/\
  (∀j b,o.guard=some (j,b)->j<ops.size/\o'.guard=some (τ j,b))/\(o.guard=none->o'.guard=none)
def EP{n:Nat}:∀{l:List Edge},Y4 n l=true->∀e∈l,e.on<n
  | [],_,e,h=>by cases h
  | x::l,h,e,he=>by
    simp only[Y4,Bool.and_eq_true]at h;cases he with
    |head=>exact u7 h.1
    |tail _ he=>exact EP h.2 e he
def tg(σ:List Nat) (o:Oper):(∀P a w K Q,(yA σ o).wp P a w K Q=o.wp P a w K Q)/\(∀P a w,(yA σ o).asks P a w=o.asks P a w):=⟨λ_ _ _ _ _=>rfl,λ_ _ _=>rfl⟩
variable {ops:Array Oper}
def FN{σ:List Nat} {x:List Oper} (h:FG ops.toList σ=true) (hx:K6 ops.toList σ σ=some x):PermR ops ⟨x⟩ λi=>yy i σ:=by
  unfold FG at h;rw[Bool.and_eq_true]at h;obtain⟨h0,h⟩:=h;have hl:σ.length=ops.size:=by have:=Nat.eq_of_beq_eq_true h0;simpa using this
  have hn:ops.toList.length=ops.size:=by simp
  rw[hn]at h;have H:=vG h;obtain⟨x1,x2⟩:=pW hx;have key:∀i,i<ops.size->σ[yy i σ]? =some i:=λi hi=>by
    have:=H i hi;simp only[Bool.and_eq_true]at this;have:=this.1.1;split at this
    · rename_i j hj;rw[jY]at hj;rw[hj,Nat.eq_of_beq_eq_true this]
    · cases this
  have back:∀k,k<ops.size->∃j,σ[k]? =some j/\j<ops.size/\yy j σ=k:=λk hk=>by
    have:=H k hk;simp only[Bool.and_eq_true]at this;have:=this.1.2;split at this
    · rename_i j hj;simp only[Bool.and_eq_true]at this;rw[jY]at hj;exact⟨j,hj,u7 this.1,Nat.eq_of_beq_eq_true this.2⟩
    · cases this
  refine⟨by simpa[x1]using hl,λi hi=> ?_,λi j hi hj e=> ?_,λk hk=> ?_,λi o ho=> ?_⟩
  · have:=(List.getElem?_eq_some_iff.1 (key i hi)).1;omega
  · have h1:=key i hi;have h2:=key j hj;have e:yy i σ=yy j σ:=e;rw[e,h2]at h1;cases h1;rfl
  · obtain⟨j,h1,h2,h3⟩:=back k hk;exact⟨j,h2,h3⟩
  · have hi:i<ops.size:=(Array.getElem?_eq_some_iff.1 ho).1;obtain⟨o2,g1,g2⟩:=x2 _ _ (key i hi);have:o2=o:=by have:ops.toList[i]? =some o:=(by simpa using ho);rw[this]at g1;cases g1;rfl
    subst this;have hw:=H i hi;simp only[Bool.and_eq_true]at hw;have hw:=hw.2;have hnn:nth ops.toList i=some o2:=(by rw[jY];simpa using ho);rw[hnn]at hw;simp only[Bool.and_eq_true]at hw;refine⟨yA σ o2,by simpa using g2,(tg σ o2).1,(tg σ o2).2,rfl,λl l' hll=> ?_,λj b hg=> ?_,λhg=> ?_⟩
    · have he:=EP hw.1;have:∀es:List Edge,(∀e∈es,e.on<ops.size)->((es.map (Q6 σ)).all λe=> !Region.binds .any e||l'.getD e.on false)=(es.all λe=> !Region.binds .any e||l.getD e.on false):=by
        intro es;induction es with
        |nil=>intro _;rfl
        | cons e es ih=>
          intro hes;rw[List.map_cons,List.all_cons,List.all_cons,ih λe he=>hes e (.tail _ he)];have h1:(Q6 σ e).on=yy e.on σ:=rfl;have h2:Region.binds .any (Q6 σ e)=Region.binds .any e:=rfl;rw[h1,h2,hll e.on (hes e (.head _)) false]
      have h2:=this o2.after.toList (λe h=>he e h);rw[←Array.all_toList,←Array.all_toList];exact h2
    · have:=hw.2;rw[hg]at this;refine⟨u7 this,?_⟩;unfold yA;rw[hg]
    · unfold yA;rw[hg]
variable {τ:Nat->Nat}
def PermR.yield{ops ops':Array Oper} (p:PermR ops ops' τ) (tmps:Array Value) {j:Nat} (hj:j<ops.size):yielded ops' tmps (τ j)=yielded ops tmps j:=by obtain⟨o',h1,_,_,h4,_⟩:=p.op j _ (Array.getElem?_eq_getElem hj);unfold yielded;rw[h1,Array.getElem?_eq_getElem hj];simp only[Option.bind_some,h4]
def Kv(ops:Array Oper) (τ:Nat->Nat) (l l':Array Bool):Prop:=l.size=ops.size/\l'.size=ops.size/\∀j,j<ops.size->∀d,l'.getD (τ j) d=l.getD j d
def PermR.ready{ops ops':Array Oper} (p:PermR ops ops' τ) {l l':Array Bool} (h:Kv ops τ l l') {i:Nat} (hi:i<ops.size):τ i∈Region.ready .any ops' l'↔i∈Region.ready .any ops l:=by unfold Region.ready;rw[List.mem_filter,List.mem_filter,List.mem_range,List.mem_range,p.size];obtain⟨o',h1,_,_,_,h5,_⟩:=p.op i _ (Array.getElem?_eq_getElem hi);rw[h.2.2 i hi true,h1,Array.getElem?_eq_getElem hi];simp only[Option.map_some,Option.getD_some];rw[h5 l l' h.2.2];simp[hi,p.lt i hi]
def Y2{l:Array Bool} {i:Nat} (h:i∈Region.ready .any ops l):i<ops.size:=by unfold Region.ready at h;rw[List.mem_filter,List.mem_range]at h;exact h.1
def Kv.set{ops ops':Array Oper} (p:PermR ops ops' τ) {l l':Array Bool} (h:Kv ops τ l l') {i:Nat} (hi:i<ops.size):Kv ops τ (l.setIfInBounds i true) (l'.setIfInBounds (τ i) true):=by
 refine⟨by simp[h.1],by simp[h.2.1],λj hj d=> ?_⟩;have e:=h.2.2 j hj d;simp only[Array.getD_eq_getD_getElem?,Array.getElem?_setIfInBounds]at e⊢;by_cases hij:i=j
 ·subst hij;have:=p.lt i hi;simp[h.1,h.2.1,hi,this]
 ·have:τ i≠τ j:=λe=>hij (p.inj i j hi hj e);rw[if_neg this,if_neg hij];exact e
def pX{P:IW} {ops ops':Array Oper} (p:PermR ops ops' τ) {Q:Exit->Act->World->Prop}:∀(fuel:Nat) (l l':Array Bool) (a:Act) (w:World),Kv ops τ l l'->wpAny P .any ops' Q fuel l' a w->wpAny P .any ops Q fuel l a w:=by
  have empty:∀l l',Kv ops τ l l'->(Region.ready .any ops l=[]↔Region.ready .any ops' l'=[]):=λl l' h=>by
    constructor
    · intro e;rw[List.eq_nil_iff_forall_not_mem];intro k hk;have hlt:=Y2 hk;rw[p.size]at hlt;obtain⟨i,hi,rfl⟩:=p.sur k hlt;have:=(p.ready h hi).1 hk;rw[e]at this;cases this
    · intro e;rw[List.eq_nil_iff_forall_not_mem];intro i hi;have:=(p.ready h (Y2 hi)).2 hi;rw[e]at this;cases this
  intro fuel;induction fuel with
  | zero=>
    intro l l' a w hl h;exact⟨(empty l l' hl).2 h.1,h.2⟩
  | succ fuel ih=>
    intro l l' a w hl h;refine⟨λe=>h.1 ((empty l l' hl).1 e),λi hi=> ?_⟩;have hlt:=Y2 hi;have h1:=h.2 (τ i) ((p.ready hl hlt).2 hi);have h2:=wpOp_mono (λa w=>ih (l.setIfInBounds i true) (l'.setIfInBounds (τ i) true) a w (hl.set p hlt)) h1;obtain⟨o',g1,g2,g3,g4,g5,g6,g7⟩:=p.op i _ (Array.getElem?_eq_getElem hlt);unfold wpOp at h2⊢;rw[g1]at h2;rw[Array.getElem?_eq_getElem hlt];simp only at h2⊢;have hw:Region.wanted o' (yielded ops' a.tmps)=Region.wanted ops[i] (yielded ops a.tmps):=by
      unfold Region.wanted;cases hg:ops[i].guard with
      |none=>rw[g7 hg]
      | some x=>
        obtain⟨j,b⟩:=x;obtain⟨q1,q2⟩:=g6 j b hg;rw[q2];simp only;rw[p.yield _ q1]
    rw[hw,g2,g3,g4]at h2;exact h2
def AG(A:List Nat) (i:Nat):List Nat->List Nat->List Nat
  | [],done=>done
  | j::l,done=>match j0 A i j&& !(je j done)with
    |true=>AG A i l (done++[j])
    |false=>AG A i l done
def FF(A:List Nat) (l:List Oper) (all:List Nat):List Nat->List Nat->List Nat
  | [],done=>done
  | i ::r,done=>match nth l i with
    | some o=>match qG o&& !(je i done)with
      |true=>FF A l all r (AG A i all done++[i])
      |false=>FF A l all r done
    |none=>FF A l all r done
def Sx:List Nat->List Nat->List Nat
  | [],done=>done
  | j::l,done=>match je j done with
    |true=>Sx l done
    |false=>Sx l (done++[j])
def FY(A:List Nat) (ops:Array Oper):List Nat:=Sx (List.range ops.toList.length) (FF A ops.toList (List.range ops.toList.length) (List.range ops.toList.length) [])
def tC(A:List Nat) (ops:Array Oper):Option (Array Oper):=
  match FG ops.toList (FY A ops)with
  | true=>match K6 ops.toList (FY A ops) (FY A ops)with
    |some x=>some ⟨x⟩
    |none=>none
  |false=>none
def X1(j:Nat):List Edge->Bool
 | []=>false
 |e::l=>(Region.binds .any e&&Nat.beq e.on j)||X1 j l
def Z5(l:List Oper) (k j:Nat):Bool:=match nth l k with
 |some o=>X1 j o.after.toList
 |none=>false
def Wg:Nat->(Nat->Bool)->Bool
 |0,_=>false
 |n+1,p=>p n||Wg n p
def Aa:∀{n:Nat} {p:Nat->Bool},Wg n p=true->∃k,k<n/\p k=true
  | n+1,p,h=>by
    unfold Wg at h;rw[Bool.or_eq_true]at h;rcases h with h|h
    · exact⟨n,by omega,h⟩
    · obtain⟨k,h1,h2⟩:=Aa h;exact⟨k,by omega,h2⟩
def AA(l:List Oper) (q:Nat):Bool:=
 Nat.blt q l.length&&
 (jZ l.length (λi=>match nth l i with|some o=>Y4 i o.after.toList&&(match o.guard with|some (j,_)=>Nat.blt j i|none=>true)|none=>false)&&
 (jZ q (λj=>Wg (q+1) λk=>Nat.blt j k&&Z5 l k j)&&
 jZ l.length (λi=>Nat.ble i q||Z5 l i (i- 1))))
def A9{j:Nat}:∀{l:List Edge},X1 j l=true->∃e∈l,Region.binds .any e=true/\e.on=j
  | e::l,h=>by
    unfold X1 at h;rw[Bool.or_eq_true,Bool.and_eq_true]at h;rcases h with h|h
    · exact⟨e,List.mem_cons_self,h.1,Nat.eq_of_beq_eq_true h.2⟩
    · obtain⟨e',h1,h2⟩:=A9 h;exact⟨e',List.mem_cons_of_mem _ h1,h2⟩
structure SpR(ops:Array Oper) (q:Nat):Prop where
 lt:q<ops.size
 back:∀i (h:i<ops.size),(∀e∈ops[i].after,e.on<i)/\∀j b,ops[i].guard=some (j,b)->j<i
 succ:∀j,j<q->∃k,j<k/\k<=q/\∃(h:k<ops.size),∃e∈ops[k].after,Region.binds .any e=true/\e.on=j
 next:∀i (h:i<ops.size),q<i->∃e∈ops[i].after,Region.binds .any e=true/\e.on=i- 1
variable {ops:Array Oper}
def qdk{q:Nat} (h:AA ops.toList q=true):SpR ops q:=by
 unfold AA at h;simp only[Bool.and_eq_true]at h;obtain⟨h1,h2,h3,h4⟩:=h;have hl:ops.toList.length=ops.size:=Array.length_toList;have hq:q<ops.size:=by rw[←hl];exact u7 h1
 have at':∀i (hi:i<ops.size),nth ops.toList i=some ops[i]:=λi hi=>by rw[jY];simp[hi]
 have edge:∀k j (hk:k<ops.size),Z5 ops.toList k j=true->∃e∈ops[k].after,Region.binds .any e=true/\e.on=j:=λk j hk e=>by unfold Z5 at e;rw[at' k hk]at e;obtain⟨x,e1,e2⟩:=A9 e;exact⟨x,Array.mem_toList_iff.1 e1,e2⟩
 refine⟨hq,λi hi=> ?_,λj hj=> ?_,λi hi hqi=> ?_⟩
 ·have:=vG h2 i (by rw[hl];exact hi);rw[at' i hi]at this;simp only[Bool.and_eq_true]at this;refine⟨λe he=>EP this.1 e (Array.mem_toList_iff.2 he),λj b hg=> ?_⟩;have g:=this.2;rw[hg]at g;exact u7 g
 ·obtain⟨k,k1,k2⟩:=Aa (vG h3 j hj);rw[Bool.and_eq_true]at k2;have hk:k<ops.size:=by omega
  exact⟨k,u7 k2.1,by omega,hk,edge k j hk k2.2⟩
 ·have:=vG h4 i (by rw[hl];exact hi);rw[Bool.or_eq_true]at this;rcases this with h|h
  ·exact absurd (Nat.le_of_ble_eq_true h) (by omega)
  ·exact edge i (i- 1) hi h
structure Lq(ops:Array Oper) (l:Array Bool):Prop where
 size:l.size=ops.size
 down:∀i (h:i<ops.size),l.getD i true=true->∀e∈ops[i].after,Region.binds .any e=true->l.getD e.on false=true
variable {l:Array Bool}
def j7{i:Nat}:i∈Region.ready .any ops l↔∃(h:i<ops.size),l.getD i true=false/\∀e∈ops[i].after,Region.binds .any e=true->l.getD e.on false=true:=by
 unfold Region.ready;rw[List.mem_filter,List.mem_range];constructor
 ·rintro⟨h,h2⟩;rw[Bool.and_eq_true,Bool.not_eq_true',Array.getElem?_eq_getElem h]at h2;refine⟨h,h2.1,λe he hb=> ?_⟩;have:=h2.2;simp only[Option.map_some,Option.getD_some,Array.all_eq_true_iff_forall_mem]at this;have:=this e he;rw[hb]at this;simpa using this
 ·rintro⟨h,h1,h2⟩;refine⟨h,?_⟩;rw[Bool.and_eq_true,Bool.not_eq_true',Array.getElem?_eq_getElem h];refine⟨h1,?_⟩;simp only[Option.map_some,Option.getD_some,Array.all_eq_true_iff_forall_mem];intro e he;cases hb:Region.binds .any e with
  |false=>rfl
  |true=>rw[h2 e he hb];rfl
def Z2{i:Nat} (h:i<l.size) (a b:Bool):l.getD i a=l.getD i b:=by simp[Array.getD_eq_getD_getElem?,h]
def vH{i j:Nat} (hi:i<l.size) (d:Bool):(l.setIfInBounds i true).getD j d=if j=i then true else l.getD j d:=by
 rw[Array.getD_eq_getD_getElem?,Array.getElem?_setIfInBounds];by_cases h:i=j
 ·subst h;rw[if_pos rfl,if_pos hi,if_pos rfl];rfl
 ·rw[if_neg h,if_neg (λe=>h e.symm),Array.getD_eq_getD_getElem?]
def Lq.set(h:Lq ops l) {i:Nat} (hi:i∈Region.ready .any ops l):Lq ops (l.setIfInBounds i true):=by
 obtain⟨h1,h2,h3⟩:=j7.1 hi;have hs:i<l.size:=by rw[h.size];exact h1
 refine⟨by rw[Array.size_setIfInBounds,h.size],λk hk hl e he hb=> ?_⟩;rw[vH hs]at hl⊢;by_cases he2:e.on=i
 ·rw[if_pos he2]
 ·rw[if_neg he2];by_cases hki:k=i
  ·subst hki;exact h3 e he hb
  ·rw[if_neg hki]at hl;exact h.down k hk hl e he hb
def Am{o:Oper} {P:IW} {a:Act} {w:World} {K:Act->World->Prop} {Q Q':Exit->Act->World->Prop} (h:∀e a w,e≠ .normal->Q' e a w->Q e a w) (hh:o.wp P a w K Q'):o.wp P a w K Q:=by
  have lets:LetsOut Q'->LetsOut Q:=λ⟨a,w,h2⟩=>⟨a,w,h _ _ _ (by simp) h2⟩;unfold Oper.wp at*;generalize (execOp a.eval o).run P w=r at*;cases r with
  | ok n w'=>
    cases n<;>simp only[Oper.upon]at hh⊢<;>
      first
        |exact hh
        |exact Calls.mono hh (λe w'' he=>by cases e<;>first|exact he|exact h _ _ _ (by simp) he|exact lets he)
  |halt x w'=>cases x<;>simp only[Oper.upon]at hh⊢<;>first|exact h _ _ _ (by simp) hh|exact hh|exact lets hh
def rS{P:IW} {ops:Array Oper} {q:Nat} (s:SpR ops q) {Q:Exit->Act->World->Prop}:∀(m k:Nat) (l:Array Bool) (fuel:Nat) (a:Act) (w:World),k+m=ops.size->q<=k->m<=fuel->Lq ops l->(∀i,i<ops.size->∀d,l.getD i d=decide (i<k))->wpOps P ops Q (List.range' k m) a w->wpAny P .any ops Q fuel l a w
  | 0,k,l,fuel,a,w,hk,hq,hf,hl,hd,h=>by
    have e:Region.ready .any ops l=[]:=(by rw[List.eq_nil_iff_forall_not_mem];intro i hi;obtain⟨h1,h2,_⟩:=j7.1 hi;rw[hd i h1]at h2;exact absurd (of_decide_eq_false h2) (by omega));cases fuel with
    |zero=>exact⟨e,h⟩
    |succ f=>exact⟨λ_=>h,λi hi=>by rw[e]at hi;cases hi⟩
  |m+1,k,l,0,a,w,hk,hq,hf,hl,hd,h=>absurd hf (by omega)
  | m + 1,k,l,f+1,a,w,hk,hq,hf,hl,hd,h=>by
    have hks:k<ops.size:=(by omega);have hr:k∈Region.ready .any ops l:=j7.2 ⟨hks,by rw[hd k hks];exact decide_eq_false (by omega),λe he _=>by have:=(s.back k hks).1 e he;rw[hd e.on (by omega)];exact decide_eq_true this⟩;refine⟨λe=>(by rw[e]at hr;cases hr),λi hi=> ?_⟩;obtain⟨h1,h2,h3⟩:=j7.1 hi;rw[hd i h1]at h2;have hik:=of_decide_eq_false h2;have:i=k:=by
      by_cases e:i=k
      · exact e
      · obtain⟨x,hx,hb,ho⟩:=s.next i h1 (by omega);have:=h3 x hx hb;rw[ho,hd (i- 1) (by omega)]at this;exact absurd (of_decide_eq_true this) (by omega)
    subst this;rw[List.range'_succ,wpOps_cons]at h;refine wpOp_mono (λa w h=>rS s m (i+1) _ f a w (by omega) (by omega) (by omega) (hl.set hr) (λj hj d=> ?_) h) h;rw[vH (by rw[hl.size];exact h1)];by_cases e:j=i
    · rw[if_pos e];exact(decide_eq_true (by omega)).symm
    · rw[if_neg e,hd j hj];by_cases g:j<i
      · rw[decide_eq_true g,decide_eq_true (by omega)]
      · rw[decide_eq_false g,decide_eq_false (by omega)]
def kT(ops:Array Oper) (q:Nat):Array Oper:=⟨ops.toList.take q⟩
def X3{q:Nat} (h:q<ops.size):(kT ops q).size=q:=by show(ops.toList.take q).length=q;rw[List.length_take,Array.length_toList];omega
def QU{q i:Nat} (h:q<ops.size) (hi:i<q):(kT ops q)[i]? =some (ops[i]'(by omega)):=by
 unfold kT;have e:∀l:List Oper,(⟨l⟩:Array Oper)[i]? =l[i]? :=λl=>by simp
 rw[e,List.getElem?_take,if_pos hi,Array.getElem?_toList,Array.getElem?_eq_getElem (by omega)]
def qbx{P:IW} {ops:Array Oper} {q:Nat} (s:SpR ops q) {Q Q':Exit->Act->World->Prop} (hn:∀a w,Q' .normal a w->wpOps P ops Q (List.range' q (ops.size- q)) a w) (ho:∀e a w,e≠ .normal->Q' e a w->Q e a w):∀(fuel:Nat) (l l':Array Bool) (a:Act) (w:World),Lq ops l->(∀i,q<=i->i<ops.size->∀d,l.getD i d=false)->l'.size=q->(∀i,i<q->∀d,l'.getD i d=l.getD i d)->wpAny P .any (kT ops q) Q' fuel l' a w->wpAny P .any ops Q (fuel+(ops.size- q)) l a w:=by
  have hs:=X3 s.lt;have rd:∀{l l':Array Bool},(∀i,i<q->∀d,l'.getD i d=l.getD i d)->∀i,i∈Region.ready .any (kT ops q) l'↔i<q/\i∈Region.ready .any ops l:=λ{l l'} hll i=>by
    rw[j7,j7];constructor
    · rintro⟨h1,h2,h3⟩;have hi:i<q:=(by rw[hs]at h1;exact h1);have hg:(kT ops q)[i]=ops[i]'(by have:=s.lt;omega):=by have:=QU s.lt hi;rw[Array.getElem?_eq_getElem h1]at this;exact Option.some.inj this
      rw[hg]at h3;refine⟨hi,by have:=s.lt;omega,by rw[←hll i hi];exact h2,λe he hb=> ?_⟩;have:=(s.back i (by have:=s.lt;omega)).1 e he;rw[←hll e.on (by omega)];exact h3 e he hb
    · rintro⟨hi,h1,h2,h3⟩;have h1':i<(kT ops q).size:=(by rw[hs];exact hi);have hg:(kT ops q)[i]=ops[i]'h1:=by have:=QU s.lt hi;rw[Array.getElem?_eq_getElem h1']at this;exact Option.some.inj this
      refine⟨h1',by rw[hll i hi];exact h2,λe he hb=> ?_⟩;rw[hg]at he;have:=(s.back i h1).1 e he;rw[hll e.on (by omega)];exact h3 e he hb
  have prog :∀{l:Array Bool},Lq ops l->(∀i,i<q->l.getD i true=true)\/∃i,i<q/\i∈Region.ready .any ops l:=λ{l} hl=>by
    have step:∀m:Nat,m<=q->(∀i,i<m->l.getD i true=true)\/∃i,i<q/\i∈Region.ready .any ops l:=λm=>by
      induction m with
      |zero=>intro _;exact .inl λi h=>absurd h (by omega)
      | succ m ih=>
        intro hm;rcases ih (by omega)with h|h
        · have hms:m<ops.size:=by have:=s.lt;omega
          cases hb:l.getD m true with
          | true=>
            refine .inl λi hi=> ?_;by_cases e:i=m
            · rw[e];exact hb
            · exact h i (by omega)
          | false=>
            refine .inr ⟨m,by omega,j7.2 ⟨hms,hb,λe he _=> ?_⟩⟩;have:=(s.back m hms).1 e he;rw[Z2 (by rw[hl.size];omega) false true];exact h e.on this
        · exact .inr h
    exact step q (Nat.le_refl _)
  have only:∀{l:Array Bool},Lq ops l->(∀i,q<=i->i<ops.size->∀d,l.getD i d=false)->∀i,q<=i->i∈Region.ready .any ops l->∀j,j<q->l.getD j true=true:=λ{l} hl hz i hqi hi=>by
    obtain⟨h1,h2,h3⟩:=j7.1 hi;have hiq:i=q:=by
      by_cases e:i=q
      · exact e
      · obtain⟨x,hx,hb,ho'⟩:=s.next i h1 (by omega);have:=h3 x hx hb;rw[ho',hz (i- 1) (by omega) (by omega)]at this;cases this
    subst hiq;have down:∀d j,i- j<=d->j<i->l.getD j true=true:=λd=>by
      induction d with
      |zero=>intro j h4 h5;omega
      | succ d ih=>
        intro j h4 h5;obtain⟨k,k1,k2,hk,e,he,hb,hon⟩:=s.succ j h5;rw[Z2 (by rw[hl.size];omega) true false,←hon];by_cases hki:k=i
        · subst hki;exact h3 e he hb
        · exact hl.down k hk (ih k (by omega) (by omega)) e he hb
    exactλj hj=>down i j (by omega) hj
  have fin:∀(l:Array Bool) (fuel:Nat) (a:Act) (w:World),ops.size- q<=fuel->Lq ops l->(∀i,q<=i->i<ops.size->∀d,l.getD i d=false)->(∀i,i<q->l.getD i true=true)->Q' .normal a w->wpAny P .any ops Q fuel l a w:=λl fuel a w hf hl hz hd h=>by
    refine rS s (ops.size- q) q l fuel a w (by have:=s.lt;omega) (Nat.le_refl _) hf hl (λi hi d=> ?_) (hn a w h);by_cases hiq:i<q
    · rw[decide_eq_true hiq,Z2 (by rw[hl.size];exact hi) d true];exact hd i hiq
    · rw[decide_eq_false hiq];exact hz i (by omega) hi d
  intro fuel;induction fuel with
  | zero=>
    intro l l' a w hl hz hs' hll h;refine fin l _ a w (by omega) hl hz ?_ h.2;rcases prog hl with hd|⟨i,hi,hr⟩
    · exact hd
    · have:=(rd hll i).2 ⟨hi,hr⟩;rw[h.1]at this;cases this
  | succ fuel ih=>
    intro l l' a w hl hz hs' hll h;rcases prog hl with hd|⟨i,hi,hr⟩
    · refine fin l _ a w (by omega) hl hz hd (h.1 ?_);rw[List.eq_nil_iff_forall_not_mem];intro i hi;obtain⟨hiq,hi2⟩:=(rd hll i).1 hi;obtain⟨_,h2,_⟩:=j7.1 hi2;rw[hd i hiq]at h2;cases h2
    · rw [show fuel+1+(ops.size- q)=(fuel+(ops.size- q))+1 by omega];refine⟨λe=>(by rw[e]at hr;cases hr),λk hk=> ?_⟩;have hkq:k<q:=by
        by_cases hkq:k<q
        · exact hkq
        · obtain⟨_,h2,_⟩:=j7.1 hr;rw[only hl hz k (by omega) hk i hi]at h2;cases h2
      have hks:k<ops.size:=by have:=s.lt;omega
      have h1:=h.2 k ((rd hll k).2 ⟨hkq,hk⟩);have h2:=wpOp_mono (λa w h=>ih (l.setIfInBounds k true) (l'.setIfInBounds k true) a w (hl.set hk) (λj hj hjs d=>by rw[vH (by rw[hl.size];exact hks),if_neg (by omega)];exact hz j hj hjs d) (by rw[Array.size_setIfInBounds];exact hs') (λj hj d=>by rw[vH (l:=l') (by rw[hs'];exact hkq),vH (l:=l) (by rw[hl.size];exact hks),hll j hj d]) h) h1;unfold wpOp at h2⊢;rw[QU s.lt hkq]at h2;rw[Array.getElem?_eq_getElem hks];simp only at h2⊢;have hw:Region.wanted ops[k] (yielded (kT ops q) a.tmps)=Region.wanted ops[k] (yielded ops a.tmps):=by
        unfold Region.wanted;cases hg:ops[k].guard with
        |none=>rfl
        | some x=>
          obtain⟨j,b⟩:=x;have hj:=(s.back k hks).2 j b hg;simp only;unfold yielded;rw[QU s.lt (show j<q by omega),Array.getElem?_eq_getElem (by omega)]
      rw[hw]at h2;split
      · rename_i hwt;rw[if_pos hwt]at h2;exact h2.imp (Am ho) λh=>⟨h.1,h.2.elim λa h=>h.elim λw h=>⟨a,w,ho _ _ _ (by simp) h⟩⟩
      · rename_i hwt;rw[if_neg hwt]at h2;exact h2
def F5(o:Oper) (i:Nat):Oper:={o with after:=⟨{on:=i,ground:= .data}::o.after.toList⟩}
def ub:List Oper->Nat->Nat->List Oper
  | [],_,_=>[]
  | o::l,j,i=>match j with
    |0=>F5 o i::l
    |j+1=>o::ub l j i
def vg(ops:Array Oper) (j i:Nat):Array Oper:=⟨ub ops.toList j i⟩
def rB:∀(l:List Oper) (j i k:Nat),(ub l j i)[k]? =if k=j then(l[k]?).map (F5 · i)else l[k]?
  | [],j,i,k=>by simp[ub]
  | o::l,0,i,k=>by
    cases k with
    |zero=>simp[ub]
    |succ k=>simp[ub]
  | o ::l,j+1,i,k=>by
    cases k with
    |zero=>simp[ub]
    | succ k=>
      simp only[ub,List.getElem?_cons_succ,rB l j i k];by_cases h:k=j
      · rw[if_pos h,if_pos (by omega)]
      · rw[if_neg h,if_neg (by omega)]
def rC:∀(l:List Oper) (j i:Nat),(ub l j i).length=l.length
 | [],j,i=>rfl
 |o::l,0,i=>rfl
 |o::l,j+1,i=>by simp[ub,rC l j i]
def q9w(ops:Array Oper) (j i:Nat):(vg ops j i).size=ops.size:=by show(ub ops.toList j i).length=_;rw[rC,Array.length_toList]
def Fa(ops:Array Oper) (j i k:Nat):(vg ops j i)[k]? =if k=j then(ops[k]?).map (F5 · i)else ops[k]? :=by
 unfold vg;have e:∀l:List Oper,(⟨l⟩:Array Oper)[k]? =l[k]? :=λl=>by simp
 rw[e,rB,Array.getElem?_toList]
variable {ops:Array Oper} {l:Array Bool}
def Fh{i:Nat}:i∈Region.ready .any ops l↔∃o,ops[i]? =some o/\l.getD i true=false/\∀e∈o.after,Region.binds .any e=true->l.getD e.on false=true:=by
 rw[j7];constructor
 ·rintro⟨h,h1,h2⟩;exact⟨ops[i],Array.getElem?_eq_getElem h,h1,h2⟩
 ·rintro⟨o,h,h1,h2⟩;obtain⟨hi,rfl⟩:=Array.getElem?_eq_some_iff.1 h;exact⟨hi,h1,h2⟩
def Z0{j i:Nat} {k:Nat}:k∈Region.ready .any (vg ops j i) l↔k∈Region.ready .any ops l/\(k=j->l.getD i false=true):=by
  rw[Fh,Fh];constructor
  · rintro⟨o,h,h1,h2⟩;rw[Fa]at h;by_cases hk:k=j
    · rw [if_pos hk]at h;cases ho:ops[k]? with
      |none=>rw[ho]at h;cases h
      | some o'=>
        rw[ho]at h;cases h;refine⟨⟨o',rfl,h1,λe he hb=>h2 e ?_ hb⟩,λ_=>h2 {on:=i,ground:= .data} ?_ rfl⟩
        · show e∈(⟨_::o'.after.toList⟩:Array Edge);simp;exact .inr he
        · show _∈(⟨_::o'.after.toList⟩:Array Edge);simp
    · rw[if_neg hk]at h;exact⟨⟨o,h,h1,h2⟩,λe=>absurd e hk⟩
  · rintro⟨⟨o,h,h1,h2⟩,h3⟩;rw[Fa];by_cases hk:k=j
    · rw[if_pos hk,h];refine⟨F5 o i,rfl,h1,λe he hb=> ?_⟩;have he:e∈(⟨{on:=i,ground:= .data}::o.after.toList⟩:Array Edge):=he;simp at he;rcases he with rfl|he
      · exact h3 hk
      · exact h2 e he hb
    · rw[if_neg hk];exact⟨o,h,h1,h2⟩
def q6x(ops:Array Oper) (j i:Nat) (tmps:Array Value) (k:Nat):yielded (vg ops j i) tmps k=yielded ops tmps k:=by
 unfold yielded;rw[Fa];by_cases hk:k=j
 ·rw[if_pos hk];cases ops[k]? <;>rfl
 ·rw[if_neg hk]
variable {Q:Exit->Act->World->Prop} {a:Act} {w:World}
def qc4{P:IW} {j i:Nat} {k:Nat} {K:Act->World->Prop}:wpOp P (vg ops j i) Q k K a w↔wpOp P ops Q k K a w:=by
  have hw:∀o,Region.wanted o (yielded (vg ops j i) a.tmps)=Region.wanted o (yielded ops a.tmps):=λo=>by rw[show yielded (vg ops j i) a.tmps=yielded ops a.tmps from funext (q6x ops j i a.tmps)]
  unfold wpOp;rw[Fa];by_cases hk:k=j
  · rw[if_pos hk];cases ops[k]? with
    |none=>exact Iff.rfl
    | some o=>
      simp only[Option.map_some,hw];exact Iff.rfl
  · rw[if_neg hk];cases ops[k]? with
    |none=>exact Iff.rfl
    |some o=>simp only[hw]
def qax{i k:Nat} (h:l.getD i false=true):(l.setIfInBounds k true).getD i false=true:=by
 by_cases hk:k<l.size
 ·rw[vH hk];split
  ·rfl
  ·exact h
 ·rw[Array.setIfInBounds_eq_of_size_le (by omega)];exact h
inductive OrdO(ops:Array Oper):Nat->Array Bool->List Nat->Prop
 |zero (l:Array Bool):OrdO ops 0 l []
 |stop {f:Nat} {l:Array Bool} (h:Region.ready .any ops l=[]):OrdO ops (f+1) l []
 |step {f:Nat} {l:Array Bool} {k:Nat} {r:List Nat} (h:k∈Region.ready .any ops l) (t:OrdO ops f (l.setIfInBounds k true) r):OrdO ops (f+1) l (k::r)
def qfz(ops:Array Oper):∀(f t:Nat) (l:Array Bool),OrdO ops f l (Region.linearise.go .any ops f t l []):=by
  intro f;induction f with
  |zero=>intro t l;exact .zero l
  | succ f ih=>
    intro t l;simp only[Region.linearise.go];change OrdO ops (f+1) l (match(Region.ready .any ops l)[t % (Region.ready .any ops l).length]? with
      |some i=>Region.linearise.go .any ops f (t / (Region.ready .any ops l).length) (l.setIfInBounds i true) [i]
      |none=>[].reverse)
    cases hi:(Region.ready .any ops l)[t % (Region.ready .any ops l).length]? with
    | none=>
      refine .stop ?_;cases hr:Region.ready .any ops l with
      |nil=>rfl
      | cons x xs=>
        rw[hr]at hi;have hlt:t % (x::xs).length<(x::xs).length:=Nat.mod_lt _ (by simp);simp at hi;simp at hlt;omega
    | some i=>
      simp only[];rw[linearise_go_acc,List.reverse_singleton,List.singleton_append];exact .step (List.mem_of_getElem? hi) (ih _ _)
def qc3{P:IW}:∀{f:Nat} {l:Array Bool} {r:List Nat},OrdO ops f l r->∀{a:Act} {w:World},wpAny P .any ops Q f l a w->wpOps P ops Q r a w:=by
  intro f l r h;induction h with
  |zero l=>intro a w h;exact h.2
  |stop e=>intro a w h;exact h.1 e
  | step hk t ih=>
    intro a w h;rw[wpOps_cons];exact wpOp_mono (λa w h=>ih h) (h.2 _ hk)
def rO{j i:Nat}:∀{f:Nat} {l:Array Bool} {r:List Nat},OrdO ops f l r->l.getD i false=true->OrdO (vg ops j i) f l r:=by
  intro f l r h;induction h with
  |zero l=>intro _;exact .zero l
  | stop e=>
    intro _;refine .stop ?_;rw[List.eq_nil_iff_forall_not_mem];intro k hk;have:=(Z0.1 hk).1;rw[e]at this;cases this
  |step hk t ih=>intro hi;exact .step (Z0.2 ⟨hk,λ_=>hi⟩) (ih (qax hi))
def qg0{ops:Array Oper} {i j:Nat} (hij:i≠j):∀{f:Nat} {l:Array Bool} {r:List Nat},OrdO ops f l r->l.size=ops.size->OrdO (vg ops j i) f l r\/OrdO (vg ops i j) f l r:=by
  intro f l r h;induction h with
  |zero l=>intro _;exact .inl (.zero l)
  | stop e=>
    intro _;refine .inl (.stop ?_);rw[List.eq_nil_iff_forall_not_mem];intro k hk;have:=(Z0.1 hk).1;rw[e]at this;cases this
  | @step f l k r hk t ih=>
    intro hs;have hlt:k<l.size:=(by rw[hs];exact Y2 hk);have hset:(l.setIfInBounds k true).getD k false=true:=(by rw[vH hlt,if_pos rfl]);by_cases hj:k=j
    · subst hj;exact .inr (.step (Z0.2 ⟨hk,λe=>absurd e.symm hij⟩) (rO t hset))
    · by_cases hi:k=i
      · subst hi;exact .inl (.step (Z0.2 ⟨hk,λe=>absurd e hj⟩) (rO t hset))
      · rcases ih (by rw[Array.size_setIfInBounds];exact hs)with h|h
        · exact .inl (.step (Z0.2 ⟨hk,λe=>absurd e hj⟩) h)
        · exact .inr (.step (Z0.2 ⟨hk,λe=>absurd e hi⟩) h)
def X5{P:IW} {ops:Array Oper} {j i:Nat} {Q:Exit->Act->World->Prop}:∀{r:List Nat} {a:Act} {w:World},wpOps P (vg ops j i) Q r a w↔wpOps P ops Q r a w
  | [],a,w=>Iff.rfl
  | k::r,a,w=>by
    rw[wpOps_cons,wpOps_cons,qc4];constructor
    · exact wpOp_mono λa w h=>X5.1 h
    · exact wpOp_mono λa w h=>X5.2 h
def vI(P:IW) (ops:Array Oper) (Q:Exit->Act->World->Prop) (a:Act) (w:World):Prop:=∀r,OrdO ops ops.size (Array.replicate ops.size false) r->wpOps P ops Q r a w
def vI.of{P:IW} (h:wpAny P .any ops Q ops.size (Array.replicate ops.size false) a w):vI P ops Q a w:=λr hr=>qc3 hr h
def vI.two{P:IW} {i j:Nat} (hij:i≠j) (h1:vI P (vg ops j i) Q a w) (h2:vI P (vg ops i j) Q a w):vI P ops Q a w:=λr hr=>by
 unfold vI at h1 h2;rw[q9w]at h1 h2;rcases qg0 hij hr (by simp)with h|h
 ·exact X5.1 (h1 r h)
 ·exact X5.1 (h2 r h)
def q66{P:IW} {id:Nat} (hm:P.follows .mixedOrders=true) (h:vI P ops Q a {w with drawn:=w.drawn+1}):(Code.region id ops true).wp P Q a w:=
 wp_region_draw λt=>by simp only[Region.schedule,hm,Bool.true_or,if_true];exact h _ (qfz ops ops.size t _)
def Wp(f:Nat):List Nat->Array Oper->(Array Oper->Prop)->Prop
  | [],ops,K=>K ops
  | c::l,ops,K=>match Nat.beq c f with
    |true=>False
    |false=>K (vg ops c f)/\Wp f l (vg ops f c) K
def Au{P:IW} {Q:Exit->Act->World->Prop} {a:Act} {w:World} {f:Nat}:∀{cs:List Nat} {ops:Array Oper} {K:Array Oper->Prop},Wp f cs ops K->(∀ops',K ops'->vI P ops' Q a w)->vI P ops Q a w
  | [],ops,K,e,h=>h _ e
  | c ::l,ops,K,e,h=>by
    simp only[Wp]at e;split at e
    · exact e.elim
    · rename_i hb;have hne:f≠c:=λx=>(by subst x;simp at hb);exact vI.two hne (h _ e.1) (Au e.2 h)
def SS:List Edge->List Nat->List Nat
  | [],acc=>acc
  | e::l,acc=>match Region.binds .any e with
    |true=>e.on::SS l acc
    |false=>SS l acc
def FH(ops:List Oper):Nat->List Nat->List Nat->List Nat
  |0,_,acc=>acc
  | n + 1,todo,acc=>match todo with
    | []=>acc
    | i ::todo=>match je i acc with
      |true=>FH ops n todo acc
      | false=>match nth ops i with
        |some o=>FH ops n (SS o.after.toList todo) (i::acc)
        |none=>FH ops n todo (i::acc)
def I8:List Edge->List Nat->Bool
 | [],_=>true
 |e::l,acc=>(Bool.not (Region.binds .any e)||je e.on acc)&&I8 l acc
def FZ(ops:List Oper) (acc:List Nat):List Nat->Option Nat
  | []=>none
  | i ::l=>match je i acc with
    |true=>FZ ops acc l
    | false=>match nth ops i with
      | some o=>match I8 o.after.toList acc with
        |true=>some i
        |false=>FZ ops acc l
      |none=>FZ ops acc l
def tH(ops:List Oper) (cand:List Nat):Nat->List Nat->List Nat->List Nat
  |0,_,r=>r
  | n+1,acc,r=>match FZ ops acc cand with
    |some i=>tH ops cand n (i::acc) (r++[i])
    |none=>r
def AS(q:Nat) (m:List Nat):List Nat->List Nat
  | []=>[]
  | i::l=>match je i m&&Bool.not (Nat.beq i q)with
    |true=>i::AS q m l
    |false=>AS q m l
def Sk(f:Nat):List Nat->List Nat
  | []=>[f]
  | i::l=>match Nat.beq i f with
    |true=>Sk f l
    |false=>i::Sk f l
def qkl(ops:List Oper) (q f:Nat):List Nat×Nat:=match AS q (FH ops 2000 [q] []) (List.range ops.length)with
 |fr=>(tH ops (Sk f (List.range ops.length)) ops.length (q::fr) (fr++[q]),fr.length)
def SU(ops:Array Oper) (q f:Nat):Option (Array Oper×Nat):=match qkl ops.toList q f with
  | (σ,m)=>match FG ops.toList σ with
    | true=>match K6 ops.toList σ σ with
      |some x=>some (⟨x⟩,m)
      |none=>none
    |false=>none
def qfy{P:IW} {ops ops':Array Oper} {q f m:Nat} (e:SU ops q f=some (ops',m)) (h:wpAny P .any ops' Q ops'.size (Array.replicate ops'.size false) a w):vI P ops Q a w:=by
 unfold SU at e;split at e;rename_i σ m' _;split at e
 ·rename_i hok;split at e
  ·rename_i x hx;cases e;have p:=FN hok hx;have hs:(⟨x⟩:Array Oper).size=ops.size:=p.size;rw[hs]at h;refine vI.of (pX p ops.size _ (Array.replicate ops.size false) a _ ⟨by simp,by simp,λj hj d=> ?_⟩ h);have hlt:yy j σ<ops.size:=p.lt j hj;have e1:∀i,i<ops.size->(Array.replicate ops.size false).getD i d=false:=λi hi=>(by simp[Array.getD_eq_getD_getElem?,hi]);exact(e1 _ hlt).trans (e1 j hj).symm
  ·cases e
 ·cases e
def x8(m:Nat):List Edge->List Edge
  | []=>[]
  | e::l=>match Nat.ble m e.on with
    |true=>{e with on:=e.on- m}::x8 m l
    |false=>x8 m l
def Vs(m:Nat) (o:Oper):Oper:={o with after:=⟨x8 m o.after.toList⟩,guard:=match o.guard with|some (j,b)=>some (j- m,b)|none=>none}
def Ws(m:Nat):List Oper->List Oper
 | []=>[]
 |o::l=>Vs m o::Ws m l
def ku(ops:Array Oper) (m:Nat):Array Oper:=⟨Ws m (ops.toList.drop m)⟩
def Ak(m:Nat):∀l,Ws m l=l.map (Vs m)
 | []=>rfl
 |o::l=>by rw[Ws,Ak m l];rfl
def Fp(ops:Array Oper) (m k:Nat):(ku ops m)[k]? =(ops[m+k]?).map (Vs m):=by
 unfold ku;have e:∀l:List Oper,(⟨l⟩:Array Oper)[k]? =l[k]? :=λl=>by simp
 rw[e,Ak,List.getElem?_map,List.getElem?_drop,Array.getElem?_toList]
def qby(ops:Array Oper) (m:Nat):(ku ops m).size=ops.size- m:=by show(Ws m (ops.toList.drop m)).length=_;rw[Ak,List.length_map,List.length_drop,Array.length_toList]
def Fm{m:Nat}:∀{l:List Edge} {e:Edge},e∈x8 m l↔∃x∈l,m<=x.on/\e={x with on:=x.on- m}
  | [],e=>by simp[x8]
  | x ::l,e=>by
    unfold x8;split
    · rename_i h;have h:=Nat.le_of_ble_eq_true h;rw[List.mem_cons,Fm];constructor
      · rintro(rfl|⟨y,h1,h2⟩)
        · exact⟨x,List.mem_cons_self,h,rfl⟩
        · exact⟨y,List.mem_cons_of_mem _ h1,h2⟩
      · rintro⟨y,h1,h2,h3⟩;rcases List.mem_cons.1 h1 with rfl|h1
        · exact .inl h3
        · exact .inr ⟨y,h1,h2,h3⟩
    · rename_i h;have h:¬m<=x.on:=λg=>(by rw[Nat.ble_eq_true_of_le g]at h;cases h);rw[Fm];constructor
      · rintro⟨y,h1,h2⟩;exact⟨y,List.mem_cons_of_mem _ h1,h2⟩
      · rintro⟨y,h1,h2,h3⟩;rcases List.mem_cons.1 h1 with rfl|h1
        · exact absurd h2 h
        · exact⟨y,h1,h2,h3⟩
def qgg{P:IW} {m:Nat} (hgd:∀i (h:i<ops.size),m<=i->∀j b,ops[i].guard=some (j,b)->m<=j) {Q:Exit->Act->World->Prop}:∀(g f:Nat) (l l':Array Bool) (a:Act) (w:World),g<=f->l.size=ops.size->(∀i,i<m->l.getD i true=true)->(∀k,m+k<ops.size->∀d,l'.getD k d=l.getD (m+k) d)->l'.size=ops.size- m->wpAny P .any (ku ops m) Q g l' a w->wpAny P .any ops Q f l a w:=by
  have rd :∀{l l':Array Bool},l.size=ops.size->(∀i,i<m->l.getD i true=true)->(∀k,m+k<ops.size->∀d,l'.getD k d=l.getD (m+k) d)->l'.size=ops.size- m->∀i,i∈Region.ready .any ops l↔m<=i/\(i- m)∈Region.ready .any (ku ops m) l':=λ{l l'} hs hd hll hs' i=>by
    rw[Fh,Fh];constructor
    · rintro⟨o,h,h1,h2⟩;have hlt:i<ops.size:=(Array.getElem?_eq_some_iff.1 h).1;have hm:m<=i:=Nat.le_of_not_lt λx=>(by rw[hd i x]at h1;cases h1);refine⟨hm,Vs m o,by rw[Fp,show m+(i- m)=i by omega,h];rfl,by rw[hll (i- m) (by omega),show m+(i- m)=i by omega];exact h1,λe he hb=> ?_⟩;have he:e∈(⟨x8 m o.after.toList⟩:Array Edge):=he;obtain⟨x,x1,x2,rfl⟩:=Fm.1 (by simpa using he);have:=h2 x (by simpa using x1) hb;show l'.getD (x.on- m) false=true;by_cases hx:x.on<ops.size
      · rw[hll (x.on- m) (by omega),show m+(x.on- m)=x.on by omega];exact this
      · rw[Array.getD_eq_getD_getElem?,Array.getElem?_eq_none (by omega)]at this;cases this
    · rintro⟨hm,o',h,h1,h2⟩;rw[Fp,show m+(i- m)=i by omega]at h;cases ho:ops[i]? with
      |none=>rw[ho]at h;cases h
      | some o=>
        rw[ho]at h;cases h;have hlt:i<ops.size:=(Array.getElem?_eq_some_iff.1 ho).1;refine⟨o,rfl,by rw[hll (i- m) (by omega),show m+(i- m)=i by omega]at h1;exact h1,λe he hb=> ?_⟩;by_cases hx:e.on<m
        · have:=hd e.on hx;rw[Z2 (by omega) false true];exact this
        · have hmem:({e with on:=e.on- m}:Edge)∈x8 m o.after.toList:=Fm.2 ⟨e,by simpa using he,by omega,rfl⟩;have:=h2 {e with on:=e.on- m} (by show _∈(⟨x8 m o.after.toList⟩:Array Edge);simpa using hmem) hb;have:l'.getD (e.on- m) false=true:=this;by_cases hx2:e.on<ops.size
          · rw[hll (e.on- m) (by omega),show m+(e.on- m)=e.on by omega]at this;exact this
          · rw[Array.getD_eq_getD_getElem?,Array.getElem?_eq_none (by omega)]at this;cases this
  have nil:∀{l l':Array Bool},l.size=ops.size->(∀i,i<m->l.getD i true=true)->(∀k,m+k<ops.size->∀d,l'.getD k d=l.getD (m+k) d)->l'.size=ops.size- m->(Region.ready .any ops l=[]↔Region.ready .any (ku ops m) l'=[]):=λ{l l'} hs hd hll hs'=>by
    rw[List.eq_nil_iff_forall_not_mem,List.eq_nil_iff_forall_not_mem];constructor
    · intro h k hk;exact h (m+k) ((rd hs hd hll hs' (m+k)).2 ⟨by omega,by rw[show m+k- m=k by omega];exact hk⟩)
    · intro h i hi;exact h _ ((rd hs hd hll hs' i).1 hi).2
  intro g;induction g with
  | zero=>
    intro f l l' a w hgf hs hd hll hs' h;have e:=(nil hs hd hll hs').2 h.1;cases f with
    |zero=>exact⟨e,h.2⟩
    |succ f=>exact⟨λ_=>h.2,λi hi=>by rw[e]at hi;cases hi⟩
  | succ g ih=>
    intro f l l' a w hgf hs hd hll hs' h;obtain⟨f,rfl⟩:∃n,f=n+1:=⟨f- 1,by omega⟩;refine⟨λe=>h.1 ((nil hs hd hll hs').1 e),λi hi=> ?_⟩;obtain⟨hm,hr⟩:=(rd hs hd hll hs' i).1 hi;have hlt:i<ops.size:=Y2 hi;have h1:=h.2 (i- m) hr;have h2:=wpOp_mono (λa w h=>ih f (l.setIfInBounds i true) (l'.setIfInBounds (i- m) true) a w (by omega) (by rw[Array.size_setIfInBounds];exact hs) (λj hj=>by rw[vH (by omega),if_neg (by omega)];exact hd j hj) (λk hk d=>by
      rw[vH (l:=l') (by omega),vH (l:=l) (by omega)];by_cases e:k=i- m
      · rw[if_pos e,if_pos (by omega)]
      · rw[if_neg e,if_neg (by omega)];exact hll k hk d) (by rw[Array.size_setIfInBounds];exact hs') h) h1
    unfold wpOp at h2⊢;rw[Fp,show m+(i- m)=i by omega,Array.getElem?_eq_getElem hlt]at h2;rw[Array.getElem?_eq_getElem hlt];simp only[Option.map_some]at h2⊢;have hy:∀j,m<=j->yielded (ku ops m) a.tmps (j- m)=yielded ops a.tmps j:=λj hj=>(by unfold yielded;rw[Fp,show m+(j- m)=j by omega];cases ops[j]? <;>rfl);have hw:Region.wanted (Vs m ops[i]) (yielded (ku ops m) a.tmps)=Region.wanted ops[i] (yielded ops a.tmps):=by
      have hgi:=hgd i hlt hm;unfold Region.wanted Vs;cases hg:ops[i].guard with
      |none=>rfl
      | some x=>
        obtain⟨j,b⟩:=x;simp only;rw[hy j (hgi j b hg)]
    rw[hw]at h2;exact h2
structure SpX(ops:Array Oper) (q:Nat):Prop where
 lt:q<ops.size
 back:∀i (h:i<ops.size),(∀e∈ops[i].after,Region.binds .any e=true->e.on<i)/\∀j b,ops[i].guard=some (j,b)->j<i
 succ:∀j,j<q->∃k,j<k/\k<=q/\∃(h:k<ops.size),∃e∈ops[k].after,Region.binds .any e=true/\e.on=j
 next:∀i (h:i<ops.size),q<i->∃e∈ops[i].after,Region.binds .any e=true/\q<=e.on
 gd:∀i (h:i<ops.size),q+1<=i->∀j b,ops[i].guard=some (j,b)->q+1<=j
def FA(n:Nat):List Edge->Bool
 | []=>true
 |e::l=>(Bool.not (Region.binds .any e)||Nat.blt e.on n)&&FA n l
def rb{n:Nat}:∀{l:List Edge},FA n l=true->∀e∈l,Region.binds .any e=true->e.on<n
  | [],_,e,h,_=>by cases h
  | x ::l,h,e,he,hb=>by
    simp only[FA,Bool.and_eq_true,Bool.or_eq_true]at h;rcases List.mem_cons.1 he with rfl|he
    · rcases h.1 with h1|h1
      · rw[hb]at h1;cases h1
      · exact u7 h1
    · exact rb h.2 e he hb
def Gh(q:Nat):List Edge->Bool
 | []=>false
 |e::l=>(Region.binds .any e&&Nat.ble q e.on)||Gh q l
def su{q:Nat}:∀{l:List Edge},Gh q l=true->∃e∈l,Region.binds .any e=true/\q<=e.on
  | e::l,h=>by
    unfold Gh at h;rw[Bool.or_eq_true,Bool.and_eq_true]at h;rcases h with h|h
    · exact⟨e,List.mem_cons_self,h.1,Nat.le_of_ble_eq_true h.2⟩
    · obtain⟨e',h1,h2⟩:=su h;exact⟨e',List.mem_cons_of_mem _ h1,h2⟩
def Sb(l:List Oper) (q:Nat):Bool:=
 Nat.blt q l.length&&
 (jZ l.length (λi=>match nth l i with|some o=>FA i o.after.toList&&(match o.guard with|some (j,_)=>Nat.blt j i|none=>true)|none=>false)&&
 (jZ q (λj=>Wg (q+1) λk=>Nat.blt j k&&Z5 l k j)&&
 jZ l.length (λi=>Nat.ble i q|| (match nth l i with|some o=>Gh q o.after.toList&&(match o.guard with|some (j,_)=>Nat.ble (q+1) j|none=>true)|none=>false))))
def qbw{q:Nat} (h:Sb ops.toList q=true):SpX ops q:=by
 unfold Sb at h;simp only[Bool.and_eq_true]at h;obtain⟨h1,h2,h3,h4⟩:=h;have hl:ops.toList.length=ops.size:=Array.length_toList;have hq:q<ops.size:=by rw[←hl];exact u7 h1
 have at':∀i (hi:i<ops.size),nth ops.toList i=some ops[i]:=λi hi=>by rw[jY];simp[hi]
 have edge:∀k j (hk:k<ops.size),Z5 ops.toList k j=true->∃e∈ops[k].after,Region.binds .any e=true/\e.on=j:=λk j hk e=>by unfold Z5 at e;rw[at' k hk]at e;obtain⟨x,e1,e2⟩:=A9 e;exact⟨x,Array.mem_toList_iff.1 e1,e2⟩
 have late:∀i (hi:i<ops.size),q<i->(∃e∈ops[i].after,Region.binds .any e=true/\q<=e.on)/\∀j b,ops[i].guard=some (j,b)->q+1<=j:=λi hi hqi=>by
  have:=vG h4 i (by rw[hl];exact hi);rw[at' i hi]at this;simp only[Bool.or_eq_true,Bool.and_eq_true]at this;rcases this with g|⟨g1,g2⟩
  ·have:=Nat.le_of_ble_eq_true g;omega
  ·obtain⟨x,e1,e2⟩:=su g1;refine⟨⟨x,Array.mem_toList_iff.1 e1,e2⟩,λj b hg=> ?_⟩;rw[hg]at g2;exact Nat.le_of_ble_eq_true g2
 refine⟨hq,λi hi=> ?_,λj hj=> ?_,λi hi hqi=>(late i hi hqi).1,λi hi hqi=>(late i hi (by omega)).2⟩
 ·have:=vG h2 i (by rw[hl];exact hi);rw[at' i hi]at this;simp only[Bool.and_eq_true]at this;refine⟨λe he hb=>rb this.1 e (Array.mem_toList_iff.2 he) hb,λj b hg=> ?_⟩;have g:=this.2;rw[hg]at g;exact u7 g
 ·have:=vG h3 j hj;obtain⟨k,k1,k2⟩:=Aa this;rw[Bool.and_eq_true]at k2;have hk:k<ops.size:=by omega
  exact⟨k,u7 k2.1,by omega,hk,edge k j hk k2.2⟩
def q9d{P:IW} {ops:Array Oper} {q:Nat} (s:SpX ops q) {Q Q':Exit->Act->World->Prop} (hn:∀a w,Q' .normal a w->wpOp P ops Q q (wpAny P .any (ku ops (q+1)) Q (ops.size- q- 1) (Array.replicate (ops.size- q- 1) false)) a w) (ho:∀e a w,e≠ .normal->Q' e a w->Q e a w):∀(fuel:Nat) (l l':Array Bool) (a:Act) (w:World),Lq ops l->(∀i,q<=i->i<ops.size->∀d,l.getD i d=false)->l'.size=q->(∀i,i<q->∀d,l'.getD i d=l.getD i d)->wpAny P .any (kT ops q) Q' fuel l' a w->wpAny P .any ops Q (fuel+(ops.size- q)) l a w:=by
  have hs:=X3 s.lt;have rd:∀{l l':Array Bool},(∀i,i<q->∀d,l'.getD i d=l.getD i d)->∀i,i∈Region.ready .any (kT ops q) l'↔i<q/\i∈Region.ready .any ops l:=λ{l l'} hll i=>by
    rw[j7,j7];constructor
    · rintro⟨h1,h2,h3⟩;have hi:i<q:=(by rw[hs]at h1;exact h1);have hg:(kT ops q)[i]=ops[i]'(by have:=s.lt;omega):=by have:=QU s.lt hi;rw[Array.getElem?_eq_getElem h1]at this;exact Option.some.inj this
      rw[hg]at h3;refine⟨hi,by have:=s.lt;omega,by rw[←hll i hi];exact h2,λe he hb=> ?_⟩;have:=(s.back i (by have:=s.lt;omega)).1 e he hb;rw[←hll e.on (by omega)];exact h3 e he hb
    · rintro⟨hi,h1,h2,h3⟩;have h1':i<(kT ops q).size:=(by rw[hs];exact hi);have hg:(kT ops q)[i]=ops[i]'h1:=by have:=QU s.lt hi;rw[Array.getElem?_eq_getElem h1']at this;exact Option.some.inj this
      refine⟨h1',by rw[hll i hi];exact h2,λe he hb=> ?_⟩;rw[hg]at he;have:=(s.back i h1).1 e he hb;rw[hll e.on (by omega)];exact h3 e he hb
  have prog :∀{l:Array Bool},Lq ops l->(∀i,i<q->l.getD i true=true)\/∃i,i<q/\i∈Region.ready .any ops l:=λ{l} hl=>by
    have step:∀m:Nat,m<=q->(∀i,i<m->l.getD i true=true)\/∃i,i<q/\i∈Region.ready .any ops l:=λm=>by
      induction m with
      |zero=>intro _;exact .inl λi h=>absurd h (by omega)
      | succ m ih=>
        intro hm;rcases ih (by omega)with h|h
        · have hms:m<ops.size:=by have:=s.lt;omega
          cases hb:l.getD m true with
          | true=>
            refine .inl λi hi=> ?_;by_cases e:i=m
            · rw[e];exact hb
            · exact h i (by omega)
          | false=>
            refine .inr ⟨m,by omega,j7.2 ⟨hms,hb,λe he hbb=> ?_⟩⟩;have:=(s.back m hms).1 e he hbb;rw[Z2 (by rw[hl.size];omega) false true];exact h e.on this
        · exact .inr h
    exact step q (Nat.le_refl _)
  have only:∀{l:Array Bool},Lq ops l->(∀i,q<=i->i<ops.size->∀d,l.getD i d=false)->∀i,q<=i->i∈Region.ready .any ops l->∀j,j<q->l.getD j true=true:=λ{l} hl hz i hqi hi=>by
    obtain⟨h1,h2,h3⟩:=j7.1 hi;have hiq:i=q:=by
      by_cases e:i=q
      · exact e
      · obtain⟨x,hx,hb,ho'⟩:=s.next i h1 (by omega);have:=h3 x hx hb;have hxi:=(s.back i h1).1 x hx hb;rw[hz x.on ho' (by omega)]at this;cases this
    subst hiq;have down:∀d j,i- j<=d->j<i->l.getD j true=true:=λd=>by
      induction d with
      |zero=>intro j h4 h5;omega
      | succ d ih=>
        intro j h4 h5;obtain⟨k,k1,k2,hk,e,he,hb,hon⟩:=s.succ j h5;rw[Z2 (by rw[hl.size];omega) true false,←hon];by_cases hki:k=i
        · subst hki;exact h3 e he hb
        · exact hl.down k hk (ih k (by omega) (by omega)) e he hb
    exactλj hj=>down i j (by omega) hj
  have fin:∀(l:Array Bool) (fuel:Nat) (a:Act) (w:World),ops.size- q<=fuel->Lq ops l->(∀i,q<=i->i<ops.size->∀d,l.getD i d=false)->(∀i,i<q->l.getD i true=true)->Q' .normal a w->wpAny P .any ops Q fuel l a w:=λl fuel a w hf hl hz hd h=>by
    obtain⟨fuel,rfl⟩:∃n,fuel=n+1:=⟨fuel- 1,by have:=s.lt;omega⟩;have hr:q∈Region.ready .any ops l:=j7.2 ⟨s.lt,by rw[hz q (Nat.le_refl _) s.lt],λe he hb=>by have:=(s.back q s.lt).1 e he hb;rw[Z2 (by rw[hl.size];have:=s.lt;omega) false true];exact hd e.on this⟩;refine⟨λe=>(by rw[e]at hr;cases hr),λi hi=> ?_⟩;have:i=q:=by
      obtain⟨h1,h2,h3⟩:=j7.1 hi;by_cases e:i=q
      · exact e
      · by_cases hlt:i<q
        · rw[hd i hlt]at h2;cases h2
        · obtain⟨x,hx,hb,ho'⟩:=s.next i h1 (by omega);have:=h3 x hx hb;have hxi:=(s.back i h1).1 x hx hb;rw[hz x.on ho' (by omega)]at this;cases this
    subst this;have hlt:=s.lt;refine wpOp_mono (λa w h=>qgg s.gd (ops.size- i- 1) fuel (l.setIfInBounds i true) (Array.replicate (ops.size- i- 1) false) a w (by omega) (by rw[Array.size_setIfInBounds];exact hl.size) (λj hj=> ?_) (λk hk d=> ?_) (by simp;omega) h) (hn a w h)
    · rw[vH (by rw[hl.size];exact hlt)];by_cases e:j=i
      · rw[if_pos e]
      · rw[if_neg e];exact hd j (by omega)
    · rw[vH (by rw[hl.size];exact hlt),if_neg (by omega),hz (i+1+k) (by omega) hk];simp[Array.getD_eq_getD_getElem?,show k<ops.size- i- 1 by omega]
  intro fuel;induction fuel with
  | zero=>
    intro l l' a w hl hz hs' hll h;refine fin l _ a w (by omega) hl hz ?_ h.2;rcases prog hl with hd|⟨i,hi,hr⟩
    · exact hd
    · have:=(rd hll i).2 ⟨hi,hr⟩;rw[h.1]at this;cases this
  | succ fuel ih=>
    intro l l' a w hl hz hs' hll h;rcases prog hl with hd|⟨i,hi,hr⟩
    · refine fin l _ a w (by omega) hl hz hd (h.1 ?_);rw[List.eq_nil_iff_forall_not_mem];intro i hi;obtain⟨hiq,hi2⟩:=(rd hll i).1 hi;obtain⟨_,h2,_⟩:=j7.1 hi2;rw[hd i hiq]at h2;cases h2
    · rw [show fuel+1+(ops.size- q)=(fuel+(ops.size- q))+1 by omega];refine⟨λe=>(by rw[e]at hr;cases hr),λk hk=> ?_⟩;have hkq:k<q:=by
        by_cases hkq:k<q
        · exact hkq
        · obtain⟨_,h2,_⟩:=j7.1 hr;rw[only hl hz k (by omega) hk i hi]at h2;cases h2
      have hks:k<ops.size:=by have:=s.lt;omega
      have h1:=h.2 k ((rd hll k).2 ⟨hkq,hk⟩);have h2:=wpOp_mono (λa w h=>ih (l.setIfInBounds k true) (l'.setIfInBounds k true) a w (hl.set hk) (λj hj hjs d=>by rw[vH (by rw[hl.size];exact hks),if_neg (by omega)];exact hz j hj hjs d) (by rw[Array.size_setIfInBounds];exact hs') (λj hj d=>by rw[vH (l:=l') (by rw[hs'];exact hkq),vH (l:=l) (by rw[hl.size];exact hks),hll j hj d]) h) h1;unfold wpOp at h2⊢;rw[QU s.lt hkq]at h2;rw[Array.getElem?_eq_getElem hks];simp only at h2⊢;have hw:Region.wanted ops[k] (yielded (kT ops q) a.tmps)=Region.wanted ops[k] (yielded ops a.tmps):=by
        unfold Region.wanted;cases hg:ops[k].guard with
        |none=>rfl
        | some x=>
          obtain⟨j,b⟩:=x;have hj:=(s.back k hks).2 j b hg;simp only;unfold yielded;rw[QU s.lt (show j<q by omega),Array.getElem?_eq_getElem (by omega)]
      rw[hw]at h2;split
      · rename_i hwt;rw[if_pos hwt]at h2;exact h2.imp (Am ho) λh=>⟨h.1,h.2.elim λa h=>h.elim λw h=>⟨a,w,ho _ _ _ (by simp) h⟩⟩
      · rename_i hwt;rw[if_neg hwt]at h2;exact h2
section
variable {P:IW} {n:Nat} {ops:Array Oper} {A:List Nat} {pr:vK} {rs:List Rc} {Tt:Nat->T AV} {H:Nat->T AO} {X:Nat->Nat}
def xW{f:Oper->Bool} {i:Nat} {o:Oper} (ho:ops[i]? =some o):flag f ops.toList i=f o:=by
 have:nth ops.toList i=some o:=by rw[jY];simpa using ho
 unfold flag;rw[this]
end
end
end Go.Proofs.YtniogjgfomaicaaGreat.Eng
