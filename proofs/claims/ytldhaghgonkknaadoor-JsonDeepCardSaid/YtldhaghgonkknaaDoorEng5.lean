/-
  Proved runs as calls of the machine, and runs in pieces. No condition but what its last theorems ask.
-/
import Derived.Test.YtldhaghgonkknaaDoorEng4
import Derived.Laws.Externs
import Derived.Lib.Bytealg
namespace Go.Proofs.YtldhaghgonkknaaDoor.Old
open Go.RowKit
set_option linter.unusedVariables false
set_option linter.unusedSimpArgs false
variable {gl : T AV}
noncomputable def tabOf:List (Nat×Bool)->Nat->Option Bool
  | [],_=>none
  | (g,b)::l,f=>if f=g then some b else tabOf l f
theorem tabOf_mem:∀{l f b},tabOf l f=some b->(f,b)∈l
  | (g,b')::l,f,b,e=>by
    simp only[tabOf]at e
    split at e
    · rename_i h;subst h;cases e;exact .head _
    · exact .tail _ (tabOf_mem e)
noncomputable def callC (P:Program) (tab:List (Nat×Bool)) (call:CallF):CallF:=λf args h nx=>
  match args with
  | []=>match tabOf tab f with
    | some b=>match P.funcs[f]? with
      | some fn=>match fn.body with
        |some _=>some (.bool b,h,nx)
        |none=>none
      |none=>none
    |none=>call f [] h nx
  |a::l=>call f (a::l) h nx
noncomputable def TabOK (P:Program) (tab:List (Nat×Bool)):Prop:=∀f b,(f,b)∈tab->∀w,Calls P f #[] w λe w'=>e= .returned (.bool b)/\Below w.heap.size w w'
theorem callC_ok{P:Program} {tab:List (Nat×Bool)} {call:CallF} (ht:TabOK P tab) (hn:∀(f:Nat) (fn:Func),P.funcs[f]? =some fn->(fn.name== "runtime.NumGoroutine")=false) (hc:CallOK gl P call):CallOK gl P (callC P tab call):=by
  intro f args h nx r h' nx' e
  unfold callC at e
  split at e
  · split at e
    · rename_i b hb
      split at e
      · rename_i fn hfn
        split at e
        · rename_i c hbody
          cases e
          refine .inl ⟨Nat.le_refl _,λargs w=> ?_,λF I w vs hv hs hF hG hZ fr=> ?_⟩
          · have hnn:¬fn.name= "runtime.NumGoroutine" :=by have:=hn f fn hfn;simpa using this
            simp[callFunc,program,Sem.run,bind,Sem.bind,pure,hfn,hnn,hbody]
          · cases hv
            refine(ht f b (tabOf_mem hb) w).mono λe w' hh=> ?_
            obtain⟨rfl,bl⟩:=hh
            refine⟨_,I,rfl, .bool _,In.le_refl I,λ_ _ h=> .inl h,⟨λid o b t h1 h2=> ?_,hs.inj,hs.fr⟩,λb hb=>bl.block b (hF b hb),bl.size,⟨bl.os,bl.tape,bl.output⟩⟩
            obtain⟨ob,k1,k2⟩:=hs.obj id o b t h1 h2
            refine⟨ob,?_,k2⟩
            rw[bl.block b ?_,k1]
            exact Array.getElem?_eq_some_iff.1 k1|>.1
        · cases e
      · cases e
    · exact hc _ _ _ _ _ _ _ e
  · exact hc _ _ _ _ _ _ _ e
theorem exec_mono{P:Program} {call:CallF} {ext:ExtF} {reg:RegF} {n:Nat}:∀(f:Nat) (c:Code) (t:T AV) (h:T AO) (nx:Nat) (r:AX×T AV×T AO×Nat),exec P call ext reg n f c t h nx=some r->∀g,f<=g->exec P call ext reg n g c t h nx=some r:=by
  intro f
  induction f with
  |zero=>intro c t h nx r e;cases e
  | succ f ih=>
    intro c t h nx r e g hg
    cases g with
    |zero=>omega
    | succ g=>
      have hg':f<=g:=by omega
      cases c with
      | seq x y=>
        simp only[exec]at e⊢
        split at e
        · rename_i t1 h1 nx1 e1
          rw[ih _ _ _ _ _ e1 g hg']
          exact ih _ _ _ _ _ e g hg'
        · rename_i hne
          rw[ih _ _ _ _ _ e g hg']
          obtain⟨x,t1,h1,nx1⟩:=r
          cases x with
          |nrm=>exact(hne _ _ _ e).elim
          |_=>rfl
      | cond x a b=>
        simp only[exec]at e⊢
        split at e
        · exact ih _ _ _ _ _ e g hg'
        · exact ih _ _ _ _ _ e g hg'
        · cases e
      | block id c=>
        simp only[exec]at e⊢
        split at e
        · rename_i j r1 e1
          rw[ih _ _ _ _ _ e1 g hg']
          exact e
        · rename_i hne
          rw[ih _ _ _ _ _ e g hg']
          obtain⟨x,r1⟩:=r
          cases x with
          |ex j=>exact(hne _ _ e).elim
          |_=>rfl
      | loop c=>
        simp only[exec]at e⊢
        split at e
        · rename_i t1 h1 nx1 e1
          rw[ih _ _ _ _ _ e1 g hg']
          exact ih _ _ _ _ _ e g hg'
        · rename_i hne
          rw[ih _ _ _ _ _ e g hg']
          obtain⟨x,t1,h1,nx1⟩:=r
          cases x with
          |nrm=>exact(hne _ _ _ e).elim
          |_=>rfl
      |_=>exact e
inductive PX where
  |done (x:AX)
  |rest (c:Code)
noncomputable def part (P:Program) (call:CallF) (ext:ExtF) (reg:RegF) (n N:Nat):Nat->Nat->Code->T AV->T AO->Nat->Option (Nat×PX×T AV×T AO×Nat)
  |0,_,_,_,_,_=>none
  | f + 1,b,c,t,h,nx=>match c with
    | .seq x y=>match part P call ext reg n N f b x t h nx with
      |some (b', .done .nrm,t',h',nx')=>part P call ext reg n N f b' y t' h' nx'
      |some (b', .rest x',r)=>some (b', .rest (.seq x' y),r)
      |r=>r
    | .cond x a c=>match ev t x with
      |some (.bool true)=>part P call ext reg n N f b a t h nx
      |some (.bool false)=>part P call ext reg n N f b c t h nx
      |_=>none
    | .block id c=>match part P call ext reg n N f b c t h nx with
      |some (b', .done (.ex j),r)=>if j=id then some (b', .done .nrm,r)else some (b', .done (.ex j),r)
      |some (b', .rest c',r)=>some (b', .rest (.block id c'),r)
      |r=>r
    | .loop c=>match b with
      |0=>some (0, .rest (.loop c),t,h,nx)
      | b+1=>match exec P call ext reg n N c t h nx with
        |some (.nrm,t',h',nx')=>part P call ext reg n N f b (.loop c) t' h' nx'
        |some (x,r)=>some (b, .done x,r)
        |none=>none
    | c=>match exec P call ext reg n N c t h nx with
      |some (x,r)=>some (b, .done x,r)
      |none=>none
noncomputable def Ex (P:Program) (call:CallF) (ext:ExtF) (reg:RegF) (n:Nat) (c:Code) (t:T AV) (h:T AO) (nx:Nat) (r:AX×T AV×T AO×Nat):Prop:=∃f,exec P call ext reg n f c t h nx=some r
noncomputable def blk (id:Nat):AX->AX
  | .ex j=>if j=id then .nrm else .ex j
  |z=>z
section
variable {P : Program} {call : CallF} {ext : ExtF} {reg : RegF} {n : Nat} {t : T AV} {h : T AO} {nx : Nat} {r : AX × T AV × T AO × Nat}
theorem Ex.seq{x y t' h' nx'} (a:Ex P call ext reg n x t h nx (.nrm,t',h',nx')) (b:Ex P call ext reg n y t' h' nx' r):Ex P call ext reg n (.seq x y) t h nx r:=by
  obtain⟨f,a⟩:=a
  obtain⟨g,b⟩:=b
  refine⟨f+g+1,?_⟩
  simp only[exec]
  rw[exec_mono _ _ _ _ _ _ a (f+g) (by omega)]
  exact exec_mono _ _ _ _ _ _ b _ (by omega)
theorem Ex.seq_out{x y z r'} (a:Ex P call ext reg n x t h nx (z,r')) (hz:z≠ .nrm):Ex P call ext reg n (.seq x y) t h nx (z,r'):=by
  obtain⟨f,a⟩:=a
  refine⟨f+1,?_⟩
  simp only[exec]
  rw[a]
  obtain⟨_,_,_⟩:=r'
  cases z<;>first|exact(hz rfl).elim|rfl
theorem Ex.block{id c z r'} (a:Ex P call ext reg n c t h nx (z,r')):Ex P call ext reg n (.block id c) t h nx (blk id z,r'):=by
  obtain⟨f,a⟩:=a
  refine⟨f+1,?_⟩
  simp only[exec]
  rw[a]
  cases z with
  | ex j=>
    by_cases hj:j=id
    · subst hj;simp[blk]
    · simp[hj,blk]
  |_=>rfl
theorem Ex.loop{c t' h' nx'} (a:Ex P call ext reg n c t h nx (.nrm,t',h',nx')) (b:Ex P call ext reg n (.loop c) t' h' nx' r):Ex P call ext reg n (.loop c) t h nx r:=by
  obtain⟨f,a⟩:=a
  obtain⟨g,b⟩:=b
  refine⟨f+g+1,?_⟩
  simp only[exec]
  rw[exec_mono _ _ _ _ _ _ a (f+g) (by omega)]
  exact exec_mono _ _ _ _ _ _ b _ (by omega)
theorem Ex.loop_out{c z r'} (a:Ex P call ext reg n c t h nx (z,r')) (hz:z≠ .nrm):Ex P call ext reg n (.loop c) t h nx (z,r'):=by
  obtain⟨f,a⟩:=a
  refine⟨f+1,?_⟩
  simp only[exec]
  rw[a]
  obtain⟨_,_,_⟩:=r'
  cases z<;>first|exact(hz rfl).elim|rfl
theorem Ex.cond_true{x a c} (e:ev t x=some (.bool true)) (k:Ex P call ext reg n a t h nx r):Ex P call ext reg n (.cond x a c) t h nx r:=by
  obtain⟨f,k⟩:=k
  exact⟨f+1,by simp only[exec,e];exact k⟩
theorem Ex.cond_false{x a c} (e:ev t x=some (.bool false)) (k:Ex P call ext reg n c t h nx r):Ex P call ext reg n (.cond x a c) t h nx r:=by
  obtain⟨f,k⟩:=k
  exact⟨f+1,by simp only[exec,e];exact k⟩
end
noncomputable def PartOK (P:Program) (call:CallF) (ext:ExtF) (reg:RegF) (n:Nat) (c:Code) (t:T AV) (h:T AO) (nx:Nat):PX->T AV->T AO->Nat->Prop
  | .done x,t',h',nx'=>Ex P call ext reg n c t h nx (x,t',h',nx')
  | .rest c',t',h',nx'=>∀r,Ex P call ext reg n c' t' h' nx' r->Ex P call ext reg n c t h nx r
theorem part_ok{P:Program} {call:CallF} {ext:ExtF} {reg:RegF} {n N:Nat}:∀(f b:Nat) (c:Code) (t:T AV) (h:T AO) (nx b':Nat) (p:PX) (t':T AV) (h':T AO) (nx':Nat),part P call ext reg n N f b c t h nx=some (b',p,t',h',nx')->PartOK P call ext reg n c t h nx p t' h' nx':=by
  intro f
  induction f with
  |zero=>intro b c t h nx b' p t' h' nx' e;cases e
  | succ f ih=>
    intro b c t h nx b' p t' h' nx' e
    have base:∀{c:Code},(match exec P call ext reg n N c t h nx with|some (x,r)=>some (b,PX.done x,r)|none=>none)=some (b',p,t',h',nx')->PartOK P call ext reg n c t h nx p t' h' nx':=λe=>by
      split at e
      · rename_i x r hx;cases e;exact⟨_,hx⟩
      · cases e
    cases c with
    | seq x y=>
      simp only[part]at e
      split at e
      · rename_i b1 t1 h1 nx1 e1
        have k1:=ih _ _ _ _ _ _ _ _ _ _ e1
        have k2:=ih _ _ _ _ _ _ _ _ _ _ e
        cases p with
        |done z=>exact Ex.seq k1 k2
        |rest c'=>exactλr hr=>Ex.seq k1 (k2 r hr)
      · rename_i b1 x' r1 e1
        cases e
        have k1:=ih _ _ _ _ _ _ _ _ _ _ e1
        intro r hr
        obtain⟨f,hr⟩:=hr
        cases f with
        |zero=>cases hr
        | succ f=>
          simp only[exec]at hr
          split at hr
          · rename_i t2 h2 nx2 e2
            exact Ex.seq (k1 _ ⟨_,e2⟩) ⟨_,hr⟩
          · rename_i hne
            obtain⟨z,r2⟩:=r
            refine Ex.seq_out (k1 _ ⟨_,hr⟩) λhz=> ?_
            subst hz
            obtain⟨_,_,_⟩:=r2
            exact hne _ _ _ hr
      · rename_i hn1 hn2
        have k1:=ih _ _ _ _ _ _ _ _ _ _ e
        cases p with
        |done z=>exact Ex.seq_out k1 λhz=>by subst hz;exact hn1 _ _ _ _ e
        |rest c'=>exact(hn2 _ _ _ e).elim
    | cond x a c=>
      simp only[part]at e
      split at e
      · rename_i hx
        have k1:=ih _ _ _ _ _ _ _ _ _ _ e
        cases p with
        |done z=>exact Ex.cond_true hx k1
        |rest c'=>exactλr hr=>Ex.cond_true hx (k1 r hr)
      · rename_i hx
        have k1:=ih _ _ _ _ _ _ _ _ _ _ e
        cases p with
        |done z=>exact Ex.cond_false hx k1
        |rest c'=>exactλr hr=>Ex.cond_false hx (k1 r hr)
      · cases e
    | block id c=>
      simp only[part]at e
      split at e
      · rename_i b1 j r1 e1
        have k1:=ih _ _ _ _ _ _ _ _ _ _ e1
        have k2:=Ex.block (id:=id) k1
        split at e
        · rename_i hj;subst hj;cases e;(simp[blk]at k2;exact k2)
        · rename_i hj;cases e;(simp[blk,hj]at k2;exact k2)
      · rename_i b1 c' r1 e1
        cases e
        have k1:=ih _ _ _ _ _ _ _ _ _ _ e1
        intro r hr
        obtain⟨f,hr⟩:=hr
        cases f with
        |zero=>cases hr
        | succ f=>
          simp only[exec]at hr
          split at hr
          · rename_i j r2 e2
            have k2:=Ex.block (id:=id) (k1 _ ⟨_,e2⟩)
            split at hr
            · rename_i hj;subst hj;cases hr;(simp[blk]at k2;exact k2)
            · rename_i hj;cases hr;(simp[blk,hj]at k2;exact k2)
          · rename_i hne
            obtain⟨z,r2⟩:=r
            have k2:=Ex.block (id:=id) (k1 _ ⟨_,hr⟩)
            cases z with
            |ex j=>exact(hne _ _ hr).elim
            |_=>(simp[blk]at k2;exact k2)
      · rename_i hn1 hn2
        have k1:=ih _ _ _ _ _ _ _ _ _ _ e
        cases p with
        | done z=>
          have k2:=Ex.block (id:=id) k1
          cases z with
          |ex j=>exact(hn1 _ _ _ e).elim
          |_=>(simp[blk]at k2;exact k2)
        |rest c'=>exact(hn2 _ _ _ e).elim
    | loop c=>
      simp only[part]at e
      split at e
      · cases e
        exactλr hr=>hr
      · rename_i b1
        split at e
        · rename_i t1 h1 nx1 e1
          have k2:=ih _ _ _ _ _ _ _ _ _ _ e
          cases p with
          |done z=>exact Ex.loop ⟨_,e1⟩ k2
          |rest c'=>exactλr hr=>Ex.loop ⟨_,e1⟩ (k2 r hr)
        · rename_i x r1 hne e1
          cases e
          exact Ex.loop_out ⟨_,e1⟩ λhz=>by subst hz;exact hne _ _ _ rfl rfl
        · cases e
    |_=>simp only[part]at e;exact base e
noncomputable def startF (P:Program) (call:CallF) (ext:ExtF) (N b f:Nat):Option (Code×T AV×T AO×Nat):=
  match P.funcs[f]? with
  | some fn=>match fn.body with
    | some c=>match part P call ext (regD P call ext fn.ntmps) fn.ntmps N N b c .e .e 0 with
      |some (_, .rest c',t,h,nx)=>some (c',t,h,nx)
      |_=>none
    |none=>none
  |none=>none
noncomputable def goF (P:Program) (call:CallF) (ext:ExtF) (N b f:Nat) (c:Code) (t:T AV) (h:T AO) (nx:Nat):Option (Code×T AV×T AO×Nat):=
  match P.funcs[f]? with
  | some fn=>match part P call ext (regD P call ext fn.ntmps) fn.ntmps N N b c t h nx with
    |some (_, .rest c',t,h,nx)=>some (c',t,h,nx)
    |_=>none
  |none=>none
noncomputable def endF (P:Program) (call:CallF) (ext:ExtF) (N f:Nat) (c:Code) (t:T AV) (h:T AO) (nx:Nat):Option (AV×T AO×Nat):=
  match P.funcs[f]? with
  | some fn=>match exec P call ext (regD P call ext fn.ntmps) fn.ntmps N c t h nx with
    |some (.ex _,_)=>none
    | some (_,t',h',nx')=>match aresults P t' h' fn.results.toList with
      |some r=>some (oneOr r,h',nx')
      |none=>none
    |none=>none
  |none=>none
noncomputable def Reach (P:Program) (call:CallF) (ext:ExtF) (f:Nat) (c:Code) (t:T AV) (h:T AO) (nx:Nat):Prop:=
  ∃fn c0,P.funcs[f]? =some fn/\fn.body=some c0/\∀r,Ex P call ext (regD P call ext fn.ntmps) fn.ntmps c t h nx r->Ex P call ext (regD P call ext fn.ntmps) fn.ntmps c0 .e .e 0 r
theorem start_ok{P:Program} {call:CallF} {ext:ExtF} {N b f:Nat} {c t h nx} (e:startF P call ext N b f=some (c,t,h,nx)):Reach P call ext f c t h nx:=by
  unfold startF at e
  split at e
  · rename_i fn hfn
    split at e
    · rename_i c0 hc
      split at e
      · rename_i e1
        cases e
        exact⟨fn,c0,hfn,hc,part_ok _ _ _ _ _ _ _ _ _ _ _ e1⟩
      · cases e
    · cases e
  · cases e
theorem go_ok{P:Program} {call:CallF} {ext:ExtF} {N b f:Nat} {c t h nx c' t' h' nx'} (k:Reach P call ext f c t h nx) (e:goF P call ext N b f c t h nx=some (c',t',h',nx')):Reach P call ext f c' t' h' nx':=by
  obtain⟨fn,c0,hfn,hc,k⟩:=k
  unfold goF at e
  rw[hfn]at e
  simp only at e
  split at e
  · rename_i e1
    cases e
    exact⟨fn,c0,hfn,hc,λr hr=>k r (part_ok _ _ _ _ _ _ _ _ _ _ _ e1 r hr)⟩
  · cases e
theorem end_ok{P:Program} {call:CallF} {ext:ExtF} {N f:Nat} {c t h nx b h' nx'} (hm:P.follows .mixedOrders=true) (hc:CallOK .e P call) (he:ExtOK P ext) (k:Reach P call ext f c t h nx) (e:endF P call ext N f c t h nx=some (.bool b,h',nx')) (w:World):
    Calls P f #[] w λe w'=>e= .returned (.bool b)/\Below w.heap.size w w':=by
  obtain⟨fn,c0,hfn,hb,k⟩:=k
  unfold endF at e
  rw[hfn]at e
  simp only at e
  split at e
  · cases e
  · rename_i x t1 h1 nx1 hx he1
    split at e
    · rename_i rs hrs
      simp only[Option.some.injEq,Prod.mk.injEq]at e
      obtain⟨e1,rfl,rfl⟩:=e
      obtain⟨M,hM⟩:=k _ ⟨_,he1⟩
      obtain⟨k1,k2⟩:=exec_ok hc he (regD_ok hm hc he fn.ntmps) _ _ _ _ _ _ _ _ _ hM
      refine calls_of_wp hfn hb (k2 (λs b=>match s with|true=>b<w.heap.size|false=>False) (λ_=>none) _ w ?_ (λi _ _=>rfl) _ λe a' I' w' hxe st' g'=> ?_)
      · refine⟨λk b hk=>(by rw[T.get_e]at hk;cases hk),by simp,rfl,⟨λid o b t h=>(by rw[T.get_e]at h;cases h),λid id' o o' b t t' h=>(by rw[T.get_e]at h;cases h),λid o b t h=>(by rw[T.get_e]at h;cases h)⟩,λb h=>h,λn a h=>(by rw[T.get_e]at h;cases h),λb h=>h.elim⟩
      · obtain⟨v,r1,r2⟩:=results_run (P:=P) st' hrs
        have fin:v= .bool b/\Below w.heap.size w w':=by
          rw[e1]at r2
          cases r2
          exact⟨rfl,g'.same.os,g'.same.tape,g'.same.output,g'.size,λk hk=>g'.fr k hk⟩
        cases e with
        |normal=>exact⟨st'.defers,v,r1,congrArg _ fin.1,fin.2⟩
        |ret=>exact⟨st'.defers,v,r1,congrArg _ fin.1,fin.2⟩
        |exit i=>cases x<;>simp only[AX.is]at hxe;exact(hx _ rfl).elim
        |_=>cases x<;>simp only[AX.is]at hxe
    · cases e
  · cases e
noncomputable def yes:Option (AV×T AO×Nat)->Bool
  |some (.bool true,_,_)=>true
  |_=>false
theorem yes_ok:∀{r:Option (AV×T AO×Nat)},yes r=true->∃h nx,r=some (.bool true,h,nx)
  |some (.bool true,h,nx),_=>⟨h,nx,rfl⟩
noncomputable def hasLoop:Code->Bool
  | .seq x y=>hasLoop x||hasLoop y
  | .block _ c=>hasLoop c
  | .loop _=>true
  |_=>false
noncomputable def strip:Code->Code
  | .seq x y=>match hasLoop x with
    |true=> .seq (strip x) y
    |false=>strip y
  | .block id c=> .block id (strip c)
  |c=>c
noncomputable def bodyOf (P:Program) (f:Nat):Code:=match P.funcs[f]? with
  | some fn=>match fn.body with
    |some c=>c
    |none=> .skip
  |none=> .skip
noncomputable def noNum (P:Program):Bool:=P.funcs.toList.all λfn=> !(fn.name== "runtime.NumGoroutine")
theorem noNum_ok{P:Program} (e:noNum P=true) (f:Nat) (fn:Func) (h:P.funcs[f]? =some fn):(fn.name== "runtime.NumGoroutine")=false:=by
  have:=List.all_eq_true.1 e fn (by
    rw[←Array.getElem?_toList]at h
    exact List.mem_of_getElem? h)
  simpa using this
noncomputable def noExt:ExtF:=λ_ _=>none
theorem noExt_ok{P:Program}:ExtOK P noExt:=λf l r e=>by cases e
inductive EK where
  |same
  |idx
  |cnt
noncomputable def EK.row:EK->Array Value->Sem Value
  | .same=>Extern.AbiNoEscape.same
  | .idx=>Extern.BytealgIndexByte.indexByte
  | .cnt=>Extern.BytealgCount.count
noncomputable def idxOf:List Nat->Nat->Nat->Option Nat
  | [],_,_=>none
  | a::l,b,i=>match Nat.beq (Nat.mod a 256) b with
    |true=>some i
    |false=>idxOf l b (Nat.add i 1)
noncomputable def cntOf:List Nat->Nat->Nat->Nat
  | [],_,n=>n
  | a::l,b,n=>match Nat.beq (Nat.mod a 256) b with
    |true=>cntOf l b (Nat.add n 1)
    |false=>cntOf l b n
noncomputable def extK:EK->List AV->Option AV
  | .same,[x]=>some x
  | .idx,[.str l, .int .u8 (.ofNat b)]=>if b<256 then some (.int .i64 (match idxOf l b 0 with|some i=> .ofNat i|none=> .negSucc 0))else none
  | .cnt,[.str l, .int .u8 (.ofNat b)]=>if b<256 then some (.int .i64 (.ofNat (cntOf l b 0)))else none
  |_,_=>none
noncomputable def ekOf:List (Nat×EK)->Nat->Option EK
  | [],_=>none
  | (g,k)::l,f=>match Nat.beq f g with
    |true=>some k
    |false=>ekOf l f
theorem ekOf_mem:∀{l f k},ekOf l f=some k->(f,k)∈l
  | (g,k')::l,f,k,e=>by
    simp only[ekOf]at e
    split at e
    · rename_i h
      have:=Nat.eq_of_beq_eq_true h;subst this;cases e;exact .head _
    · exact .tail _ (ekOf_mem e)
noncomputable def extT (tab:List (Nat×EK)):ExtF:=λf l=>match ekOf tab f with
  |some k=>extK k l
  |none=>none
noncomputable def ExtFact (P:Program) (f:Nat) (e:Array Value->Sem Value):Prop:=∃fn,P.funcs[f]? =some fn/\(fn.name== "runtime.NumGoroutine")=false/\fn.body.isNone=true/\Extern.findNext fn=none/\Extern.find fn=some e
theorem ofNat_beq(a b:Nat) (hb:b<256):(UInt8.ofNat a==UInt8.ofNat b)=Nat.beq (a % 256) b:=by
  rw[beq_eqN]
  by_cases h:a % 256=b
  · rw[decide_eq_true h,beq_iff_eq,ofNat_eq,Nat.mod_eq_of_lt hb];exact h
  · rw[decide_eq_false h,beq_eq_false_iff_ne]
    intro e;rw[ofNat_eq,Nat.mod_eq_of_lt hb]at e;exact h e
theorem idxOf_eq(b:Nat) (hb:b<256):∀(l:List Nat) (i:Nat),idxOf l b i=((List.range l.length).find? λj=>(l.map UInt8.ofNat)[j]! ==UInt8.ofNat b).map (i+ ·)
  | [],i=>rfl
  | a ::l,i=>by
    rw[List.length_cons,List.range_succ_eq_map,List.find?_cons,idxOf]
    have h0:((List.map UInt8.ofNat (a::l))[0]! ==UInt8.ofNat b)=Nat.beq (Nat.mod a 256) b:=by
      simp only[List.map_cons,List.getElem!_cons_zero];exact ofNat_beq a b hb
    rw[h0]
    cases Nat.beq (Nat.mod a 256) b with
    |true=>simp
    | false=>
      simp only
      rw[idxOf_eq b hb l (Nat.add i 1),List.find?_map]
      have:((λj=>(List.map UInt8.ofNat (a::l))[j]! ==UInt8.ofNat b)∘Nat.succ)=λj=>(List.map UInt8.ofNat l)[j]! ==UInt8.ofNat b:=by
        funext j;simp
      rw[this,Option.map_map]
      congr 1
      funext j;show i+1+j=i+(j+1);omega
theorem cntOf_eq(b:Nat) (hb:b<256):∀(l:List Nat) (n:Nat),cntOf l b n=n+(l.map UInt8.ofNat).count (UInt8.ofNat b)
  | [],n=>rfl
  | a ::l,n=>by
    rw[cntOf,List.map_cons,List.count_cons,ofNat_beq a b hb]
    cases h:Nat.beq (a % 256) b with
    | true=>
      have h':Nat.beq (Nat.mod a 256) b=true:=h
      simp only[h']
      rw[cntOf_eq b hb l (Nat.add n 1)]
      show n+1+_=_
      simp only[if_true];omega
    | false=>
      have h':Nat.beq (Nat.mod a 256) b=false:=h
      simp only[h']
      rw[cntOf_eq b hb l n]
      simp
theorem extT_ok{P:Program} {tab:List (Nat×EK)} (h:∀f k,(f,k)∈tab->ExtFact P f k.row):ExtOK P (extT tab):=by
  intro f l r e I vs hv
  unfold extT at e
  split at e
  · rename_i k hk
    obtain⟨fn,h1,h2,h3,h4,h5⟩:=h f k (ekOf_mem hk)
    have hrun:=λw=>run_callFunc_extern h1 h2 h3 h4 h5 ⟨vs⟩ w
    unfold extK at e
    split at e
    · cases e
      obtain⟨v,rfl,hvr⟩:=vrs1 hv
      exact⟨v,λw=>by rw[hrun w];rfl,hvr⟩
    · rename_i l b
      split at e
      · rename_i hb
        cases e
        obtain⟨v,u,rfl,hv1,hv2⟩:=vrs2 hv
        cases hv1;cases hv2
        have hf:firstIdx (mkS l) (Int.toNat (Int.ofNat b)).toUInt8=match idxOf l b 0 with|some i=>Int.ofNat i|none=> .negSucc 0:=by
          unfold firstIdx
          rw[idxOf_eq b hb l 0,mkS_size]
          have he:(λi:Nat=>(mkS l)[i]! ==(Int.toNat (Int.ofNat b)).toUInt8)=λj=>(l.map UInt8.ofNat)[j]! ==UInt8.ofNat b:=by
            funext j
            have h1:(mkS l)[j]! =(l.map UInt8.ofNat)[j]! :=by
              rw[getElem!_def,getElem!_def,mkS_get,List.getElem?_map]
            rw[h1];rfl
          rw[he]
          cases(List.range l.length).find? λj=>(l.map UInt8.ofNat)[j]! ==UInt8.ofNat b with
          |none=>rfl
          |some i=>simp
        refine⟨_,λw=>by rw[hrun w];exact congrArg (λr=>Result.andThen r λv w'=>Result.ok (Next.value v) w') (run_indexByte_string (P:=P) (mkS l) (Int.ofNat b) w),?_⟩
        rw[hf];exact .int _ _
      · cases e
    · rename_i l b
      split at e
      · rename_i hb
        cases e
        obtain⟨v,u,rfl,hv1,hv2⟩:=vrs2 hv
        cases hv1;cases hv2
        refine⟨_,λw=>by rw[hrun w];exact congrArg (λr=>Result.andThen r λv w'=>Result.ok (Next.value v) w') (Lib.run_countString (P:=P) (mkS l) (Int.ofNat b) w),?_⟩
        have hc:Lib.countByte (mkS l).data.toList (Int.toNat (Int.ofNat b)).toUInt8=cntOf l b 0:=by
          rw[cntOf_eq b hb l 0,Nat.zero_add]
          unfold Lib.countByte
          have:(mkS l).data.toList=l.map UInt8.ofNat:=by simp[mkS]
          rw[this];rfl
        rw[hc];exact .int _ _
      · cases e
    · cases e
  · cases e
end Go.Proofs.YtldhaghgonkknaaDoor.Old
