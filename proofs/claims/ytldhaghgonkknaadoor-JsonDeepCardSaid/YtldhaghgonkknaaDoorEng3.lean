/-
  The machine's operations that write memory: stores, tables, append.
-/
import Derived.Test.YtldhaghgonkknaaDoorEng2
import Derived.Laws.AppendOwn
import Derived.Lib.UnsafeStr
namespace Go.Proofs.YtldhaghgonkknaaDoor.Old
open Go.RowKit
set_option linter.unusedVariables false
set_option linter.unusedSimpArgs false
noncomputable def awrite (h:T AO) (id off:Nat) (x:List AV):Option (T AO):=
  match h.get id with
  |some (.cells e (some fz) g l)=>if fz<=off/\off+x.length<=l.length/\x.all atom=true then T.put 64 id (some (.cells e (some fz) g (spl l off x))) h else none
  |_=>none
theorem awrite_ok{P:Program} {F:Bool->Nat->Prop} {I:In} {h h':T AO} {w:World} (hs:Sim F I h w) {id off b s t:Nat} {x:List AV} {us:List Value} (e:awrite h id off x=some h') (hi:I id=some (b,s,t)) (hx:VRs I x us) (nx:Nat):
    ∃w',(storeCells ⟨b,s+off,none⟩ us).run P w= .ok () w'/\Grow F I nx w I nx h' w':=by
  unfold awrite at e
  split at e
  · rename_i el fz g l hg
    split at e
    · rename_i hc
      obtain⟨c1,c2,c3⟩:=hc
      obtain⟨ob,hb,ho⟩:=hs.obj _ _ _ _ hg hi
      cases ho with
      | @cells _ _ _ _ _ pre vs rest fr hv hg' hp ht hf hE=>
        rcases hE with hE|⟨hE,_⟩
        case inr=>cases hE
        have hE:=hE.symm
        subst hE
        have hxl:=hx.len
        have hvl:=hv.len
        simp only at hp ht hf
        have hlen:(vs++rest).length=t:=ht
        rw[List.length_append]at hlen
        obtain⟨w',h1,h2,h3,h4,h5⟩:=store_cells (P:=P) (o:=s+off) us 0 (pre++(vs++rest)) w hb (by simp only[List.length_append];omega) (λj a1 a2=>by
          have:=hf fz rfl (j- s) (by omega) (by omega)
          rw[show s+(j- s)=j by omega]at this;exact this) (atoms_one hx c3)
        refine⟨w',h1,hs.upd hg rfl hi e h2 ?_ h3 h4 h5 nx⟩
        rw[Nat.add_zero,←hp,spl_pre us pre (vs++rest) off,spl_append us vs rest off (by omega)]
        exact .cells (t:=(pre.length,t)) (spl_rel hx off hv) hg' rfl (by simp only[List.length_append,spl_len];omega) (by rw[hp];exact hf) (.inl rfl)
    · cases e
  · cases e
noncomputable def Steps1 (P:Program) (F:Bool->Nat->Prop) (I:In) (nx:Nat) (w:World) (s:Sem Next) (v:AV) (h':T AO) (nx':Nat):Prop:=
  ∃n z I' w',s.run P w= .ok n w'/\(n= .value z\/n= .skip/\z=undef)/\VR I' v z/\Grow F I nx w I' nx' h' w'
noncomputable def undefA:AV:= .tup []
theorem undef_rel(I:In):VR I undefA undef:= .tup .nil
noncomputable def astore (P:Program) (h:T AO) (t:TypeId) (id off:Nat) (a:AV):Option (T AO):=
  let x:=cellsAV a
  match P.info? t with
  |some i=>if x.length=i.size then awrite h id off x else none
  |none=>none
theorem astore_ok{P:Program} {F:Bool->Nat->Prop} {I:In} {h h':T AO} {w:World} (hs:Sim F I h w) {t:TypeId} {id off b s k:Nat} {a:AV} {v:Value} (e:astore P h t id off a=some h') (hi:I id=some (b,s,k)) (ha:VR I a v) (nx:Nat):
    ∃w',(storeVar t ⟨b,s+off,none⟩ v).run P w= .ok () w'/\Grow F I nx w I nx h' w':=by
  unfold astore at e
  simp only at e
  split at e
  · rename_i i hi'
    split at e
    · rename_i hl
      have hc:=cells_rel ha
      obtain⟨w',h1,h2⟩:=awrite_ok (P:=P) hs e hi hc nx
      have hsz:v.cells.size=i.size:=by rw[←Array.length_toList,←hc.len];exact hl
      exact⟨w',by simp[storeVar,run_sizeOf hi',hsz,h1,Result.andThen],h2⟩
    · cases e
  · cases e
noncomputable def aput (P:Program) (h:T AO) (t:TypeId) (id:Nat) (k:AV) (f:Option AV->AV):Option (T AO×Option (Nat×AV)×Nat):=none
noncomputable def setEnt (es:List AEnt) (i:Nat) (k:Value) (v:AV):List AEnt:=
  match es with
  | []=>[]
  | e::l=>match i with
    |0=>(k,v,e.2.2)::l
    |i+1=>e::setEnt l i k v
noncomputable def getEnt:List AEnt->Nat->Option AEnt
  | [],_=>none
  | e::l,i=>match i with
    |0=>some e
    |i+1=>getEnt l i
theorem getEnt_rel{I:In} {es ms} (h:MR I es ms):∀i e,getEnt es i=some e->∃v,ms[i]? =some (⟨e.1,v,e.2.2⟩:MapEntry)/\VR I e.2.1 v:=by
  induction h with
  |nil=>intro i e h;cases h
  | cons hv ht ih=>
    intro i e h
    cases i with
    |zero=>simp[getEnt]at h;subst h;exact⟨_,rfl,hv⟩
    |succ i=>exact ih i e h
theorem setEnt_rel{I:In} {es ms} (h:MR I es ms):∀i (k:Value) (v:AV) (u:Value),VR I v u->MR I (setEnt es i k v) (ms.modify i λe=>{e with key:=k,val:=u}):=by
  induction h with
  |nil=>intro i k v u hv;simp[setEnt];exact .nil
  | cons hv ht ih=>
    intro i k v u hvu
    cases i with
    |zero=>simp[setEnt];exact .cons hvu ht
    |succ i=>simp[setEnt];exact .cons hv (ih i k v u hvu)
theorem MR.snoc{I:In} {es ms} (h:MR I es ms) {k v n u} (hv:VR I v u):MR I (es++[(k,v,n)]) (ms++[⟨k,u,n⟩]):=by
  induction h with
  |nil=>exact .cons hv .nil
  |cons h t ih=>exact .cons h ih
noncomputable def amapPut (P:Program) (h:T AO) (t:TypeId) (id:Nat) (k v:AV):Option (T AO):=
  match P.underlying t,amap h id,concK k with
  | some (.map kt _),some (es,c),some kv=>
    match evalQ P (Instr.checkKey false 10000 kt kv),findI P kt kv es with
    | some (),some (some (i,_))=>match getEnt es i with
      |some e=>if Instr.sameBits 10000 e.1 kv then T.put 64 id (some (.map (setEnt es i kv v) c)) h else none
      |none=>none
    |some (),some none=>T.put 64 id (some (.map (es++[(kv,v,c)]) (c+1))) h
    |_,_=>none
  |_,_,_=>none
theorem setObj_run{P:Program} {w:World} {b:Nat} {o:Obj} {ms:Array MapEntry} {c:Nat} (h:w.heap[b]? =some (.map ms c)):(setObj b o).run P w= .ok () (withBlock w b o):=by
  simp[setObj,Sem.run,h,withBlock]
theorem amapPut_ok{P:Program} {F:Bool->Nat->Prop} {I:In} {h h':T AO} {w:World} (hs:Sim F I h w) {t:TypeId} {id b:Nat} {n:Nat×Nat} {k v:AV} {u z:Value} (e:amapPut P h t id k v=some h') (hi:I id=some (b,n)) (hk:VR I k u) (hv:VR I v z) (nx:Nat):
    ∃w',(Instr.mapUpdate t (.map (some b)) u z).run P w= .ok () w'/\Grow F I nx w I nx h' w':=by
  unfold amapPut at e
  split at e
  · rename_i kt et es c kv ht hm hkv
    have:=concK_rel hkv hk
    subst this
    obtain⟨ms,h1,h2,h3,h4⟩:=amap_ok (P:=P) hs hm hi
    have upd:∀(es':List AEnt) (ms':List MapEntry) (c':Nat),MR I es' ms'->T.put 64 id (some (.map es' c')) h=some h'->Grow F I nx w I nx h' (withBlock w b (.map ⟨ms'⟩ c')):=λes' ms' c' hm' hp=>
      hs.upd h4 rfl hi hp (withBlock_at h2) (.map hm') (λc hc=>withBlock_other hc) withBlock_size withBlock_same nx
    split at e
    · rename_i i q hck hf
      split at e
      · rename_i en hen
        split at e
        · rename_i hsb
          obtain⟨r',g1,g2⟩:=find_rel h1 hf
          cases g2 with
          | some hva=>
            obtain⟨ev,g3,g4⟩:=getEnt_rel h1 _ _ hen
            refine⟨_,?_,upd _ _ _ (setEnt_rel h1 i u v z hv) e⟩
            have g3':(⟨ms⟩:Array MapEntry)[i]? =some ⟨en.1,ev,en.2.2⟩:=by simpa using g3
            simp[Instr.mapUpdate,run_underlying ht,Result.andThen,h3,evalQ_run P _ _ hck w,g1 w,Instr.keyThatStays,g3,hsb,setObj_run h2]
        · cases e
      · cases e
    · rename_i hck hf
      obtain⟨r',g1,g2⟩:=find_rel h1 hf
      cases g2
      refine⟨_,?_,upd _ _ _ (h1.snoc hv) e⟩
      simp[Instr.mapUpdate,run_underlying ht,Result.andThen,h3,evalQ_run P _ _ hck w,g1 w,setObj_run h2]
    · cases e
  · cases e
theorem spl_eq{α:Type}:∀(xs l:List α) (k:Nat),k+xs.length<=l.length->spl l k xs=l.take k++xs++l.drop (k+xs.length)
  | [],l,k,h=>by simp[spl]
  | x::xs,l,k,h=>by
    simp only[List.length_cons]at h
    rw[spl,spl_eq xs (l.set k x) (k+1) (by rw[List.length_set];omega)]
    have hk:k<l.length:=by omega
    rw[List.take_succ_eq_append_getElem (by rw[List.length_set];exact hk),List.getElem_set_self,List.take_set_of_le (Nat.le_refl _),List.drop_set_of_lt (by omega)]
    simp only[List.length_cons,List.append_assoc,List.cons_append,List.nil_append]
    congr 4
    omega
theorem arow_heap{P:Program} {F:Bool->Nat->Prop} {I:In} {h:T AO} {w:World} (hs:Sim F I h w) {id off n b s t o:Nat} {l:List AV} (e:arow h id off n=some l) (hi:I id=some (b,s,t)) (ho:o=s+off\/n=0):
    ∃ys:List Value,VRs I l ys/\ys.length=n/\∀w':World,w'.heap=w.heap->(loadCells ⟨b,o,none⟩ n).run P w'= .ok ⟨ys⟩ w':=by
  obtain⟨ys,g1,g2,g3,c,el,fr,hb,g4⟩:=arow_ok hs e hi
  refine⟨ys,g1,g2,λw' hw=> ?_⟩
  have:=load_cells (P:=P) (w:=w') (b:=b) (o:=o) (c:=c) (e:=el) (fr:=fr) (by rw[hw];exact hb) ys (λj v hj=>by
    rcases ho with ho|ho
    · subst ho;exact g4 j v hj
    · have:=(List.getElem?_eq_some_iff.1 hj).1;omega)
  rw[g2]at this
  exact this
noncomputable def asrc (h:T AO) (esz:Nat) (x:AV):Option (Nat×List AV):=
  match x with
  | .nsl=>some (0,[])
  | .sl id off n _| .gsl id off n _=>match arow h id off (n*esz)with
    |some l=>some (n,l)
    |none=>none
  | .str l=>if esz=1 then some (l.length,l.map λb=> .int .u8 (.ofNat (b % 256)))else none
  |_=>none
theorem asrc_ok{P:Program} {F:Bool->Nat->Prop} {I:In} {h:T AO} {w:World} (hs:Sim F I h w) {esz n:Nat} {x:AV} {l:List AV} {v:Value} (e:asrc h esz x=some (n,l)) (hx:VR I x v):
    ∃us,(∀w':World,w'.heap=w.heap->(Builtin.lenOf v).run P w'= .ok n w'/\(Builtin.firstCells esz n v).run P w'= .ok ⟨us⟩ w')/\VRs I l us/\us.length=n*esz:=by
  have key:∀{id off n b s t c o:Nat} {l:List AV},arow h id off (n*esz)=some l->I id=some (b,s,t)->(o=s+off\/n=0)->∃us,(∀w':World,w'.heap=w.heap->(Builtin.lenOf (.slice (some ⟨b,o,none⟩) n c)).run P w'= .ok n w'/\(Builtin.firstCells esz n (.slice (some ⟨b,o,none⟩) n c)).run P w'= .ok ⟨us⟩ w')/\VRs I l us/\us.length=n*esz:=by
    intro id off n b s t c o l h1 hi ho
    obtain⟨ys,g1,g2,g3⟩:=arow_heap (P:=P) hs h1 hi (ho.imp (λh=>h) λh=>by rw[h,Nat.zero_mul])
    exact⟨ys,λw' hw=>⟨rfl,g3 w' hw⟩,g1,g2⟩
  unfold asrc at e
  split at e
  · cases e;cases hx
    exact⟨[],λw' _=>⟨rfl,rfl⟩, .nil,by simp⟩
  · split at e
    · rename_i hl;cases e;cases hx with|sl hI=>exact key hl hI (.inl rfl)
    · cases e
  · split at e
    · rename_i hl;cases e;cases hx with|gsl hI g1 g2 g3=>exact key hl hI (g3.imp (λh=>h) λh=>by omega)
    · cases e
  · split at e
    · rename_i l0 h1
      cases e;subst h1;cases hx
      refine⟨_,λw' _=>⟨by simp[Builtin.lenOf,mkS_size],?_⟩,bytes_rel I l0,by simp⟩
      simp only[Builtin.firstCells,mkS_extract,Sem.run_pure]
      congr 1
      apply Array.toList_inj.1
      simp[mkS]
    · cases e
  · cases e
noncomputable def noZeros (P:Program):List TypeId->Bool
  | _::t::_=>match P.underlying t with
    |some (.slice _)|some .string=>true
    |_=>false
  |_=>false
theorem noZeros_spec{P:Program} {t0 t1:TypeId} (h:noZeros P [t0,t1]=true):(∃e,P.underlying t1=some (.slice e))\/P.underlying t1=some .string:=by
  simp only[noZeros]at h
  split at h
  · rename_i e h1;exact .inl ⟨e,h1⟩
  · rename_i h1;exact .inr h1
  · cases h
theorem append_room{P:Program} {w:World} {t0 t1 ty e:TypeId} {i:TypeInfo} {base:Option Addr} {sLen sCap n:Nat} {v:Value} {us:List Value} (h0:P.underlying t0=some (.slice e)) (hz:noZeros P [t0,t1]=true) (hi:P.info? e=some i)
    (hl:(Builtin.lenOf v).run P w= .ok n w) (hf:(Builtin.firstCells i.size n v).run P w= .ok ⟨us⟩ w) (hr:sLen+n<=sCap):
    (Builtin.append_ ⟨[t0,t1]⟩ ty ⟨[.slice base sLen sCap,v]⟩).run P w=(match base with|some a=>(storeCells (a.add (sLen*i.size)) us).run P w|none=> .ok () w).andThen (λ_ w=> .ok (.slice base (sLen+n) sCap) w):=by
  simp only[Builtin.append_,List.getElem?_toArray,List.getElem?_cons_zero,List.getElem?_cons_succ,Sem.run_bind,run_underlying h0,Result.andThen,run_sizeOf hi]
  rcases noZeros_spec hz with⟨e',hu⟩|hu
  · simp[run_underlying hu,Result.andThen,hl,hr,hf]
    cases base<;>simp[Result.andThen]
  · simp[run_underlying hu,Result.andThen,hl,hr,hf]
    cases base<;>simp[Result.andThen]
theorem append_grow{P:Program} {w:World} {t0 t1 ty e:TypeId} {i:TypeInfo} {z:Value} {base:Option Addr} {sLen sCap n:Nat} {v:Value} {us os:List Value} (h0:P.underlying t0=some (.slice e)) (hz:noZeros P [t0,t1]=true) (hi:P.info? e=some i) (hzv:i.zero=some z)
    (hl:(Builtin.lenOf v).run P w= .ok n w) (hf:∀w':World,w'.heap=w.heap->(Builtin.firstCells i.size n v).run P w'= .ok ⟨us⟩ w') (ho:∀w':World,w'.heap=w.heap->(Builtin.firstCells i.size sLen (.slice base sLen sCap)).run P w'= .ok ⟨os⟩ w') (hr:¬sLen+n<=sCap) (hb:0<i.bytes) (hbig:(sLen+n)*i.bytes<=140737488355328):
    (Builtin.append_ ⟨[t0,t1]⟩ ty ⟨[.slice base sLen sCap,v]⟩).run P w= .ok (.slice (some ⟨w.heap.size,0,none⟩) (sLen+n) (grownCap w (sLen+n) sCap e)) (w.drew.alloc (.cells (⟨os⟩++(⟨us⟩++Builtin.zeroCells z.cells (grownCap w (sLen+n) sCap e- (sLen+n)))) e)):=by
  have hne:¬i.bytes=0:=by omega
  have hfit:=growslice_fits (bytes:=i.bytes) (Nat.lt_of_not_le hr) hbig
  have hti:(typeInfo e).run P w= .ok i w:=by simp[typeInfo,program,Sem.run,hi,bind,Sem.bind,pure]
  have hti':(typeInfo e).run P w.drew= .ok i w.drew:=by simp[typeInfo,program,Sem.run,hi,bind,Sem.bind,pure]
  have hzr:(zeroValue e).run P w.drew= .ok z w.drew:=by simp[zeroValue,typeInfo,program,Sem.run,hi,bind,Sem.bind,pure,hzv]
  have hnb:¬Builtin.nextslicecap (sLen+n) sCap*i.bytes>2 ^ 48:=by omega
  have hroomrun:∀k,(askRoom k).run P w.drew= .ok () w.drew:=λk=>by unfold askRoom;split<;>rfl
  have ho':=ho w.drew rfl
  have hf':=hf w.drew rfl
  simp only[Builtin.append_,List.getElem?_toArray,List.getElem?_cons_zero,List.getElem?_cons_succ,Sem.run_bind,run_underlying h0,Result.andThen,run_sizeOf hi]
  rcases noZeros_spec hz with⟨e',hu⟩|hu
  · simp[run_underlying hu,Result.andThen,hl,hr,hti,hti',hne,hnb,Question.forced,hroomrun,ho',hf',hzr,newRow,newObj,Sem.run,grownCap]
    rfl
  · simp[run_underlying hu,Result.andThen,hl,hr,hti,hti',hne,hnb,Question.forced,hroomrun,ho',hf',hzr,newRow,newObj,Sem.run,grownCap]
    rfl
noncomputable def aappend (P:Program) (h:T AO) (nx:Nat) (ts:List TypeId) (d x:AV):Option (AV×T AO×Nat):=
  match ts with
  | [t0,t1]=>
    match P.underlying t0,noZeros P [t0,t1]with
    | some (.slice e),true=>match P.info? e with
      | some i => match asrc h i.size x,zeroAV P e with
        | some (n,l),some z=>if z.length=i.size/\0<i.size/\0<i.bytes then
          match d with
          | .nsl=>if n=0 then some (.nsl,h,nx)else if n*i.bytes<=140737488355328 then
              (match T.put 64 nx (some (.cells e (some 0) true l)) h with|some h'=>some (.gsl nx 0 n i.size,h',nx+1)|none=>none)else none
          | .sl id off len cap=>
            if len+n<=cap then(match awrite h id (off+len*i.size) l with|some h'=>some (.sl id off (len+n) cap,h',nx)|none=>none)
            else if(len+n)*i.bytes<=140737488355328 then
              (match arow h id off (len*i.size)with
              |some o=>match T.put 64 nx (some (.cells e (some 0) true (o++l))) h with|some h'=>some (.gsl nx 0 (len+n) i.size,h',nx+1)|none=>none
              |none=>none)else none
          | .gsl id off len esz=>if esz=i.size then
              (if n=0 then some (.gsl id off len esz,h,nx)else if(len+n)*i.bytes<=140737488355328 then
              (match h.get id,arow h id off (len*i.size)with
              | some (.cells e' (some fz) true l0),some o=>if e'=e/\fz<=off+len*i.size/\l.all atom=true/\off<=l0.length then
                  match T.put 64 id none h with
                  |some h1=>match T.put 64 nx (some (.cells e (some (fz- off)) true (o++l))) h1 with|some h'=>some (.gsl nx 0 (len+n) i.size,h',nx+1)|none=>none
                  |none=>none
                else none
              |_,_=>none)else none)else none
          |_=>none
          else none
        |_,_=>none
      |none=>none
    |_,_=>none
  |_=>none
theorem Sim.push'{F I h w} (s:Sim F I h w) {nx t o h'} (hi:I nx=none) (hF:∀b,F true b->b<w.heap.size) (hp:T.put 64 nx (some o) h=some h') {ob:Obj} (ho:OR (ext I nx (w.heap.size,t)) t o ob):
    Grow F I nx w (ext I nx (w.heap.size,t)) (nx+1) h' (w.drew.alloc ob):=s.push hi hF hp rfl ho ⟨rfl,rfl,rfl⟩
theorem Sim.drop{F I h w} (s:Sim F I h w) {id h1} (hp:T.put 64 id none h=some h1):Sim F I h1 w:=by
  have hg:=T.get_put _ _ _ _ _ hp
  have sub:∀k o,h1.get k=some o->h.get k=some o:=λk o hk=>by
    rw[hg]at hk;split at hk
    · cases hk
    · exact hk
  exact⟨λk o b t a c=>s.obj k o b t (sub _ _ a) c,λk k' o o' b t t' a c=>s.inj k k' o o' b t t' (sub _ _ a) (sub _ _ c),λk o b t a c=>s.fr k o b t (sub _ _ a) c⟩
theorem Grow.of_drop{F I nx w I' nx' h' w'} (g:Grow F I nx w I' nx' h' w'):Grow F I nx w I' nx' h' w':=g
theorem zero_size{P:Program} {e:TypeId} {i:TypeInfo} {z:List AV} (hi:P.info? e=some i) (h:zeroAV P e=some z):∃zv,i.zero=some zv/\zv.cells.size=z.length:=by
  unfold zeroAV at h
  rw[hi]at h
  simp only at h
  split at h
  · rename_i zv hz
    exact⟨zv,hz,by rw[←Array.length_toList,←(ofVals_rel (λ_=>none) _ _ h).len]⟩
  · cases h
theorem aappend_ok {P : Program} {F : Bool → Nat → Prop} {I:In} {h h':T AO} {w:World} (hs:Sim F I h w) (hF:∀b,F true b->b<w.heap.size) {nx nx':Nat} {ts:List TypeId} {ty:TypeId} {d x r:AV} {u v:Value} (e:aappend P h nx ts d x=some (r,h',nx')) (hfr:∀i,nx<=i->i<nx'->I i=none) (hd:VR I d u) (hx:VR I x v):
    ∃z I' w',(Builtin.append_ ⟨ts⟩ ty ⟨[u,v]⟩).run P w= .ok z w'/\VR I' r z/\Grow F I nx w I' nx' h' w':=by
  unfold aappend at e
  split at e
  · rename_i t0 t1
    split at e
    · rename_i el h0 hz0
      split at e
      · rename_i i hi
        split at e
        · rename_i n l z hsrc hz
          split at e
          · rename_i hc
            obtain⟨c1,c2,c3⟩:=hc
            obtain⟨us,s1,s2,s3⟩:=asrc_ok (P:=P) hs hsrc hx
            obtain⟨zv,z1,z2⟩:=zero_size hi hz
            rw[c1]at z2
            have zc:∀k,(Builtin.zeroCells zv.cells k).size=k*i.size:=λk=>by rw[size_zeroCells,z2]
            have grow:∀(base:Option Addr) (sLen sCap:Nat) (o:List AV) (os:List Value) (h1:T AO) (fz:Nat),Sim F I h1 w->(∀w':World,w'.heap=w.heap->(Builtin.firstCells i.size sLen (.slice base sLen sCap)).run P w'= .ok ⟨os⟩ w')->VRs I o os->os.length=sLen*i.size->¬sLen+n<=sCap->(sLen+n)*i.bytes<=140737488355328->I nx=none->T.put 64 nx (some (.cells el (some fz) true (o++l))) h1=some h'->
                ∃z I' w',(Builtin.append_ ⟨[t0,t1]⟩ ty ⟨[.slice base sLen sCap,v]⟩).run P w= .ok z w'/\VR I' (.gsl nx 0 (sLen+n) i.size) z/\Grow F I nx w I' (nx+1) h' w':=by
              intro base sLen sCap o os h1 fz hs1 ho hor hol hr hbig hI hp
              have hrun:=append_grow (P:=P) (ty:=ty) h0 hz0 hi z1 (s1 w rfl).1 (λw' hw=>(s1 w' hw).2) ho hr c3 hbig
              have hle:=ext_le (w.heap.size,0,grownCap w (sLen+n) sCap el*i.size) hI
              have hcap:=grownCap_ge w (sLen+n) sCap el
              have hcells:(⟨os⟩++(⟨us⟩++Builtin.zeroCells zv.cells (grownCap w (sLen+n) sCap el- (sLen+n))):Array Value)=⟨(os++us)++(Builtin.zeroCells zv.cells (grownCap w (sLen+n) sCap el- (sLen+n))).toList⟩:=by
                apply Array.toList_inj.1;simp
              have hor2:OR (ext I nx (w.heap.size,0,grownCap w (sLen+n) sCap el*i.size)) (0,grownCap w (sLen+n) sCap el*i.size) (.cells el (some fz) true (o++l)) (.cells (⟨os⟩++(⟨us⟩++Builtin.zeroCells zv.cells (grownCap w (sLen+n) sCap el- (sLen+n)))) el):=by
                rw[hcells]
                refine .cells (pre:=[]) ((hor.append s2).mono hle) (λh=>by cases h) rfl ?_ (λ_ _ o _ _=>by simp) (.inl rfl)
                have hzl:(Builtin.zeroCells zv.cells (grownCap w (sLen+n) sCap el- (sLen+n))).toList.length=(grownCap w (sLen+n) sCap el- (sLen+n))*i.size:=by rw[Array.length_toList,zc]
                show(os++us++_).length=grownCap w (sLen+n) sCap el*i.size
                rw[List.length_append,List.length_append,hzl,hol,s3,←Nat.add_mul,←Nat.add_mul]
                congr 1;omega
              have hg:=hs1.push' hI hF hp hor2
              refine⟨_,_,_,hrun, .gsl (ext_at _ _ _) hcap (by omega) (.inl rfl),hg⟩
            split at e
            · cases hd
              split at e
              · rename_i hn
                cases e;subst hn
                refine⟨_,I,w,append_room (P:=P) h0 hz0 hi (s1 w rfl).1 (s1 w rfl).2 (Nat.le_refl _),?_,hs.grow nx⟩
                exact .nsl
              · rename_i hn
                split at e
                · rename_i hb
                  split at e
                  · rename_i h2 hp
                    cases e
                    have:=grow none 0 0 [] [] h 0 hs (λw' _=>rfl) .nil (by simp) (by omega) (by simpa using hb) (hfr nx (Nat.le_refl _) (Nat.lt_succ_self _)) hp
                    simpa using this
                  · cases e
                · cases e
            · rename_i id off len cap
              cases hd with
              | @sl _ _ _ _ b s t hI=>
                split at e
                · rename_i hroom
                  split at e
                  · rename_i h2 hw
                    cases e
                    obtain⟨w',g1,g2⟩:=awrite_ok (P:=P) hs hw hI s2 nx
                    refine⟨_,I,w',?_, .sl hI,g2⟩
                    rw[append_room (P:=P) h0 hz0 hi (s1 w rfl).1 (s1 w rfl).2 hroom]
                    simp only[add_none]
                    rw[show s+off+len*i.size=s+(off+len*i.size)by omega,g1]
                    rfl
                  · cases e
                · rename_i hroom
                  split at e
                  · rename_i hb
                    split at e
                    · rename_i o ho
                      split at e
                      · rename_i h2 hp
                        cases e
                        obtain⟨os,k1,k2,k3⟩:=arow_heap (P:=P) hs ho hI (.inl rfl)
                        exact grow _ len cap o os h 0 hs k3 k1 k2 hroom hb (hfr nx (Nat.le_refl _) (Nat.lt_succ_self _)) hp
                      · cases e
                    · cases e
                  · cases e
            · rename_i id off len esz
              cases hd with
              | @gsl _ _ _ _ b s t c oo hI g1 g2 g3=>
                split at e
                · rename_i hesz
                  subst hesz
                  split at e
                  · rename_i hn
                    cases e;subst hn
                    have hus:us=[]:=by
                      have:us.length=0:=by rw[s3];simp
                      exact List.length_eq_zero_iff.1 this
                    subst hus
                    refine⟨_,I,w,?_, .gsl hI g1 g2 g3,hs.grow nx⟩
                    rw[append_room (P:=P) h0 hz0 hi (s1 w rfl).1 (s1 w rfl).2 (by omega)]
                    simp[storeCells,Result.andThen]
                  · rename_i hn
                    split at e
                    · rename_i hb
                      split at e
                      · rename_i el' fz l0 o hg ho
                        split at e
                        · rename_i hcc
                          obtain⟨rfl,hfz,hat,hol⟩:=hcc
                          split at e
                          · rename_i h1 hp1
                            split at e
                            · rename_i h2 hp
                              cases e
                              have hI0:=hfr nx (Nat.le_refl _) (Nat.lt_succ_self _)
                              by_cases hroom:len+n<=c
                              · -- where it lies
                                have hoo:oo=s+off:=g3.resolve_right (by omega)
                                subst hoo
                                obtain⟨ob,hb',hob⟩:=hs.obj _ _ _ _ hg hI
                                cases hob with
                                | @cells _ _ _ _ _ pre vs rest fr hv hg' hpl ht hf hE=>
                                  rcases hE with hE|⟨hE,_⟩
                                  case inr=>cases hE
                                  have hE:=hE.symm
                                  subst hE
                                  simp only at hpl ht hf
                                  have ho':takeN l0 off (len*i.size)=some o:=by
                                    unfold arow at ho;rw[hg]at ho;exact ho
                                  have hlo:((l0.drop off).take (len*i.size)).length=len*i.size/\o=(l0.drop off).take (len*i.size):=by
                                    unfold takeN at ho';simp only at ho'
                                    split at ho'
                                    · rename_i h3;cases ho';exact⟨h3,rfl⟩
                                    · cases ho'
                                  have hl0:off+len*i.size<=l0.length:=by
                                    have:=hlo.1;rw[List.length_take,List.length_drop]at this;omega
                                  have hvl:=hv.len
                                  have htl:vs.length+rest.length=t:=by rw[←List.length_append];exact ht
                                  have hsp:(len+n)*i.size<=c*i.size:=Nat.mul_le_mul_right _ hroom
                                  rw[Nat.add_mul]at hsp
                                  obtain⟨w',q1,q2,q3,q4,q5⟩:=store_cells (P:=P) (o:=s+(off+len*i.size)) us 0 (pre++(vs++rest)) w hb' (by simp only[List.length_append];rw[s3];omega) (λj a1 a2=>by
                                    have:=hf fz rfl (j- s) (by omega) (by rw[s3]at a2;omega)
                                    rw[show s+(j- s)=j by omega]at this;exact this) (atoms_one s2 hat)
                                  rw[Nat.add_zero,←hpl,spl_pre us pre (vs++rest) (off+len*i.size),spl_eq us (vs++rest) (off+len*i.size) (by rw[List.length_append,s3];omega),List.take_append_of_le_length (by omega)]at q2
                                  have hsplit:vs.take (off+len*i.size)=vs.take off++(vs.drop off).take (len*i.size):=List.take_add
                                  rw[hsplit]at q2
                                  have hor:OR (ext I nx (b,s+off,t- off)) (s+off,t- off) (.cells el' (some (fz- off)) true (o++l)) (.cells ⟨pre++(vs.take off++(vs.drop off).take (len*i.size)++us++(vs++rest).drop (off+len*i.size+us.length))⟩ el' fr):=by
                                    have he:(⟨pre++(vs.take off++(vs.drop off).take (len*i.size)++us++(vs++rest).drop (off+len*i.size+us.length))⟩:Array Value)=⟨(pre++vs.take off)++(((vs.drop off).take (len*i.size)++us)++(vs++rest).drop (off+len*i.size+us.length))⟩:=by
                                      simp only[List.append_assoc]
                                    rw[he]
                                    refine .cells ?_ (λh=>by cases h) ?_ ?_ ?_ (.inl rfl)
                                    · rw[hlo.2]
                                      exact(((hv.drop _).take _).append s2).mono (ext_le _ hI0)
                                    · simp only[List.length_append,List.length_take];omega
                                    · simp only[List.length_append,List.length_take,List.length_drop]
                                      rw[s3]
                                      omega
                                    · intro f hf' o' h1' h2'
                                      cases hf'
                                      simp only at h2'⊢
                                      have:=hf fz rfl (off+o') (by omega) (by omega)
                                      rw[show s+off+o'=s+(off+o')by omega];exact this
                                  refine⟨_,_,w',?_, .gsl (ext_at I nx (b,s+off,t- off)) hroom (by omega) (.inl rfl),hs.over hg rfl hI hI0 hp1 hp q2 hor q3 q4 q5⟩
                                  rw[append_room (P:=P) h0 hz0 hi (s1 w rfl).1 (s1 w rfl).2 hroom]
                                  simp only[add_none]
                                  rw[show s+off+len*i.size=s+(off+len*i.size)by omega,q1]
                                  rfl
                              · obtain⟨os,k1,k2,k3⟩:=arow_heap (P:=P) (o:=oo) hs ho hI (by
                                  rcases g3 with g3|g3
                                  · exact .inl g3
                                  · exact .inr (by have:len=0:=by omega
                                                   rw[this,Nat.zero_mul]))
                                exact grow _ len c o os h1 (fz- off) (hs.drop hp1) k3 k1 k2 hroom hb hI0 hp
                            · cases e
                          · cases e
                        · cases e
                      · cases e
                    · cases e
                · cases e
            · cases e
          · cases e
        · cases e
      · cases e
    · cases e
  · cases e
noncomputable def amapEntry (P:Program) (h:T AO) (t:TypeId) (id:Nat) (k:AV):Option (AV×T AO):=
  match P.underlying t,amap h id,concK k with
  | some (.map kt et),some (es,c),some kv=>
    match evalQ P (Instr.checkKey false 10000 kt kv),findI P kt kv es with
    | some (),some (some (i,v))=>match getEnt es i with
      |some e=>if Instr.sameBits 10000 e.1 kv then(match T.put 64 id (some (.map (setEnt es i kv e.2.1) c)) h with|some h'=>some (.tup [v, .int .i64 (.ofNat e.2.2)],h')|none=>none)else none
      |none=>none
    | some (),some none=>match P.info? et with
      | some i=>match i.zero with
        | some z=>match ofVal z with
          |some a=>(match T.put 64 id (some (.map (es++[(kv,a,c)]) (c+1))) h with|some h'=>some (.tup [a, .int .i64 (.ofNat c)],h')|none=>none)
          |none=>none
        |none=>none
      |none=>none
    |_,_=>none
  |_,_,_=>none
theorem modify_key(ms:List MapEntry) (i:Nat) (k v:Value) (n:Nat) (h:ms[i]? =some ⟨k,v,n⟩) (k':Value):(ms.modify i λe=>{e with key:=k'})=ms.modify i λe=>{e with key:=k',val:=v}:=by
  induction ms generalizing i with
  |nil=>simp
  | cons m ms ih=>
    cases i with
    |zero=>simp at h;subst h;simp
    |succ i=>simp at h;simp[ih i h]
theorem amapEntry_ok{P:Program} {F:Bool->Nat->Prop} {I:In} {h h':T AO} {w:World} (hs:Sim F I h w) {t:TypeId} {id b:Nat} {n:Nat×Nat} {k r:AV} {u:Value} (e:amapEntry P h t id k=some (r,h')) (hi:I id=some (b,n)) (hk:VR I k u) (nx:Nat):
    ∃z w',(Instr.mapEntry t (.map (some b)) u).run P w= .ok z w'/\VR I r z/\Grow F I nx w I nx h' w':=by
  unfold amapEntry at e
  split at e
  · rename_i kt et es c kv ht hm hkv
    have:=concK_rel hkv hk
    subst this
    obtain⟨ms,h1,h2,h3,h4⟩:=amap_ok (P:=P) hs hm hi
    have upd:∀(es':List AEnt) (ms':List MapEntry) (c':Nat),MR I es' ms'->T.put 64 id (some (.map es' c')) h=some h'->Grow F I nx w I nx h' (withBlock w b (.map ⟨ms'⟩ c')):=λes' ms' c' hm' hp=>
      hs.upd h4 rfl hi hp (withBlock_at h2) (.map hm') (λc hc=>withBlock_other hc) withBlock_size withBlock_same nx
    split at e
    · rename_i i q hck hf
      split at e
      · rename_i en hen
        split at e
        · rename_i hsb
          split at e
          · rename_i h'' hp
            cases e
            obtain⟨r',g1,g2⟩:=find_rel h1 hf
            cases g2 with
            | some hva=>
              obtain⟨ev,g3,g4⟩:=getEnt_rel h1 _ _ hen
              refine⟨_,_,?_, .tup (.cons hva (.cons (.int _ _) .nil)),upd _ _ _ (setEnt_rel h1 i u en.2.1 ev g4) hp⟩
              rw[←modify_key ms i _ _ _ g3 u]
              simp[Instr.mapEntry,run_underlying ht,Result.andThen,h3,evalQ_run P _ _ hck w,g1 w,Instr.keyThatStays,g3,hsb,setObj_run h2,goInt]
          · cases e
        · cases e
      · cases e
    · rename_i hck hf
      split at e
      · rename_i ti hti
        split at e
        · rename_i z hz
          split at e
          · rename_i a ha
            split at e
            · rename_i h'' hp
              cases e
              obtain⟨r',g1,g2⟩:=find_rel h1 hf
              cases g2
              have hzr:(zeroValue et).run P w= .ok z w:=by simp[zeroValue,typeInfo,program,Sem.run,hti,bind,Sem.bind,pure,hz]
              have hza:=ofVal_rel I _ _ ha
              refine⟨_,_,?_, .tup (.cons hza (.cons (.int _ _) .nil)),upd _ _ _ (h1.snoc hza) hp⟩
              simp[Instr.mapEntry,run_underlying ht,Result.andThen,h3,evalQ_run P _ _ hck w,g1 w,setObj_run h2,hzr,goInt]
            · cases e
          · cases e
        · cases e
      · cases e
    · cases e
  · cases e
noncomputable def findBorn:List AEnt->Nat->Nat->Option Nat
  | [],_,_=>none
  |e::l,n,i=>if e.2.2=n then some i else findBorn l n (i+1)
noncomputable def setVal (es:List AEnt) (i:Nat) (v:AV):List AEnt:=
  match es with
  | []=>[]
  | e::l=>match i with
    |0=>(e.1,v,e.2.2)::l
    |i+1=>e::setVal l i v
theorem setVal_rel{I:In} {es ms} (h:MR I es ms):∀i (v:AV) (u:Value),VR I v u->MR I (setVal es i v) (ms.modify i λe=>{e with val:=u}):=by
  induction h with
  |nil=>intro i v u hv;simp[setVal];exact .nil
  | cons hv ht ih=>
    intro i v u hvu
    cases i with
    |zero=>simp[setVal];exact .cons hvu ht
    |succ i=>simp[setVal];exact .cons hv (ih i v u hvu)
theorem findBorn_rel{I:In} {es ms} (h:MR I es ms) (n:Nat):∀k i,findBorn es n k=some i->∃j,i=k+j/\ms.findIdx? (λe=>(e.born:Int)==(n:Int))=some j:=by
  induction h with
  |nil=>intro k i h;cases h
  | @cons ke a m l v ms hv ht ih=>
    intro k i h
    simp only[findBorn]at h
    split at h
    · rename_i hm
      cases h
      refine⟨0,rfl,?_⟩
      simp[List.findIdx?_cons,hm]
    · rename_i hm
      obtain⟨j,h1,h2⟩:=ih (k+1) i h
      refine⟨j+1,by omega,?_⟩
      have:((m:Int)==(n:Int))=false:=by simp;omega
      simp[List.findIdx?_cons,this,h2]
noncomputable def aentryStore (h:T AO) (id:Nat) (s v:AV):Option (T AO):=
  match amap h id,s with
  | some (es,c), .int _ (.ofNat n)=>match findBorn es n 0 with
    |some i=>T.put 64 id (some (.map (setVal es i v) c)) h
    |none=>none
  |_,_=>none
theorem aentryStore_ok{P:Program} {F:Bool->Nat->Prop} {I:In} {h h':T AO} {w:World} (hs:Sim F I h w) {t:TypeId} {id b:Nat} {n:Nat×Nat} {s v:AV} {u z:Value} (e:aentryStore h id s v=some h') (hi:I id=some (b,n)) (hk:VR I s u) (hv:VR I v z) (nx:Nat):
    ∃w',(Instr.entryStore t (.map (some b)) u z).run P w= .ok () w'/\Grow F I nx w I nx h' w':=by
  unfold aentryStore at e
  split at e
  · rename_i es c k m hm
    split at e
    · rename_i i hf
      obtain⟨ms,h1,h2,h3,h4⟩:=amap_ok (P:=P) hs hm hi
      obtain⟨j,g1,g2⟩:=findBorn_rel h1 m 0 i hf
      rw[Nat.zero_add]at g1;subst g1
      cases hk
      refine⟨_,?_,hs.upd h4 rfl hi e (withBlock_at h2) (.map (setVal_rel h1 i v z hv)) (λc hc=>withBlock_other hc) withBlock_size withBlock_same nx⟩
      simp[Instr.entryStore,Result.andThen,h3,asInt,asIntOf,g2,setObj_run h2]
    · cases e
  · cases e
theorem lies_bytes{P:Program} {e:TypeId} (hc:P.cellsOf e=1) (count off n:Nat) (hn:off+n<=count):liesAt P P.depth e count off e n=true:=by
  have hd:P.depth=(2*(P.types.size+Made.depth)+1)+1:=rfl
  rw[hd]
  simp only[liesAt,Bool.or_eq_true]
  left
  rw[hd]
  simp[rowAt,hc,hn,sameLayout,Nat.mod_one]
theorem run_ustr{P:Program} (w:World) (pt it ty e:TypeId) (hp:P.underlying pt=some (.pointer e)) (hc:P.cellsOf e=1) (b o cells:Nat) (hsh:w.shape? b=some (e,cells)) (r:List Nat) (h0:r≠[]) (hn:o+r.length<=cells) (h63:r.length<=9223372036854775807)
    (hcell:∀j x,r[j]? =some x->x<256/\w.cell? ⟨b,o+j,none⟩=some (.int .u8 (.ofNat x))):
    (Builtin.unsafeString_ #[pt,it] ty #[.pointer (some ⟨b,o,none⟩), .int .i64 (.ofNat r.length)]).run P w= .ok (.string (mkS r)) (w.freeze ⟨b,o,none⟩ r.length):=by
  have hl:r.length≠0:=by simpa using h0
  have hlen:(r.map UInt8.ofNat).length=r.length:=by simp
  have hlb:=Lib.run_loadBytes (P:=P) w (r.map UInt8.ofNat) ⟨b,o,none⟩ .empty (λj x hj=>by
    rw[List.getElem?_map]at hj
    cases hr:r[j]? with
    |none=>rw[hr]at hj;cases hj
    | some y=>
      rw[hr]at hj;cases hj
      obtain⟨h1,h2⟩:=hcell j y hr
      rw[add_none,h2,UInt8.toNat_ofNat',Nat.mod_eq_of_lt h1];rfl)
  rw[hlen]at hlb
  have hlies:=lies_bytes (P:=P) hc (cells / P.cellsOf e) o r.length (by rw[hc];simpa using hn)
  have h63':¬(9223372036854775807:Int)<(r.length:Int):=by omega
  have hdef:Builtin.unsafeString_ #[pt,it] ty #[.pointer (some ⟨b,o,none⟩), .int .i64 (.ofNat r.length)]=
      (do
        let n ←asInt (.int .i64 (.ofNat r.length))
        if n<0 then runtimePanic (.error "unsafe.String: len out of range")
        if n>IntKind.i64.max then unsupported (.unsafePointer "String: a length above the largest int")
        if n=0 then pure (.string .empty)
        else if ←variablesAt ⟨b,o,none⟩ (←elemOf pt) n.toNat then do
          let s ←loadBytes ⟨b,o,none⟩ .empty n.toNat
          freeze ⟨b,o,none⟩ n.toNat
          pure (.string s)
        else unsupported (.unsafePointer "String: not so many bytes at ptr")):=rfl
  rw[hdef]
  have hmax:IntKind.i64.max=9223372036854775807:=rfl
  have hneg:¬(r.length:Int)<0:=by omega
  have hmk:(⟨#[]++(List.map UInt8.ofNat r).toArray⟩:ByteArray)=mkS r:=by
    apply ByteArray.ext;simp[mkS]
  simp[asInt,asIntOf,hmax,h63',hneg,hl,variablesAt,hsh,elemOf,run_underlying hp,hlies,hlb]
  simp[mkS]
noncomputable def austr (P:Program) (h:T AO) (ts:List TypeId) (l:List AV):Option (AV×T AO):=
  match ts with
  | [pt, _] =>match l with
    | [.nilp, .int .i64 (.ofNat 0)]=>some (.str [],h)
    | [.ptr id off, .int .i64 (.ofNat n)]=>match h.get id with
      | some (.cells e (some _) g l0)=>match P.underlying pt with
        | some (.pointer u)=>if u=e/\P.cellsOf e=1/\0<n/\n<=9223372036854775807 then
            (match takeN l0 off n with
            | some x=>match bytesOf x with
              | some r=>match T.put 64 id (some (.cells e none g l0)) h with
                |some h'=>some (.str r,h')
                |none=>none
              |none=>none
            |none=>none)else none
        |_=>none
      |_=>none
    |_=>none
  |_=>none
theorem austr_ok {P : Program} {F:Bool->Nat->Prop} {I:In} {h h':T AO} {w:World} (hs:Sim F I h w) {ts:List TypeId} {ty:TypeId} {l:List AV} {vs:List Value} {r:AV} (e:austr P h ts l=some (r,h')) (hl:VRs I l vs) (nx:Nat):
    ∃z w',(Builtin.unsafeString_ ⟨ts⟩ ty ⟨vs⟩).run P w= .ok z w'/\VR I r z/\Grow F I nx w I nx h' w':=by
  unfold austr at e
  split at e
  · rename_i pt it
    split at e
    · cases e
      cases hl with|cons h1 h2=>cases h2 with|cons h2 h3=>
      cases h3;cases h1;cases h2
      refine⟨_,w,Lib.run_unsafeString_none w pt it ty none,?_,hs.grow nx⟩
      exact .str []
    · rename_i id off n
      split at e
      · rename_i el fz g l0 hg
        split at e
        · rename_i u hp
          split at e
          · rename_i hc
            obtain⟨rfl,c2,c3,c4⟩:=hc
            split at e
            · rename_i x hx
              split at e
              · rename_i rr hr
                split at e
                · rename_i h2 hput
                  cases e
                  cases hl with|cons h1 h2=>cases h2 with|cons h2 h3=>
                  cases h3;cases h2
                  cases h1 with
                  | @ptr _ _ b s t hI=>
                    obtain⟨ob,hb,ho⟩:=hs.obj _ _ _ _ hg hI
                    cases ho with
                    | @cells _ _ _ _ _ pre vs rest fr hv hg' hpl ht hf hE=>
                      rcases hE with hE|⟨hE,_⟩
                      case inr=>cases hE
                      have hE:=hE.symm
                      subst hE
                      simp only at hpl ht hf
                      obtain⟨ys,y1,y2,y3⟩:=takeN_ok (rest:=rest) hv hpl hx
                      have hrl:rr.length=n:=by rw[bytesOf_len hr,y1.len,y2]
                      have hsh:w.shape? b=some (u,(pre++(vs++rest)).length):=by
                        simp[World.shape?,hb]
                      have hsz:s+off+n<=(pre++(vs++rest)).length:=by
                        have hne:0<ys.length:=by omega
                        have:=y3 (ys.length- 1) ys[ys.length- 1] (List.getElem?_eq_getElem (by omega))
                        simp only[List.getElem?_toArray]at this
                        have:=(List.getElem?_eq_some_iff.1 this).1
                        omega
                      have hrun:=run_ustr (P:=P) w pt it ty u hp c2 b (s+off) _ hsh rr (λe0=>by rw[e0]at hrl;simp at hrl;omega) (by omega) (by omega) (λj x hj=>by
                        obtain⟨k1,k2⟩:=bytesOf_get hr y1 j x hj
                        exact⟨k1,by rw[cell_of hb];exact y3 j _ k2⟩)
                      rw[hrl]at hrun
                      refine⟨_,_,hrun, .str rr,?_⟩
                      have hn0:¬n=0:=by omega
                      have f1:∀c,c≠b->(w.freeze ⟨b,s+off,none⟩ n).heap[c]? =w.heap[c]? :=λc hc=>by
                        unfold World.freeze;rw[if_neg hn0];simp only[Array.getElem?_modify];rw[if_neg (λe=>hc e.symm)]
                      have f2:∃fr',(w.freeze ⟨b,s+off,none⟩ n).heap[b]? =some (.cells ⟨pre++(vs++rest)⟩ u fr'):=by
                        unfold World.freeze;rw[if_neg hn0];simp only[Array.getElem?_modify,if_true,hb,Option.map_some];exact⟨_,rfl⟩
                      have f3:(w.freeze ⟨b,s+off,none⟩ n).heap.size=w.heap.size:=by
                        unfold World.freeze;rw[if_neg hn0];simp
                      have f4:Same w (w.freeze ⟨b,s+off,none⟩ n):=by
                        unfold World.freeze;rw[if_neg hn0];exact⟨rfl,rfl,rfl⟩
                      obtain⟨fr',f2⟩:=f2
                      exact hs.upd hg rfl hI hput f2 (.cells hv hg' hpl ht (λf hf=>by cases hf) (.inl rfl)) f1 f3 f4 nx
                · cases e
              · cases e
            · cases e
          · cases e
        · cases e
      · cases e
    · cases e
  · cases e
noncomputable def aself (P:Program) (h:T AO) (s:TypeId) (a:AV):Option (AV×T AO):=
  match a with
  | .nsl=>none
  | .sl id _ _ _| .gsl id _ _ _=>match h.get id with
    | some (.cells e (some _) g l0)=>match P.underlying s with
      | some (.slice el)=>match P.underlying el with
        | some (.int .u8)=>match T.put 64 id (some (.cells e none g l0)) h with
          |some h'=>some (a,h')
          |none=>none
        |_=>none
      |_=>none
    |_=>none
  |_=>none
theorem mark_run{P:Program} {w:World} {b o:Nat} {cs:Array Value} {e:TypeId} {fr:Nat×Nat} (hb:w.heap[b]? =some (.cells cs e fr)):(markStringish ⟨b,o,none⟩).run P w= .ok () (w.freeze ⟨b,cs.size,none⟩ 1):=by
  have hsh:w.shape? b=some (e,cs.size):=by simp[World.shape?,hb]
  unfold markStringish
  simp[hsh,freeze,Sem.run,Result.andThen]
theorem aself_ok{P:Program} {F:Bool->Nat->Prop} {I:In} {h h':T AO} {w:World} (hs:Sim F I h w) {s:TypeId} {a r:AV} {u:Value} (e:aself P h s a=some (r,h')) (ha:VR I a u) (nx:Nat):
    ∃z w',(convert s s u).run P w= .ok z w'/\VR I r z/\Grow F I nx w I nx h' w':=by
  have key:∀(id b s0 t0 len c o:Nat) (el:TypeId) (e0:TypeId) (f0:Nat) (g:Bool) (l0:List AV),h.get id=some (.cells e0 (some f0) g l0)->P.underlying s=some (.slice el)->P.underlying el=some (.int .u8)->T.put 64 id (some (.cells e0 none g l0)) h=some h'->I id=some (b,s0,t0)->
      ∃w',(convert s s (.slice (some ⟨b,o,none⟩) len c)).run P w= .ok (.slice (some ⟨b,o,none⟩) len c) w'/\Grow F I nx w I nx h' w':=by
    intro id b s0 t0 len c o el e0 f0 g l0 hg hsu hel hput hI
    obtain⟨ob,hb,ho⟩:=hs.obj _ _ _ _ hg hI
    cases ho with
    | @cells _ _ _ _ _ pre vs rest fr hv hg' hpl ht hf hE=>
      rcases hE with hE|⟨hE,_⟩
      case inr=>cases hE
      have hE:=hE.symm
      subst hE
      simp only at hpl ht hf
      have hm:=mark_run (P:=P) (o:=o) hb
      refine⟨_,?_,hs.upd hg rfl hI hput (w':=w.freeze ⟨b,(⟨pre++(vs++rest)⟩:Array Value).size,none⟩ 1) (ob':= .cells ⟨pre++(vs++rest)⟩ e0 (if fr.1==fr.2 then((⟨pre++(vs++rest)⟩:Array Value).size,(⟨pre++(vs++rest)⟩:Array Value).size+1)else(min fr.1 (⟨pre++(vs++rest)⟩:Array Value).size,max fr.2 ((⟨pre++(vs++rest)⟩:Array Value).size+1)))) ?_ ?_ ?_ ?_ ?_ nx⟩
      · unfold convert
        simp only[Sem.run_bind,run_underlying hsu,Result.andThen]
        simp[run_underlying hel,hm,Result.andThen]
      · unfold World.freeze;rw[if_neg (by omega)];simp only[Array.getElem?_modify,if_true,hb,Option.map_some]
      · exact .cells hv hg' hpl ht (λf hf=>by cases hf) (.inl rfl)
      · intro k hk;unfold World.freeze;rw[if_neg (by omega)];simp only[Array.getElem?_modify];rw[if_neg (λe=>hk e.symm)]
      · unfold World.freeze;rw[if_neg (by omega)];simp
      · unfold World.freeze;rw[if_neg (by omega)];exact⟨rfl,rfl,rfl⟩
  unfold aself at e
  split at e
  · cases e
  · split at e
    · rename_i hg
      split at e
      · rename_i hsu
        split at e
        · rename_i hel
          split at e
          · rename_i hp
            cases e
            cases ha with
            | sl hI=>
              obtain⟨w',k1,k2⟩:=key _ _ _ _ _ _ _ _ _ _ _ _ hg hsu hel hp hI
              exact⟨_,w',k1, .sl hI,k2⟩
          · cases e
        · cases e
      · cases e
    · cases e
  · split at e
    · rename_i hg
      split at e
      · rename_i hsu
        split at e
        · rename_i hel
          split at e
          · rename_i hp
            cases e
            cases ha with
            | gsl hI g1 g2 g3=>
              obtain⟨w',k1,k2⟩:=key _ _ _ _ _ _ _ _ _ _ _ _ hg hsu hel hp hI
              exact⟨_,w',k1, .gsl hI g1 g2 g3,k2⟩
          · cases e
        · cases e
      · cases e
    · cases e
  · cases e
theorem append_noughts{P:Program} {w:World} {t0 t1 ty e:TypeId} {i:TypeInfo} {z:Value} {k:IntKind} {n:Nat} (h0:P.underlying t0=some (.slice e)) (h1:P.underlying t1=some (.int k)) (hi:P.info? e=some i) (hzv:i.zero=some z)
    (hn:0<n) (hs:0<i.size) (hb:0<i.bytes) (hbig:n*i.bytes<=140737488355328):
    (Builtin.append_ ⟨[t0,t1]⟩ ty ⟨[.slice none 0 0, .int .i64 (.ofNat n)]⟩).run P w= .ok (.slice (some ⟨w.heap.size,0,none⟩) n (grownCap w n 0 e)) (w.drew.alloc (.cells (Builtin.zeroCells z.cells n++Builtin.zeroCells z.cells (grownCap w n 0 e- n)) e)):=by
  have hne:¬i.bytes=0:=by omega
  have hti:(typeInfo e).run P w= .ok i w:=by simp[typeInfo,program,Sem.run,hi,bind,Sem.bind,pure]
  have hti':(typeInfo e).run P w.drew= .ok i w.drew:=by simp[typeInfo,program,Sem.run,hi,bind,Sem.bind,pure]
  have hzr:(zeroValue e).run P w.drew= .ok z w.drew:=by simp[zeroValue,typeInfo,program,Sem.run,hi,bind,Sem.bind,pure,hzv]
  have hn2:n<=140737488355328:=Nat.le_trans (Nat.le_mul_of_pos_right n hb) hbig
  have hw:IntKind.i64.wrap (n:Int)=(n:Int):=by
    unfold IntKind.wrap;simp[IntKind.bits,IntKind.signed];omega
  have hneg:¬(n:Int)<0:=by omega
  have hl:¬281474976710656<(n:Int)*(i.bytes:Int):=by
    have:(n:Int)*(i.bytes:Int)=((n*i.bytes:Nat):Int):=by simp
    rw[this];omega
  have hcap:Builtin.nextslicecap n 0=n:=by unfold Builtin.nextslicecap;rw[if_pos (by omega)]
  have hnb:¬Builtin.nextslicecap n 0*i.bytes>2 ^ 48:=by rw[hcap];omega
  have hroomrun:∀k,(askRoom k).run P w.drew= .ok () w.drew:=λk=>by unfold askRoom;split<;>rfl
  have hns:¬n*i.size=0:=by have:=Nat.mul_pos hn hs;omega
  have hle:¬n<=0:=by omega
  have hn0:¬n=0:=by omega
  have his:¬i.size=0:=by omega
  have hnb':¬281474976710656<n*i.bytes:=by omega
  have hmax:¬((9223372036854775807:Int)<(n:Int)):=by omega
  simp only[Builtin.append_,List.getElem?_toArray,List.getElem?_cons_zero,List.getElem?_cons_succ,Sem.run_bind,run_underlying h0,Result.andThen,run_sizeOf hi,run_underlying h1]
  simp[Result.andThen,asInt,asIntOf,hn0,his,hcap,hnb',hw,hneg,hl,hti,hti',hne,hnb,hns,hle,hmax,Question.forced,hroomrun,hzr,newRow,newObj,Sem.run,grownCap,Builtin.firstCells]
  rfl
noncomputable def aappendZ (P:Program) (h:T AO) (nx:Nat) (ts:List TypeId) (d x:AV):Option (AV×T AO×Nat):=
  match ts with
  | [t0,t1]=>match P.underlying t0,P.underlying t1 with
    | some (.slice e),some (.int _)=>match P.info? e with
      | some i=>match zeroAV P e,d,x with
        |some z, .nsl, .int .i64 (.ofNat n)=>if z.length=i.size/\0<i.size/\0<i.bytes/\0<n/\n*i.bytes<=140737488355328 then
            (match T.put 64 nx (some (.cells e (some 0) true (zrow z n))) h with|some h'=>some (.gsl nx 0 n i.size,h',nx+1)|none=>none)else none
        |_,_,_=>none
      |none=>none
    |_,_=>none
  |_=>none
theorem aappendZ_nx{P:Program} {h h':T AO} {nx nx':Nat} {ts:List TypeId} {d x r:AV} (e:aappendZ P h nx ts d x=some (r,h',nx')):nx<=nx':=by
  unfold aappendZ at e
  repeat' split at e
  all_goals (try (cases e;done))
  all_goals (simp only[Option.some.injEq,Prod.mk.injEq]at e;omega)
theorem aappendZ_ok{P:Program} {F:Bool->Nat->Prop} {I:In} {h h':T AO} {w:World} (hs:Sim F I h w) (hF:∀b,F true b->b<w.heap.size) {nx nx':Nat} {ts:List TypeId} {ty:TypeId} {d x r:AV} {u v:Value} (e:aappendZ P h nx ts d x=some (r,h',nx')) (hfr:∀i,nx<=i->i<nx'->I i=none) (hd:VR I d u) (hx:VR I x v):
    ∃z I' w',(Builtin.append_ ⟨ts⟩ ty ⟨[u,v]⟩).run P w= .ok z w'/\VR I' r z/\Grow F I nx w I' nx' h' w':=by
  unfold aappendZ at e
  split at e
  · rename_i t0 t1
    split at e
    · rename_i el k h0 h1
      split at e
      · rename_i i hi
        split at e
        · rename_i z n hz
          split at e
          · rename_i hc
            obtain⟨c1,c2,c3,c4,c5⟩:=hc
            split at e
            · rename_i h2 hp
              cases e
              cases hd;cases hx
              obtain⟨zv,z1,z2⟩:=zero_size hi hz
              obtain⟨zv',z3,z4⟩:=zeroAV_ok hz (ext I nx (w.heap.size,0,grownCap w n 0 el*i.size))
              rw[c1]at z2
              have hzz:zv'=zv:=by
                have a1:=z3 w
                have a2:(zeroValue el).run P w= .ok zv w:=by simp[zeroValue,typeInfo,program,Sem.run,hi,bind,Sem.bind,pure,z1]
                rw[a2]at a1;cases a1;rfl
              subst hzz
              have zc:∀k,(Builtin.zeroCells zv'.cells k).size=k*i.size:=λk=>by rw[size_zeroCells,z2]
              have hrun:=append_noughts (P:=P) (w:=w) (ty:=ty) h0 h1 hi z1 c4 c2 c3 c5
              have hcap:=grownCap_ge w n 0 el
              have hor:OR (ext I nx (w.heap.size,0,grownCap w n 0 el*i.size)) (0,grownCap w n 0 el*i.size) (.cells el (some 0) true (zrow z n)) (.cells (Builtin.zeroCells zv'.cells n++Builtin.zeroCells zv'.cells (grownCap w n 0 el- n)) el):=by
                have hcells:(Builtin.zeroCells zv'.cells n++Builtin.zeroCells zv'.cells (grownCap w n 0 el- n))=⟨[]++(zrowV zv'.cells.toList n++(Builtin.zeroCells zv'.cells (grownCap w n 0 el- n)).toList)⟩:=by
                  apply Array.toList_inj.1
                  have:=zrow_array zv'.cells n
                  unfold Builtin.zeroCells
                  rw[this];simp
                rw[hcells]
                refine .cells (pre:=[]) (zrow_rel z4 n) (λh=>by cases h) rfl ?_ (λ_ _ o _ _=>by simp) (.inl rfl)
                have hzl:(Builtin.zeroCells zv'.cells (grownCap w n 0 el- n)).toList.length=(grownCap w n 0 el- n)*i.size:=by rw[Array.length_toList,zc]
                have hzr:(zrowV zv'.cells.toList n).length=n*i.size:=by
                  have a1:=congrArg Array.size (zrow_array zv'.cells n)
                  have a2:=zc n
                  unfold Builtin.zeroCells at a2
                  rw[a1]at a2
                  exact a2
                show(zrowV zv'.cells.toList n++_).length=grownCap w n 0 el*i.size
                rw[List.length_append,hzl,hzr,←Nat.add_mul]
                congr 1;omega
              have hg:=hs.push' (hfr nx (Nat.le_refl _) (Nat.lt_succ_self _)) hF hp hor
              exact⟨_,_,_,hrun, .gsl (ext_at _ _ _) hcap (by omega) (.inl rfl),hg⟩
            · cases e
          · cases e
        · cases e
      · cases e
    · cases e
  · cases e
noncomputable def aappend2 (P:Program) (h:T AO) (nx:Nat) (ts:List TypeId) (d x:AV):Option (AV×T AO×Nat):=
  match aappend P h nx ts d x with
  |some r=>some r
  |none=>aappendZ P h nx ts d x
theorem aappend2_nx{P:Program} {h h':T AO} {nx nx':Nat} {ts:List TypeId} {d x r:AV} (e:aappend2 P h nx ts d x=some (r,h',nx')):nx<=nx':=by
  unfold aappend2 at e
  split at e
  · rename_i q hq
    cases e
    unfold aappend at hq
    repeat' split at hq
    all_goals (try (cases hq;done))
    all_goals (simp only[Option.some.injEq,Prod.mk.injEq]at hq;omega)
  · exact aappendZ_nx e
theorem aappend2_ok{P:Program} {F:Bool->Nat->Prop} {I:In} {h h':T AO} {w:World} (hs:Sim F I h w) (hF:∀b,F true b->b<w.heap.size) {nx nx':Nat} {ts:List TypeId} {ty:TypeId} {d x r:AV} {u v:Value} (e:aappend2 P h nx ts d x=some (r,h',nx')) (hfr:∀i,nx<=i->i<nx'->I i=none) (hd:VR I d u) (hx:VR I x v):
    ∃z I' w',(Builtin.append_ ⟨ts⟩ ty ⟨[u,v]⟩).run P w= .ok z w'/\VR I' r z/\Grow F I nx w I' nx' h' w':=by
  unfold aappend2 at e
  split at e
  · rename_i q hq
    cases e
    exact aappend_ok hs hF hq hfr hd hx
  · exact aappendZ_ok hs hF e hfr hd hx
noncomputable def acopy (P:Program) (h:T AO) (ts:List TypeId) (d x:AV):Option (AV×T AO):=
  match ts with
  | t0 :: _=>match P.underlying t0 with
    | some (.slice e)=>match P.info? e with
      | some i=>match asrc h i.size x with
        | some (n,l)=>match d with
          | .sl id off len _=>if n<=len then(match awrite h id off l with|some h'=>some (.int .i64 (.ofNat n),h')|none=>none)else none
          | .gsl _ _ _ _=>if n=0 then some (.int .i64 (.ofNat 0),h)else none
          |_=>none
        |none=>none
      |none=>none
    |_=>none
  | []=>none
theorem acopy_ok {P:Program} {F:Bool->Nat->Prop} {I:In} {h h':T AO} {w:World} (hs:Sim F I h w) {ts:List TypeId} {ty:TypeId} {d x r:AV} {u v:Value} (e:acopy P h ts d x=some (r,h')) (hd:VR I d u) (hx:VR I x v) (nx:Nat):
    ∃z w',(Builtin.copy_ ⟨ts⟩ ty ⟨[u,v]⟩).run P w= .ok z w'/\VR I r z/\Grow F I nx w I nx h' w':=by
  unfold acopy at e
  split at e
  · rename_i t0 ts
    split at e
    · rename_i el hu
      split at e
      · rename_i i hi
        split at e
        · rename_i n l hl
          obtain⟨us,g1,g2,g3⟩:=asrc_ok (P:=P) hs hl hx
          obtain⟨g4,g5⟩:=g1 w rfl
          split at e
          · rename_i id off len cap
            split at e
            · rename_i hle
              split at e
              · rename_i h2 hw
                cases e
                cases hd with
                | sl hI=>
                  obtain⟨w',h1,h3⟩:=awrite_ok (P:=P) hs hw hI g2 nx
                  refine⟨_,w',?_, .int .i64 (.ofNat n),h3⟩
                  unfold Builtin.copy_
                  simp[run_underlying hu,run_sizeOf hi,Result.andThen,g4,Nat.min_eq_left hle,g5,h1,goInt]
              · cases e
            · cases e
          · split at e
            · rename_i hn
              cases e
              subst hn
              have hus:us=[]:=by
                have:us.length=0:=by rw[g3];simp
                exact List.length_eq_zero_iff.1 this
              subst hus
              cases hd with
              | gsl hI k1 k2 k3=>
                refine⟨_,w,?_, .int .i64 (.ofNat 0),hs.grow nx⟩
                unfold Builtin.copy_
                simp[run_underlying hu,run_sizeOf hi,Result.andThen,g4,g5,goInt,storeCells]
            · cases e
          · cases e
        · cases e
      · cases e
    · cases e
  · cases e
noncomputable def sop (P:Program) (t:T AV) (h:T AO) (nx:Nat) (o:Oper):Option (AV×T AO×Nat):=
  match o.op with
  | .store ty x y=>match ev t x,ev t y with
    |some (.ptr id off),some a=>(match astore P h ty id off a with|some h'=>some (undefA,h',nx)|none=>none)
    |_,_=>none
  | .mapUpdate ty m k x| .insert ty m k x=>match ev t m,ev t k,ev t x with
    |some (.map id),some a,some b=>(match amapPut P h ty id a b with|some h'=>some (undefA,h',nx)|none=>none)
    |_,_,_=>none
  | .mapEntry ty m k=>match ev t m,ev t k with
    |some (.map id),some a=>(match amapEntry P h ty id a with|some (v,h')=>some (v,h',nx)|none=>none)
    |_,_=>none
  | .entryStore ty m s x=>match ev t m,ev t s,ev t x with
    |some (.map id),some a,some b=>(match aentryStore h id a b with|some h'=>some (undefA,h',nx)|none=>none)
    |_,_,_=>none
  | .convert s d x=>match Nat.beq s d with
    | true=>match ev t x with
      |some a=>(match aself P h s a with|some (v,h')=>some (v,h',nx)|none=>none)
      |none=>none
    |false=>none
  | .call c=>match c.callee with
    | .builtin .append=>match evs t c.args.toList with
      |some [d,x]=>aappend2 P h nx c.argTypes.toList d x
      |_=>none
    | .builtin .copy=>match evs t c.args.toList with
      | some [d,x]=>match acopy P h c.argTypes.toList d x with
        |some (v,h')=>some (v,h',nx)
        |none=>none
      |_=>none
    | .builtin .unsafeString=>match evs t c.args.toList with
      | some l=>match austr P h c.argTypes.toList l with
        |some (v,h')=>some (v,h',nx)
        |none=>none
      |none=>none
    |_=>none
  |_=>none
theorem vrs2{I:In} {a b:AV} {vs:List Value} (h:VRs I [a,b] vs):∃v u,vs=[v,u]/\VR I a v/\VR I b u:=by
  cases h with|cons h t=>obtain⟨u,rfl,h2⟩:=vrs1 t;exact⟨_,_,rfl,h,h2⟩
theorem sop_ok{P:Program} {F:Bool->Nat->Prop} {I:In} {t:T AV} {h h':T AO} {a:Act} {w:World} {o:Oper} {nx nx':Nat} {r:AV} (e:sop P t h nx o=some (r,h',nx')) (ht:TR I t a.tmps) (hs:Sim F I h w) (hF:∀b,F true b->b<w.heap.size) (hfr:∀i,nx<=i->i<nx'->I i=none):
    nx<=nx'/\Steps1 P F I nx w (execOp a.eval o) r h' nx':=by
  obtain⟨dst,op,ty,pos,after,guard⟩:=o
  have mapUp:∀(lt:TypeId) (m k x:Operand),(match ev t m,ev t k,ev t x with
    |some (.map id),some a,some b=>(match amapPut P h lt id a b with|some h'=>some (undefA,h',nx)|none=>none)
    |_,_,_=>none)=some (r,h',nx')->nx<=nx'/\Steps1 P F I nx w (do Instr.mapUpdate lt (a.eval m) (a.eval k) (a.eval x);pure Next.skip) r h' nx':=λlt m k x e=>by
    split at e
    · rename_i hm hk hx
      split at e
      · rename_i h2 hp
        cases e
        have h1:=ev_ok ht hm
        generalize hv:a.eval m=v at h1
        cases h1 with
        | map hI=>
          obtain⟨w',g1,g2⟩:=amapPut_ok (P:=P) hs hp hI (ev_ok ht hk) (ev_ok ht hx) nx
          exact⟨Nat.le_refl _,_,_,I,w',by simp[g1,Result.andThen], .inr ⟨rfl,rfl⟩,undef_rel I,g2⟩
      · cases e
    · cases e
  cases op with
  | store st x y=>
    simp only[sop]at e
    split at e
    · rename_i id off v hx hy
      split at e
      · rename_i h2 hp
        cases e
        have h1:=ev_ok ht hx
        generalize hv:a.eval x=xv at h1
        cases h1 with
        | ptr hI=>
          obtain⟨w',g1,g2⟩:=astore_ok (P:=P) hs hp hI (ev_ok ht hy) nx
          exact⟨Nat.le_refl _,_,_,I,w',by simp[execOp,Instr.storeAt,hv,Instr.sureAddr,g1,Result.andThen], .inr ⟨rfl,rfl⟩,undef_rel I,g2⟩
      · cases e
    · cases e
  |mapUpdate mt m k x=>exact mapUp mt m k x e
  |insert mt m k x=>exact mapUp mt m k x e
  | mapEntry mt m k=>
    simp only[sop]at e
    split at e
    · rename_i id v hm hk
      split at e
      · rename_i v2 h2 hp
        cases e
        have h1:=ev_ok ht hm
        generalize hv:a.eval m=mv at h1
        cases h1 with
        | map hI=>
          obtain⟨z,w',g1,g2,g3⟩:=amapEntry_ok (P:=P) hs hp hI (ev_ok ht hk) nx
          exact⟨Nat.le_refl _,_,z,I,w',by simp[execOp,hv,g1,Result.andThen], .inl rfl,g2,g3⟩
      · cases e
    · cases e
  | entryStore mt m s x=>
    simp only[sop]at e
    split at e
    · rename_i id v1 v2 hm hk hx
      split at e
      · rename_i h2 hp
        cases e
        have h1:=ev_ok ht hm
        generalize hv:a.eval m=mv at h1
        cases h1 with
        | map hI=>
          obtain⟨w',g1,g2⟩:=aentryStore_ok (P:=P) (t:=mt) hs hp hI (ev_ok ht hk) (ev_ok ht hx) nx
          exact⟨Nat.le_refl _,_,_,I,w',by simp[execOp,hv,g1,Result.andThen], .inr ⟨rfl,rfl⟩,undef_rel I,g2⟩
      · cases e
    · cases e
  | convert s d x=>
    simp only[sop]at e
    split at e
    · rename_i hsd
      have:=Nat.eq_of_beq_eq_true hsd;subst this
      split at e
      · rename_i av hx
        split at e
        · rename_i v0 h2 hp
          cases e
          obtain⟨z,w',g1,g2,g3⟩:=aself_ok (P:=P) hs hp (ev_ok ht hx) nx
          exact⟨Nat.le_refl _,_,z,I,w',by simp[execOp,g1,Result.andThen], .inl rfl,g2,g3⟩
        · cases e
      · cases e
    · cases e
  | call c=>
    simp only[sop]at e
    split at e
    · rename_i hb
      split at e
      · rename_i d x hargs
        have hr:=evs_ok ht hargs
        obtain⟨v,u,hv,h1,h2⟩:=vrs2 hr
        have hnx:nx<=nx':=aappend2_nx e
        obtain⟨z,I',w',g1,g2,g3⟩:=aappend2_ok (P:=P) (ty:=ty) hs hF e hfr h1 h2
        refine⟨hnx,_,z,I',w',?_, .inl rfl,g2,g3⟩
        have e2:c.args.map a.eval=⟨[v,u]⟩:=by apply Array.toList_inj.1;simpa using hv
        simp only[execOp,resolve,hb,Sem.run_bind,Sem.run_pure,Result.andThen,invoke,builtin]
        rw[e2]
        simp[g1]
      · cases e
    · rename_i hb
      split at e
      · rename_i d x hargs
        split at e
        · rename_i v0 h2 hp
          cases e
          have hr:=evs_ok ht hargs
          obtain⟨v,u,hv,h1,h3⟩:=vrs2 hr
          obtain⟨z,w',g1,g2,g3⟩:=acopy_ok (P:=P) (ty:=ty) hs hp h1 h3 nx
          refine⟨Nat.le_refl _,_,z,I,w',?_, .inl rfl,g2,g3⟩
          have e2:c.args.map a.eval=⟨[v,u]⟩:=by apply Array.toList_inj.1;simpa using hv
          have e3:(⟨c.argTypes.toList⟩:Array TypeId)=c.argTypes:=rfl
          rw[e3]at g1
          simp only[execOp,resolve,hb,Sem.run_bind,Sem.run_pure,Result.andThen,invoke,builtin]
          rw[e2]
          simp[g1,Result.andThen]
        · cases e
      · cases e
    · rename_i hb
      split at e
      · rename_i l hargs
        split at e
        · rename_i v0 h2 hp
          cases e
          obtain⟨z,w',g1,g2,g3⟩:=austr_ok (P:=P) (ty:=ty) hs hp (evs_ok ht hargs) nx
          refine⟨Nat.le_refl _,_,z,I,w',?_, .inl rfl,g2,g3⟩
          have e2:(⟨c.args.toList.map a.eval⟩:Array Value)=c.args.map a.eval:=by apply Array.toList_inj.1;simp
          rw[e2]at g1
          have e3:(⟨c.argTypes.toList⟩:Array TypeId)=c.argTypes:=rfl
          rw[e3]at g1
          simp only[execOp,resolve,hb,Sem.run_bind,Sem.run_pure,Result.andThen,invoke,builtin]
          simp[g1,Result.andThen]
        · cases e
      · cases e
    · cases e
  |_=>simp[sop]at e
end Go.Proofs.YtldhaghgonkknaaDoor.Old
