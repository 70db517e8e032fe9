/-
  The machine with unknown values: questions reckoned out of the code. No condition but what its theorems ask.
-/
import Derived.Test.YtdaokgdnjaaofaaDoorU1
import Derived.Laws.AppendOwn
import Derived.Lib.UnsafeStr
namespace Go.Proofs.YtdaokgdnjaaofaaDoor.Eng
open Go.RowKit
set_option linter.defProp false
set_option linter.unusedVariables false
set_option linter.unusedSimpArgs false
variable {gl:T AV}
noncomputable section
def q77(h:T AO) (id off:Nat) (x:List AV):Option (T AO):=
 match h.get id with
 |some (.cells e (some fz) g l)=>if fz<=off/\off+x.length<=l.length/\x.all atom=true then T.put 64 id (some (.cells e (some fz) g (spl l off x))) h else none
 |_=>none
variable {F:Bool->Nat->Prop} {I:In} {w:World}
def q5o{P:Program} {h h':T AO} (hs:Sim F I h w) {id off b s t:Nat} {x:List AV} {us:List Value} (e:q77 h id off x=some h') (hi:I id=some (b,s,t)) (hx:VRs I x us) (nx:Nat):
    ∃w',(storeCells ⟨b,s+off,none⟩ us).run P w= .ok () w'/\Grow F I nx w I nx h' w':=by
  unfold q77 at e
  split at e
  · rename_i el fz g l hg
    split at e
    · rename_i hc
      obtain⟨c1,c2,c3⟩:=hc
      obtain⟨ob,hb,ho⟩:=hs.obj _ _ _ _ hg hi
      cases ho with
      | @cells _ _ _ _ _ pre vs rest fr hv hg' hp ht hf hE=>
        rcases hE with hE|⟨hE,_⟩
        case inr=>cases hE
        have hE:=hE.symm
        subst hE
        have hxl:=hx.len
        have hvl:=hv.len
        simp only at hp ht hf
        have hlen:(vs++rest).length=t:=ht
        rw[List.length_append]at hlen
        obtain⟨w',h1,h2,h3,h4,h5⟩:=q1n (P:=P) (o:=s+off) us 0 (pre++(vs++rest)) w hb (by simp only[List.length_append];omega) (λj a1 a2=>by
          have:=hf fz rfl (j- s) (by omega) (by omega)
          rw[show s+(j- s)=j by omega]at this;exact this) (q2n hx c3)
        refine⟨w',h1,hs.upd hg rfl hi e h2 ?_ h3 h4 h5 nx⟩
        rw[Nat.add_zero,←hp,q6r us pre (vs++rest) off,q4k us vs rest off (by omega)]
        exact .cells (t:=(pre.length,t)) (qb7 hx off hv) hg' rfl (by simp only[List.length_append,qb6];omega) (by rw[hp];exact hf) (.inl rfl)
    · cases e
  · cases e
def qj1(P:Program) (F:Bool->Nat->Prop) (I:In) (nx:Nat) (w:World) (s:Sem Next) (v:AV) (h':T AO) (nx':Nat):Prop:=
 ∃n z I' w',s.run P w= .ok n w'/\(n= .value z\/n= .skip/\z=undef)/\VR I' v z/\Grow F I nx w I' nx' h' w'
def q0c:AV:= .tup []
def q0d(I:In):VR I q0c undef:= .tup .nil
def q5n(P:Program) (h:T AO) (t:TypeId) (id off:Nat) (a:AV):Option (T AO):=
 let x:=q2p a
 match P.info? t with
 |some i=>if x.length=i.size then q77 h id off x else none
 |none=>none
def q97{P:Program} {h h':T AO} (hs:Sim F I h w) {t:TypeId} {id off b s k:Nat} {a:AV} {v:Value} (e:q5n P h t id off a=some h') (hi:I id=some (b,s,k)) (ha:VR I a v) (nx:Nat):
  ∃w',(storeVar t ⟨b,s+off,none⟩ v).run P w= .ok () w'/\Grow F I nx w I nx h' w':=by
 unfold q5n at e
 simp only at e
 split at e
 ·rename_i i hi'
  split at e
  ·rename_i hl
   have hc:=q3r ha
   obtain⟨w',h1,h2⟩:=q5o (P:=P) hs e hi hc nx
   have hsz:v.cells.size=i.size:=by rw[←Array.length_toList,←hc.len];exact hl
   exact⟨w',by simp[storeVar,run_sizeOf hi',hsz,h1,Result.andThen],h2⟩
  ·cases e
 ·cases e
def q6o(es:List q7u) (i:Nat) (k:Value) (v:AV):List q7u:=
  match es with
  | []=>[]
  | e::l=>match i with
    |0=>(k,v,e.2.2)::l
    |i+1=>e::q6o l i k v
def q9e:List q7u->Nat->Option q7u
  | [],_=>none
  | e::l,i=>match i with
    |0=>some e
    |i+1=>q9e l i
def q7f{es ms} (h:MR I es ms):∀i e,q9e es i=some e->∃v,ms[i]? =some (⟨e.1,v,e.2.2⟩:MapEntry)/\VR I e.2.1 v:=by
  induction h with
  |nil=>intro i e h;cases h
  | cons hv ht ih=>
    intro i e h
    cases i with
    |zero=>simp[q9e]at h;subst h;exact⟨_,rfl,hv⟩
    |succ i=>exact ih i e h
def q7o{es ms} (h:MR I es ms):∀i (k:Value) (v:AV) (u:Value),VR I v u->MR I (q6o es i k v) (ms.modify i λe=>{e with key:=k,val:=u}):=by
  induction h with
  |nil=>intro i k v u hv;simp[q6o];exact .nil
  | cons hv ht ih=>
    intro i k v u hvu
    cases i with
    |zero=>simp[q6o];exact .cons hvu ht
    |succ i=>simp[q6o];exact .cons hv (ih i k v u hvu)
def MR.snoc{es ms} (h:MR I es ms) {k v n u} (hv:VR I v u):MR I (es++[(k,v,n)]) (ms++[⟨k,u,n⟩]):=by
 induction h with
 |nil=>exact .cons hv .nil
 |cons h t ih=>exact .cons h ih
def q85(P:Program) (h:T AO) (t:TypeId) (id:Nat) (k v:AV):Option (T AO):=
  match P.underlying t,qkf h id,qem k with
  | some (.map kt _),some (es,c),some kv=>
    match q36 P (Instr.checkKey false 10000 kt kv),qf0 P kt kv es with
    | some (),some (some (i,_))=>match q9e es i with
      |some e=>if Instr.sameBits 10000 e.1 kv then T.put 64 id (some (.map (q6o es i kv v) c)) h else none
      |none=>none
    |some (),some none=>T.put 64 id (some (.map (es++[(kv,v,c)]) (c+1))) h
    |_,_=>none
  |_,_,_=>none
def q0r{P:Program} {b:Nat} {o:Obj} {ms:Array MapEntry} {c:Nat} (h:w.heap[b]? =some (.map ms c)):(setObj b o).run P w= .ok () (q0i w b o):=by
 simp[setObj,Sem.run,h,q0i]
def qcn{P:Program} {h h':T AO} (hs:Sim F I h w) {t:TypeId} {id b:Nat} {n:Nat×Nat} {k v:AV} {u z:Value} (e:q85 P h t id k v=some h') (hi:I id=some (b,n)) (hk:VR I k u) (hv:VR I v z) (nx:Nat):
    ∃w',(Instr.mapUpdate t (.map (some b)) u z).run P w= .ok () w'/\Grow F I nx w I nx h' w':=by
  unfold q85 at e
  split at e
  · rename_i kt et es c kv ht hm hkv
    have:=q5v hkv hk
    subst this
    obtain⟨ms,h1,h2,h3,h4⟩:=q5j (P:=P) hs hm hi
    have upd:∀(es':List q7u) (ms':List MapEntry) (c':Nat),MR I es' ms'->T.put 64 id (some (.map es' c')) h=some h'->Grow F I nx w I nx h' (q0i w b (.map ⟨ms'⟩ c')):=λes' ms' c' hm' hp=>
      hs.upd h4 rfl hi hp (q13 h2) (.map hm') (λc hc=>q0m hc) q0t q0s nx
    split at e
    · rename_i i q hck hf
      split at e
      · rename_i en hen
        split at e
        · rename_i hsb
          obtain⟨r',g1,g2⟩:=q30 h1 hf
          cases g2 with
          | some hva=>
            obtain⟨ev,g3,g4⟩:=q7f h1 _ _ hen
            refine⟨_,?_,upd _ _ _ (q7o h1 i u v z hv) e⟩
            have g3':(⟨ms⟩:Array MapEntry)[i]? =some ⟨en.1,ev,en.2.2⟩:=by simpa using g3
            simp[Instr.mapUpdate,run_underlying ht,Result.andThen,h3,q17 P _ _ hck w,g1 w,Instr.keyThatStays,g3,hsb,q0r h2]
        · cases e
      · cases e
    · rename_i hck hf
      obtain⟨r',g1,g2⟩:=q30 h1 hf
      cases g2
      refine⟨_,?_,upd _ _ _ (h1.snoc hv) e⟩
      simp[Instr.mapUpdate,run_underlying ht,Result.andThen,h3,q17 P _ _ hck w,g1 w,q0r h2]
    · cases e
  · cases e
def qgf{α:Type}:∀(xs l:List α) (k:Nat),k+xs.length<=l.length->spl l k xs=l.take k++xs++l.drop (k+xs.length)
  | [],l,k,h=>by simp[spl]
  | x::xs,l,k,h=>by
    simp only[List.length_cons]at h
    rw[spl,qgf xs (l.set k x) (k+1) (by rw[List.length_set];omega)]
    have hk:k<l.length:=by omega
    rw[List.take_succ_eq_append_getElem (by rw[List.length_set];exact hk),List.getElem_set_self,List.take_set_of_le (Nat.le_refl _),List.drop_set_of_lt (by omega)]
    simp only[List.length_cons,List.append_assoc,List.cons_append,List.nil_append]
    congr 4
    omega
variable {F:Bool->Nat->Prop} {I:In} {h:T AO} {w:World}
def q3o{P:Program} (hs:Sim F I h w) {id off n b s t o:Nat} {l:List AV} (e:qai h id off n=some l) (hi:I id=some (b,s,t)) (ho:o=s+off\/n=0):
  ∃ys:List Value,VRs I l ys/\ys.length=n/\∀w':World,w'.heap=w.heap->(loadCells ⟨b,o,none⟩ n).run P w'= .ok ⟨ys⟩ w':=by
 obtain⟨ys,g1,g2,g3,c,el,fr,hb,g4⟩:=qe5 hs e hi
 refine⟨ys,g1,g2,λw' hw=> ?_⟩
 have:=q7j (P:=P) (w:=w') (b:=b) (o:=o) (c:=c) (e:=el) (fr:=fr) (by rw[hw];exact hb) ys (λj v hj=>by
  rcases ho with ho|ho
  ·subst ho;exact g4 j v hj
  ·have:=(List.getElem?_eq_some_iff.1 hj).1;omega)
 rw[g2]at this
 exact this
def qp7(h:T AO) (esz:Nat) (x:AV):Option (Nat×List AV):=
  match x with
  | .nsl=>some (0,[])
  | .sl id off n _| .gsl id off n _=>match qai h id off (n*esz)with
    |some l=>some (n,l)
    |none=>none
  | .str l=>if esz=1 then some (l.length,l.map λb=> .int .u8 (.ofNat (b % 256)))else none
  |_=>none
def qe7{P:Program} (hs:Sim F I h w) {esz n:Nat} {x:AV} {l:List AV} {v:Value} (e:qp7 h esz x=some (n,l)) (hx:VR I x v):
  ∃us,(∀w':World,w'.heap=w.heap->(Builtin.lenOf v).run P w'= .ok n w'/\(Builtin.firstCells esz n v).run P w'= .ok ⟨us⟩ w')/\VRs I l us/\us.length=n*esz:=by
 have key:∀{id off n b s t c o:Nat} {l:List AV},qai h id off (n*esz)=some l->I id=some (b,s,t)->(o=s+off\/n=0)->∃us,(∀w':World,w'.heap=w.heap->(Builtin.lenOf (.slice (some ⟨b,o,none⟩) n c)).run P w'= .ok n w'/\(Builtin.firstCells esz n (.slice (some ⟨b,o,none⟩) n c)).run P w'= .ok ⟨us⟩ w')/\VRs I l us/\us.length=n*esz:=by
  intro id off n b s t c o l h1 hi ho
  obtain⟨ys,g1,g2,g3⟩:=q3o (P:=P) hs h1 hi (ho.imp (λh=>h) λh=>by rw[h,Nat.zero_mul])
  exact⟨ys,λw' hw=>⟨rfl,g3 w' hw⟩,g1,g2⟩
 unfold qp7 at e
 split at e
 ·cases e;cases hx
  exact⟨[],λw' _=>⟨rfl,rfl⟩, .nil,by simp⟩
 ·split at e
  ·rename_i hl;cases e;cases hx with|sl hI=>exact key hl hI (.inl rfl)
  ·cases e
 ·split at e
  ·rename_i hl;cases e;cases hx with|gsl hI g1 g2 g3=>exact key hl hI (g3.imp (λh=>h) λh=>by omega)
  ·cases e
 ·split at e
  ·rename_i l0 h1
   cases e;subst h1;cases hx
   refine⟨_,λw' _=>⟨by simp[Builtin.lenOf,q0u],?_⟩,q5t I l0,by simp⟩
   simp only[Builtin.firstCells,q6e,Sem.run_pure]
   congr 1
   apply Array.toList_inj.1
   simp[mkS]
  ·cases e
 ·cases e
def q4e(P:Program):List TypeId->Bool
  | _::t::_=>match P.underlying t with
    |some (.slice _)|some .string=>true
    |_=>false
  |_=>false
def q4s{P:Program} {t0 t1:TypeId} (h:q4e P [t0,t1]=true):(∃e,P.underlying t1=some (.slice e))\/P.underlying t1=some .string:=by
 simp only[q4e]at h
 split at h
 ·rename_i e h1;exact .inl ⟨e,h1⟩
 ·rename_i h1;exact .inr h1
 ·cases h
variable {i:TypeInfo} {base:Option Addr} {v:Value}
def q0z{P:Program} {t0 t1 ty e:TypeId} {sLen sCap n:Nat} {us:List Value} (h0:P.underlying t0=some (.slice e)) (hz:q4e P [t0,t1]=true) (hi:P.info? e=some i)
  (hl:(Builtin.lenOf v).run P w= .ok n w) (hf:(Builtin.firstCells i.size n v).run P w= .ok ⟨us⟩ w) (hr:sLen+n<=sCap):
  (Builtin.append_ ⟨[t0,t1]⟩ ty ⟨[.slice base sLen sCap,v]⟩).run P w=(match base with|some a=>(storeCells (a.add (sLen*i.size)) us).run P w|none=> .ok () w).andThen (λ_ w=> .ok (.slice base (sLen+n) sCap) w):=by
 simp only[Builtin.append_,List.getElem?_toArray,List.getElem?_cons_zero,List.getElem?_cons_succ,Sem.run_bind,run_underlying h0,Result.andThen,run_sizeOf hi]
 rcases q4s hz with⟨e',hu⟩|hu
 ·simp[run_underlying hu,Result.andThen,hl,hr,hf]
  cases base<;>simp[Result.andThen]
 ·simp[run_underlying hu,Result.andThen,hl,hr,hf]
  cases base<;>simp[Result.andThen]
def q5m{P:Program} {t0 t1 ty e:TypeId} {z:Value} {sLen sCap n:Nat} {us os:List Value} (h0:P.underlying t0=some (.slice e)) (hz:q4e P [t0,t1]=true) (hi:P.info? e=some i) (hzv:i.zero=some z)
  (hl:(Builtin.lenOf v).run P w= .ok n w) (hf:∀w':World,w'.heap=w.heap->(Builtin.firstCells i.size n v).run P w'= .ok ⟨us⟩ w') (ho:∀w':World,w'.heap=w.heap->(Builtin.firstCells i.size sLen (.slice base sLen sCap)).run P w'= .ok ⟨os⟩ w') (hr:¬sLen+n<=sCap) (hb:0<i.bytes) (hbig:(sLen+n)*i.bytes<=140737488355328):
  (Builtin.append_ ⟨[t0,t1]⟩ ty ⟨[.slice base sLen sCap,v]⟩).run P w= .ok (.slice (some ⟨w.heap.size,0,none⟩) (sLen+n) (grownCap w (sLen+n) sCap e)) (w.drew.alloc (.cells (⟨os⟩++(⟨us⟩++Builtin.zeroCells z.cells (grownCap w (sLen+n) sCap e- (sLen+n)))) e)):=by
 have hne:¬i.bytes=0:=by omega
 have hfit:=growslice_fits (bytes:=i.bytes) (Nat.lt_of_not_le hr) hbig
 have hti:(typeInfo e).run P w= .ok i w:=by simp[typeInfo,program,Sem.run,hi,bind,Sem.bind,pure]
 have hti':(typeInfo e).run P w.drew= .ok i w.drew:=by simp[typeInfo,program,Sem.run,hi,bind,Sem.bind,pure]
 have hzr:(zeroValue e).run P w.drew= .ok z w.drew:=by simp[zeroValue,typeInfo,program,Sem.run,hi,bind,Sem.bind,pure,hzv]
 have hnb:¬Builtin.nextslicecap (sLen+n) sCap*i.bytes>2 ^ 48:=by omega
 have hroomrun:∀k,(askRoom k).run P w.drew= .ok () w.drew:=λk=>by unfold askRoom;split<;>rfl
 have ho':=ho w.drew rfl
 have hf':=hf w.drew rfl
 simp only[Builtin.append_,List.getElem?_toArray,List.getElem?_cons_zero,List.getElem?_cons_succ,Sem.run_bind,run_underlying h0,Result.andThen,run_sizeOf hi]
 rcases q4s hz with⟨e',hu⟩|hu
 ·simp[run_underlying hu,Result.andThen,hl,hr,hti,hti',hne,hnb,Question.forced,hroomrun,ho',hf',hzr,newRow,newObj,Sem.run,grownCap]
  rfl
 ·simp[run_underlying hu,Result.andThen,hl,hr,hti,hti',hne,hnb,Question.forced,hroomrun,ho',hf',hzr,newRow,newObj,Sem.run,grownCap]
  rfl
def q7y (P:Program) (h:T AO) (nx:Nat) (ts:List TypeId) (d x:AV):Option (AV×T AO×Nat):=
  match ts with
  | [t0,t1]=>
    match P.underlying t0,q4e P [t0,t1]with
    | some (.slice e),true=>match P.info? e with
      | some i => match qp7 h i.size x,q1v P e with
        | some (n,l),some z=>if z.length=i.size/\0<i.size/\0<i.bytes then
          match d with
          | .nsl=>if n=0 then some (.nsl,h,nx)else if n*i.bytes<=140737488355328 then
              (match T.put 64 nx (some (.cells e (some 0) true l)) h with|some h'=>some (.gsl nx 0 n i.size,h',nx+1)|none=>none)else none
          | .sl id off len cap=>
            if len+n<=cap then(match q77 h id (off+len*i.size) l with|some h'=>some (.sl id off (len+n) cap,h',nx)|none=>none)
            else if(len+n)*i.bytes<=140737488355328 then
              (match qai h id off (len*i.size)with
              |some o=>match T.put 64 nx (some (.cells e (some 0) true (o++l))) h with|some h'=>some (.gsl nx 0 (len+n) i.size,h',nx+1)|none=>none
              |none=>none)else none
          | .gsl id off len esz=>if esz=i.size then
              (if n=0 then some (.gsl id off len esz,h,nx)else if(len+n)*i.bytes<=140737488355328 then
              (match h.get id,qai h id off (len*i.size)with
              | some (.cells e' (some fz) true l0),some o=>if e'=e/\fz<=off+len*i.size/\l.all atom=true/\off<=l0.length then
                  match T.put 64 id none h with
                  |some h1=>match T.put 64 nx (some (.cells e (some (fz- off)) true (o++l))) h1 with|some h'=>some (.gsl nx 0 (len+n) i.size,h',nx+1)|none=>none
                  |none=>none
                else none
              |_,_=>none)else none)else none
          |_=>none
          else none
        |_,_=>none
      |none=>none
    |_,_=>none
  |_=>none
def Sim.push'{F I h w} (s:Sim F I h w) {nx t o h'} (hi:I nx=none) (hF:∀b,F true b->b<w.heap.size) (hp:T.put 64 nx (some o) h=some h') {ob:Obj} (ho:OR (ext I nx (w.heap.size,t)) t o ob):
  Grow F I nx w (ext I nx (w.heap.size,t)) (nx+1) h' (w.drew.alloc ob):=s.push hi hF hp rfl ho ⟨rfl,rfl,rfl⟩
def Sim.drop{F I h w} (s:Sim F I h w) {id h1} (hp:T.put 64 id none h=some h1):Sim F I h1 w:=by
 have hg:=T.get_put _ _ _ _ _ hp
 have sub:∀k o,h1.get k=some o->h.get k=some o:=λk o hk=>by
  rw[hg]at hk;split at hk
  ·cases hk
  ·exact hk
 exact⟨λk o b t a c=>s.obj k o b t (sub _ _ a) c,λk k' o o' b t t' a c=>s.inj k k' o o' b t t' (sub _ _ a) (sub _ _ c),λk o b t a c=>s.fr k o b t (sub _ _ a) c⟩
def q6t{P:Program} {e:TypeId} {z:List AV} (hi:P.info? e=some i) (h:q1v P e=some z):∃zv,i.zero=some zv/\zv.cells.size=z.length:=by
 unfold q1v at h
 rw[hi]at h
 simp only at h
 split at h
 ·rename_i zv hz
  exact⟨zv,hz,by rw[←Array.length_toList,←(ofVals_rel (λ_=>none) _ _ h).len]⟩
 ·cases h
def qck {P : Program} {h h':T AO} (hs:Sim F I h w) (hF:∀b,F true b->b<w.heap.size) {nx nx':Nat} {ts:List TypeId} {ty:TypeId} {d x r:AV} {u v:Value} (e:q7y P h nx ts d x=some (r,h',nx')) (hfr:∀i,nx<=i->i<nx'->I i=none) (hd:VR I d u) (hx:VR I x v):
    ∃z I' w',(Builtin.append_ ⟨ts⟩ ty ⟨[u,v]⟩).run P w= .ok z w'/\VR I' r z/\Grow F I nx w I' nx' h' w':=by
  unfold q7y at e
  split at e
  · rename_i t0 t1
    split at e
    · rename_i el h0 hz0
      split at e
      · rename_i i hi
        split at e
        · rename_i n l z hsrc hz
          split at e
          · rename_i hc
            obtain⟨c1,c2,c3⟩:=hc
            obtain⟨us,s1,s2,s3⟩:=qe7 (P:=P) hs hsrc hx
            obtain⟨zv,z1,z2⟩:=q6t hi hz
            rw[c1]at z2
            have zc:∀k,(Builtin.zeroCells zv.cells k).size=k*i.size:=λk=>by rw[size_zeroCells,z2]
            have grow:∀(base:Option Addr) (sLen sCap:Nat) (o:List AV) (os:List Value) (h1:T AO) (fz:Nat),Sim F I h1 w->(∀w':World,w'.heap=w.heap->(Builtin.firstCells i.size sLen (.slice base sLen sCap)).run P w'= .ok ⟨os⟩ w')->VRs I o os->os.length=sLen*i.size->¬sLen+n<=sCap->(sLen+n)*i.bytes<=140737488355328->I nx=none->T.put 64 nx (some (.cells el (some fz) true (o++l))) h1=some h'->
                ∃z I' w',(Builtin.append_ ⟨[t0,t1]⟩ ty ⟨[.slice base sLen sCap,v]⟩).run P w= .ok z w'/\VR I' (.gsl nx 0 (sLen+n) i.size) z/\Grow F I nx w I' (nx+1) h' w':=by
              intro base sLen sCap o os h1 fz hs1 ho hor hol hr hbig hI hp
              have hrun:=q5m (P:=P) (ty:=ty) h0 hz0 hi z1 (s1 w rfl).1 (λw' hw=>(s1 w' hw).2) ho hr c3 hbig
              have hle:=q1m (w.heap.size,0,grownCap w (sLen+n) sCap el*i.size) hI
              have hcap:=grownCap_ge w (sLen+n) sCap el
              have hcells:(⟨os⟩++(⟨us⟩++Builtin.zeroCells zv.cells (grownCap w (sLen+n) sCap el- (sLen+n))):Array Value)=⟨(os++us)++(Builtin.zeroCells zv.cells (grownCap w (sLen+n) sCap el- (sLen+n))).toList⟩:=by
                apply Array.toList_inj.1;simp
              have hor2:OR (ext I nx (w.heap.size,0,grownCap w (sLen+n) sCap el*i.size)) (0,grownCap w (sLen+n) sCap el*i.size) (.cells el (some fz) true (o++l)) (.cells (⟨os⟩++(⟨us⟩++Builtin.zeroCells zv.cells (grownCap w (sLen+n) sCap el- (sLen+n)))) el):=by
                rw[hcells]
                refine .cells (pre:=[]) ((hor.append s2).mono hle) (λh=>by cases h) rfl ?_ (λ_ _ o _ _=>by simp) (.inl rfl)
                have hzl:(Builtin.zeroCells zv.cells (grownCap w (sLen+n) sCap el- (sLen+n))).toList.length=(grownCap w (sLen+n) sCap el- (sLen+n))*i.size:=by rw[Array.length_toList,zc]
                show(os++us++_).length=grownCap w (sLen+n) sCap el*i.size
                rw[List.length_append,List.length_append,hzl,hol,s3,←Nat.add_mul,←Nat.add_mul]
                congr 1;omega
              have hg:=hs1.push' hI hF hp hor2
              refine⟨_,_,_,hrun, .gsl (q07 _ _ _) hcap (by omega) (.inl rfl),hg⟩
            split at e
            · cases hd
              split at e
              · rename_i hn
                cases e;subst hn
                refine⟨_,I,w,q0z (P:=P) h0 hz0 hi (s1 w rfl).1 (s1 w rfl).2 (Nat.le_refl _),?_,hs.grow nx⟩
                exact .nsl
              · rename_i hn
                split at e
                · rename_i hb
                  split at e
                  · rename_i h2 hp
                    cases e
                    have:=grow none 0 0 [] [] h 0 hs (λw' _=>rfl) .nil (by simp) (by omega) (by simpa using hb) (hfr nx (Nat.le_refl _) (Nat.lt_succ_self _)) hp
                    simpa using this
                  · cases e
                · cases e
            · rename_i id off len cap
              cases hd with
              | @sl _ _ _ _ b s t hI=>
                split at e
                · rename_i hroom
                  split at e
                  · rename_i h2 hw
                    cases e
                    obtain⟨w',g1,g2⟩:=q5o (P:=P) hs hw hI s2 nx
                    refine⟨_,I,w',?_, .sl hI,g2⟩
                    rw[q0z (P:=P) h0 hz0 hi (s1 w rfl).1 (s1 w rfl).2 hroom]
                    simp only[q05]
                    rw[show s+off+len*i.size=s+(off+len*i.size)by omega,g1]
                    rfl
                  · cases e
                · rename_i hroom
                  split at e
                  · rename_i hb
                    split at e
                    · rename_i o ho
                      split at e
                      · rename_i h2 hp
                        cases e
                        obtain⟨os,k1,k2,k3⟩:=q3o (P:=P) hs ho hI (.inl rfl)
                        exact grow _ len cap o os h 0 hs k3 k1 k2 hroom hb (hfr nx (Nat.le_refl _) (Nat.lt_succ_self _)) hp
                      · cases e
                    · cases e
                  · cases e
            · rename_i id off len esz
              cases hd with
              | @gsl _ _ _ _ b s t c oo hI g1 g2 g3=>
                split at e
                · rename_i hesz
                  subst hesz
                  split at e
                  · rename_i hn
                    cases e;subst hn
                    have hus:us=[]:=by
                      have:us.length=0:=by rw[s3];simp
                      exact List.length_eq_zero_iff.1 this
                    subst hus
                    refine⟨_,I,w,?_, .gsl hI g1 g2 g3,hs.grow nx⟩
                    rw[q0z (P:=P) h0 hz0 hi (s1 w rfl).1 (s1 w rfl).2 (by omega)]
                    simp[storeCells,Result.andThen]
                  · rename_i hn
                    split at e
                    · rename_i hb
                      split at e
                      · rename_i el' fz l0 o hg ho
                        split at e
                        · rename_i hcc
                          obtain⟨rfl,hfz,hat,hol⟩:=hcc
                          split at e
                          · rename_i h1 hp1
                            split at e
                            · rename_i h2 hp
                              cases e
                              have hI0:=hfr nx (Nat.le_refl _) (Nat.lt_succ_self _)
                              by_cases hroom:len+n<=c
                              ·
                                have hoo:oo=s+off:=g3.resolve_right (by omega)
                                subst hoo
                                obtain⟨ob,hb',hob⟩:=hs.obj _ _ _ _ hg hI
                                cases hob with
                                | @cells _ _ _ _ _ pre vs rest fr hv hg' hpl ht hf hE=>
                                  rcases hE with hE|⟨hE,_⟩
                                  case inr=>cases hE
                                  have hE:=hE.symm
                                  subst hE
                                  simp only at hpl ht hf
                                  have ho':takeN l0 off (len*i.size)=some o:=by
                                    unfold qai at ho;rw[hg]at ho;exact ho
                                  have hlo:((l0.drop off).take (len*i.size)).length=len*i.size/\o=(l0.drop off).take (len*i.size):=by
                                    unfold takeN at ho';simp only at ho'
                                    split at ho'
                                    · rename_i h3;cases ho';exact⟨h3,rfl⟩
                                    · cases ho'
                                  have hl0:off+len*i.size<=l0.length:=by
                                    have:=hlo.1;rw[List.length_take,List.length_drop]at this;omega
                                  have hvl:=hv.len
                                  have htl:vs.length+rest.length=t:=by rw[←List.length_append];exact ht
                                  have hsp:(len+n)*i.size<=c*i.size:=Nat.mul_le_mul_right _ hroom
                                  rw[Nat.add_mul]at hsp
                                  obtain⟨w',q1,q2,q3,q4,q5⟩:=q1n (P:=P) (o:=s+(off+len*i.size)) us 0 (pre++(vs++rest)) w hb' (by simp only[List.length_append];rw[s3];omega) (λj a1 a2=>by
                                    have:=hf fz rfl (j- s) (by omega) (by rw[s3]at a2;omega)
                                    rw[show s+(j- s)=j by omega]at this;exact this) (q2n s2 hat)
                                  rw[Nat.add_zero,←hpl,q6r us pre (vs++rest) (off+len*i.size),qgf us (vs++rest) (off+len*i.size) (by rw[List.length_append,s3];omega),List.take_append_of_le_length (by omega)]at q2
                                  have hsplit:vs.take (off+len*i.size)=vs.take off++(vs.drop off).take (len*i.size):=List.take_add
                                  rw[hsplit]at q2
                                  have hor:OR (ext I nx (b,s+off,t- off)) (s+off,t- off) (.cells el' (some (fz- off)) true (o++l)) (.cells ⟨pre++(vs.take off++(vs.drop off).take (len*i.size)++us++(vs++rest).drop (off+len*i.size+us.length))⟩ el' fr):=by
                                    have he:(⟨pre++(vs.take off++(vs.drop off).take (len*i.size)++us++(vs++rest).drop (off+len*i.size+us.length))⟩:Array Value)=⟨(pre++vs.take off)++(((vs.drop off).take (len*i.size)++us)++(vs++rest).drop (off+len*i.size+us.length))⟩:=by
                                      simp only[List.append_assoc]
                                    rw[he]
                                    refine .cells ?_ (λh=>by cases h) ?_ ?_ ?_ (.inl rfl)
                                    · rw[hlo.2]
                                      exact(((hv.drop _).take _).append s2).mono (q1m _ hI0)
                                    · simp only[List.length_append,List.length_take];omega
                                    · simp only[List.length_append,List.length_take,List.length_drop]
                                      rw[s3]
                                      omega
                                    · intro f hf' o' h1' h2'
                                      cases hf'
                                      simp only at h2'⊢
                                      have:=hf fz rfl (off+o') (by omega) (by omega)
                                      rw[show s+off+o'=s+(off+o')by omega];exact this
                                  refine⟨_,_,w',?_, .gsl (q07 I nx (b,s+off,t- off)) hroom (by omega) (.inl rfl),hs.over hg rfl hI hI0 hp1 hp q2 hor q3 q4 q5⟩
                                  rw[q0z (P:=P) h0 hz0 hi (s1 w rfl).1 (s1 w rfl).2 hroom]
                                  simp only[q05]
                                  rw[show s+off+len*i.size=s+(off+len*i.size)by omega,q1]
                                  rfl
                              · obtain⟨os,k1,k2,k3⟩:=q3o (P:=P) (o:=oo) hs ho hI (by
                                  rcases g3 with g3|g3
                                  · exact .inl g3
                                  · exact .inr (by have:len=0:=by omega
                                                   rw[this,Nat.zero_mul]))
                                exact grow _ len c o os h1 (fz- off) (hs.drop hp1) k3 k1 k2 hroom hb hI0 hp
                            · cases e
                          · cases e
                        · cases e
                      · cases e
                    · cases e
                · cases e
            · cases e
          · cases e
        · cases e
      · cases e
    · cases e
  · cases e
def q5i(P:Program) (h:T AO) (t:TypeId) (id:Nat) (k:AV):Option (AV×T AO):=
  match P.underlying t,qkf h id,qem k with
  | some (.map kt et),some (es,c),some kv=>
    match q36 P (Instr.checkKey false 10000 kt kv),qf0 P kt kv es with
    | some (),some (some (i,v))=>match q9e es i with
      |some e=>if Instr.sameBits 10000 e.1 kv then(match T.put 64 id (some (.map (q6o es i kv e.2.1) c)) h with|some h'=>some (.tup [v, .int .i64 (.ofNat e.2.2)],h')|none=>none)else none
      |none=>none
    | some (),some none=>match P.info? et with
      | some i=>match i.zero with
        | some z=>match q0n z with
          |some a=>(match T.put 64 id (some (.map (es++[(kv,a,c)]) (c+1))) h with|some h'=>some (.tup [a, .int .i64 (.ofNat c)],h')|none=>none)
          |none=>none
        |none=>none
      |none=>none
    |_,_=>none
  |_,_,_=>none
def qd1(ms:List MapEntry) (i:Nat) (k v:Value) (n:Nat) (h:ms[i]? =some ⟨k,v,n⟩) (k':Value):(ms.modify i λe=>{e with key:=k'})=ms.modify i λe=>{e with key:=k',val:=v}:=by
  induction ms generalizing i with
  |nil=>simp
  | cons m ms ih=>
    cases i with
    |zero=>simp at h;subst h;simp
    |succ i=>simp at h;simp[ih i h]
variable {F:Bool->Nat->Prop} {I:In} {w:World}
def q95{P:Program} {h h':T AO} (hs:Sim F I h w) {t:TypeId} {id b:Nat} {n:Nat×Nat} {k r:AV} {u:Value} (e:q5i P h t id k=some (r,h')) (hi:I id=some (b,n)) (hk:VR I k u) (nx:Nat):
    ∃z w',(Instr.mapEntry t (.map (some b)) u).run P w= .ok z w'/\VR I r z/\Grow F I nx w I nx h' w':=by
  unfold q5i at e
  split at e
  · rename_i kt et es c kv ht hm hkv
    have:=q5v hkv hk
    subst this
    obtain⟨ms,h1,h2,h3,h4⟩:=q5j (P:=P) hs hm hi
    have upd:∀(es':List q7u) (ms':List MapEntry) (c':Nat),MR I es' ms'->T.put 64 id (some (.map es' c')) h=some h'->Grow F I nx w I nx h' (q0i w b (.map ⟨ms'⟩ c')):=λes' ms' c' hm' hp=>
      hs.upd h4 rfl hi hp (q13 h2) (.map hm') (λc hc=>q0m hc) q0t q0s nx
    split at e
    · rename_i i q hck hf
      split at e
      · rename_i en hen
        split at e
        · rename_i hsb
          split at e
          · rename_i h'' hp
            cases e
            obtain⟨r',g1,g2⟩:=q30 h1 hf
            cases g2 with
            | some hva=>
              obtain⟨ev,g3,g4⟩:=q7f h1 _ _ hen
              refine⟨_,_,?_, .tup (.cons hva (.cons (.int _ _) .nil)),upd _ _ _ (q7o h1 i u en.2.1 ev g4) hp⟩
              rw[←qd1 ms i _ _ _ g3 u]
              simp[Instr.mapEntry,run_underlying ht,Result.andThen,h3,q17 P _ _ hck w,g1 w,Instr.keyThatStays,g3,hsb,q0r h2,goInt]
          · cases e
        · cases e
      · cases e
    · rename_i hck hf
      split at e
      · rename_i ti hti
        split at e
        · rename_i z hz
          split at e
          · rename_i a ha
            split at e
            · rename_i h'' hp
              cases e
              obtain⟨r',g1,g2⟩:=q30 h1 hf
              cases g2
              have hzr:(zeroValue et).run P w= .ok z w:=by simp[zeroValue,typeInfo,program,Sem.run,hti,bind,Sem.bind,pure,hz]
              have hza:=q2u I _ _ ha
              refine⟨_,_,?_, .tup (.cons hza (.cons (.int _ _) .nil)),upd _ _ _ (h1.snoc hza) hp⟩
              simp[Instr.mapEntry,run_underlying ht,Result.andThen,h3,q17 P _ _ hck w,g1 w,q0r h2,hzr,goInt]
            · cases e
          · cases e
        · cases e
      · cases e
    · cases e
  · cases e
def q52:List q7u->Nat->Nat->Option Nat
 | [],_,_=>none
 |e::l,n,i=>if e.2.2=n then some i else q52 l n (i+1)
def q7p(es:List q7u) (i:Nat) (v:AV):List q7u:=
  match es with
  | []=>[]
  | e::l=>match i with
    |0=>(e.1,v,e.2.2)::l
    |i+1=>e::q7p l i v
def qd7{es ms} (h:MR I es ms):∀i (v:AV) (u:Value),VR I v u->MR I (q7p es i v) (ms.modify i λe=>{e with val:=u}):=by
  induction h with
  |nil=>intro i v u hv;simp[q7p];exact .nil
  | cons hv ht ih=>
    intro i v u hvu
    cases i with
    |zero=>simp[q7p];exact .cons hvu ht
    |succ i=>simp[q7p];exact .cons hv (ih i v u hvu)
def q9d{es ms} (h:MR I es ms) (n:Nat):∀k i,q52 es n k=some i->∃j,i=k+j/\ms.findIdx? (λe=>(e.born:Int)==(n:Int))=some j:=by
  induction h with
  |nil=>intro k i h;cases h
  | @cons ke a m l v ms hv ht ih=>
    intro k i h
    simp only[q52]at h
    split at h
    · rename_i hm
      cases h
      refine⟨0,rfl,?_⟩
      simp[List.findIdx?_cons,hm]
    · rename_i hm
      obtain⟨j,h1,h2⟩:=ih (k+1) i h
      refine⟨j+1,by omega,?_⟩
      have:((m:Int)==(n:Int))=false:=by simp;omega
      simp[List.findIdx?_cons,this,h2]
def q3b(h:T AO) (id:Nat) (s v:AV):Option (T AO):=
  match qkf h id,s with
  | some (es,c), .int _ (.ofNat n)=>match q52 es n 0 with
    |some i=>T.put 64 id (some (.map (q7p es i v) c)) h
    |none=>none
  |_,_=>none
def q70{P:Program} {h h':T AO} (hs:Sim F I h w) {t:TypeId} {id b:Nat} {n:Nat×Nat} {s v:AV} {u z:Value} (e:q3b h id s v=some h') (hi:I id=some (b,n)) (hk:VR I s u) (hv:VR I v z) (nx:Nat):
  ∃w',(Instr.entryStore t (.map (some b)) u z).run P w= .ok () w'/\Grow F I nx w I nx h' w':=by
 unfold q3b at e
 split at e
 ·rename_i es c k m hm
  split at e
  ·rename_i i hf
   obtain⟨ms,h1,h2,h3,h4⟩:=q5j (P:=P) hs hm hi
   obtain⟨j,g1,g2⟩:=q9d h1 m 0 i hf
   rw[Nat.zero_add]at g1;subst g1
   cases hk
   refine⟨_,?_,hs.upd h4 rfl hi e (q13 h2) (.map (qd7 h1 i v z hv)) (λc hc=>q0m hc) q0t q0s nx⟩
   simp[Instr.entryStore,Result.andThen,h3,asInt,asIntOf,g2,q0r h2]
  ·cases e
 ·cases e
def qcy{P:Program} {e:TypeId} (hc:P.cellsOf e=1) (count off n:Nat) (hn:off+n<=count):liesAt P P.depth e count off e n=true:=by
 have hd:P.depth=(2*(P.types.size+Made.depth)+1)+1:=rfl
 rw[hd]
 simp only[liesAt,Bool.or_eq_true]
 left
 rw[hd]
 simp[rowAt,hc,hn,sameLayout,Nat.mod_one]
def qii{P:Program} (w:World) (pt it ty e:TypeId) (hp:P.underlying pt=some (.pointer e)) (hc:P.cellsOf e=1) (b o cells:Nat) (hsh:w.shape? b=some (e,cells)) (r:List Nat) (h0:r≠[]) (hn:o+r.length<=cells) (h63:r.length<=9223372036854775807)
    (hcell:∀j x,r[j]? =some x->x<256/\w.cell? ⟨b,o+j,none⟩=some (.int .u8 (.ofNat x))):
    (Builtin.unsafeString_ #[pt,it] ty #[.pointer (some ⟨b,o,none⟩), .int .i64 (.ofNat r.length)]).run P w= .ok (.string (mkS r)) (w.freeze ⟨b,o,none⟩ r.length):=by
  have hl:r.length≠0:=by simpa using h0
  have hlen:(r.map UInt8.ofNat).length=r.length:=by simp
  have hlb:=Lib.run_loadBytes (P:=P) w (r.map UInt8.ofNat) ⟨b,o,none⟩ .empty (λj x hj=>by
    rw[List.getElem?_map]at hj
    cases hr:r[j]? with
    |none=>rw[hr]at hj;cases hj
    | some y=>
      rw[hr]at hj;cases hj
      obtain⟨h1,h2⟩:=hcell j y hr
      rw[q05,h2,UInt8.toNat_ofNat',Nat.mod_eq_of_lt h1];rfl)
  rw[hlen]at hlb
  have hlies:=qcy (P:=P) hc (cells / P.cellsOf e) o r.length (by rw[hc];simpa using hn)
  have h63':¬(9223372036854775807:Int)<(r.length:Int):=by omega
  have hdef:Builtin.unsafeString_ #[pt,it] ty #[.pointer (some ⟨b,o,none⟩), .int .i64 (.ofNat r.length)]=
      (do
        let n ←asInt (.int .i64 (.ofNat r.length))
        if n<0 then runtimePanic (.error "unsafe.String: len out of range")
        if n>IntKind.i64.max then unsupported (.unsafePointer "String: a length above the largest int")
        if n=0 then pure (.string .empty)
        else if ←variablesAt ⟨b,o,none⟩ (←elemOf pt) n.toNat then do
          let s ←loadBytes ⟨b,o,none⟩ .empty n.toNat
          freeze ⟨b,o,none⟩ n.toNat
          pure (.string s)
        else unsupported (.unsafePointer "String: not so many bytes at ptr")):=rfl
  rw[hdef]
  have hmax:IntKind.i64.max=9223372036854775807:=rfl
  have hneg:¬(r.length:Int)<0:=by omega
  have hmk:(⟨#[]++(List.map UInt8.ofNat r).toArray⟩:ByteArray)=mkS r:=by
    apply ByteArray.ext;simp[mkS]
  simp[asInt,asIntOf,hmax,h63',hneg,hl,variablesAt,hsh,elemOf,run_underlying hp,hlies,hlb]
  simp[mkS]
def qkl(P:Program) (h:T AO) (ts:List TypeId) (l:List AV):Option (AV×T AO):=
  match ts with
  | [pt, _] =>match l with
    | [.nilp, .int .i64 (.ofNat 0)]=>some (.str [],h)
    | [.ptr id off, .int .i64 (.ofNat n)]=>match h.get id with
      | some (.cells e (some _) g l0)=>match P.underlying pt with
        | some (.pointer u)=>if u=e/\P.cellsOf e=1/\0<n/\n<=9223372036854775807 then
            (match takeN l0 off n with
            | some x=>match bytesOf x with
              | some r=>match T.put 64 id (some (.cells e none g l0)) h with
                |some h'=>some (.str r,h')
                |none=>none
              |none=>none
            |none=>none)else none
        |_=>none
      |_=>none
    |_=>none
  |_=>none
variable {F:Bool->Nat->Prop} {w:World}
def qh9 {P : Program} {I:In} {h h':T AO} (hs:Sim F I h w) {ts:List TypeId} {ty:TypeId} {l:List AV} {vs:List Value} {r:AV} (e:qkl P h ts l=some (r,h')) (hl:VRs I l vs) (nx:Nat):
    ∃z w',(Builtin.unsafeString_ ⟨ts⟩ ty ⟨vs⟩).run P w= .ok z w'/\VR I r z/\Grow F I nx w I nx h' w':=by
  unfold qkl at e
  split at e
  · rename_i pt it
    split at e
    · cases e
      cases hl with|cons h1 h2=>cases h2 with|cons h2 h3=>
      cases h3;cases h1;cases h2
      refine⟨_,w,Lib.run_unsafeString_none w pt it ty none,?_,hs.grow nx⟩
      exact .str []
    · rename_i id off n
      split at e
      · rename_i el fz g l0 hg
        split at e
        · rename_i u hp
          split at e
          · rename_i hc
            obtain⟨rfl,c2,c3,c4⟩:=hc
            split at e
            · rename_i x hx
              split at e
              · rename_i rr hr
                split at e
                · rename_i h2 hput
                  cases e
                  cases hl with|cons h1 h2=>cases h2 with|cons h2 h3=>
                  cases h3;cases h2
                  cases h1 with
                  | @ptr _ _ b s t hI=>
                    obtain⟨ob,hb,ho⟩:=hs.obj _ _ _ _ hg hI
                    cases ho with
                    | @cells _ _ _ _ _ pre vs rest fr hv hg' hpl ht hf hE=>
                      rcases hE with hE|⟨hE,_⟩
                      case inr=>cases hE
                      have hE:=hE.symm
                      subst hE
                      simp only at hpl ht hf
                      obtain⟨ys,y1,y2,y3⟩:=q8x (rest:=rest) hv hpl hx
                      have hrl:rr.length=n:=by rw[q3f hr,y1.len,y2]
                      have hsh:w.shape? b=some (u,(pre++(vs++rest)).length):=by
                        simp[World.shape?,hb]
                      have hsz:s+off+n<=(pre++(vs++rest)).length:=by
                        have hne:0<ys.length:=by omega
                        have:=y3 (ys.length- 1) ys[ys.length- 1] (List.getElem?_eq_getElem (by omega))
                        simp only[List.getElem?_toArray]at this
                        have:=(List.getElem?_eq_some_iff.1 this).1
                        omega
                      have hrun:=qii (P:=P) w pt it ty u hp c2 b (s+off) _ hsh rr (λe0=>by rw[e0]at hrl;simp at hrl;omega) (by omega) (by omega) (λj x hj=>by
                        obtain⟨k1,k2⟩:=q3e hr y1 j x hj
                        exact⟨k1,by rw[cell_of hb];exact y3 j _ k2⟩)
                      rw[hrl]at hrun
                      refine⟨_,_,hrun, .str rr,?_⟩
                      have hn0:¬n=0:=by omega
                      have f1:∀c,c≠b->(w.freeze ⟨b,s+off,none⟩ n).heap[c]? =w.heap[c]? :=λc hc=>by
                        unfold World.freeze;rw[if_neg hn0];simp only[Array.getElem?_modify];rw[if_neg (λe=>hc e.symm)]
                      have f2:∃fr',(w.freeze ⟨b,s+off,none⟩ n).heap[b]? =some (.cells ⟨pre++(vs++rest)⟩ u fr'):=by
                        unfold World.freeze;rw[if_neg hn0];simp only[Array.getElem?_modify,if_true,hb,Option.map_some];exact⟨_,rfl⟩
                      have f3:(w.freeze ⟨b,s+off,none⟩ n).heap.size=w.heap.size:=by
                        unfold World.freeze;rw[if_neg hn0];simp
                      have f4:Same w (w.freeze ⟨b,s+off,none⟩ n):=by
                        unfold World.freeze;rw[if_neg hn0];exact⟨rfl,rfl,rfl⟩
                      obtain⟨fr',f2⟩:=f2
                      exact hs.upd hg rfl hI hput f2 (.cells hv hg' hpl ht (λf hf=>by cases hf) (.inl rfl)) f1 f3 f4 nx
                · cases e
              · cases e
            · cases e
          · cases e
        · cases e
      · cases e
    · cases e
  · cases e
def qkk (P:Program) (h:T AO) (s:TypeId) (a:AV):Option (AV×T AO):=
  match a with
  | .nsl=>none
  | .sl id _ _ _| .gsl id _ _ _=>match h.get id with
    | some (.cells e (some _) g l0)=>match P.underlying s with
      | some (.slice el)=>match P.underlying el with
        | some (.int .u8)=>match T.put 64 id (some (.cells e none g l0)) h with
          |some h'=>some (a,h')
          |none=>none
        |_=>none
      |_=>none
    |_=>none
  |_=>none
def qhy{P:Program} {b o:Nat} {cs:Array Value} {e:TypeId} {fr:Nat×Nat} (hb:w.heap[b]? =some (.cells cs e fr)):(markStringish ⟨b,o,none⟩).run P w= .ok () (w.freeze ⟨b,cs.size,none⟩ 1):=by
 have hsh:w.shape? b=some (e,cs.size):=by simp[World.shape?,hb]
 unfold markStringish
 simp[hsh,freeze,Sem.run,Result.andThen]
def qh7 {P:Program} {I:In} {h h':T AO} (hs:Sim F I h w) {s:TypeId} {a r:AV} {u:Value} (e:qkk P h s a=some (r,h')) (ha:VR I a u) (nx:Nat):
    ∃z w',(convert s s u).run P w= .ok z w'/\VR I r z/\Grow F I nx w I nx h' w':=by
  have key:∀(id b s0 t0 len c o:Nat) (el:TypeId) (e0:TypeId) (f0:Nat) (g:Bool) (l0:List AV),h.get id=some (.cells e0 (some f0) g l0)->P.underlying s=some (.slice el)->P.underlying el=some (.int .u8)->T.put 64 id (some (.cells e0 none g l0)) h=some h'->I id=some (b,s0,t0)->
      ∃w',(convert s s (.slice (some ⟨b,o,none⟩) len c)).run P w= .ok (.slice (some ⟨b,o,none⟩) len c) w'/\Grow F I nx w I nx h' w':=by
    intro id b s0 t0 len c o el e0 f0 g l0 hg hsu hel hput hI
    obtain⟨ob,hb,ho⟩:=hs.obj _ _ _ _ hg hI
    cases ho with
    | @cells _ _ _ _ _ pre vs rest fr hv hg' hpl ht hf hE=>
      rcases hE with hE|⟨hE,_⟩
      case inr=>cases hE
      have hE:=hE.symm
      subst hE
      simp only at hpl ht hf
      have hm:=qhy (P:=P) (o:=o) hb
      refine⟨_,?_,hs.upd hg rfl hI hput (w':=w.freeze ⟨b,(⟨pre++(vs++rest)⟩:Array Value).size,none⟩ 1) (ob':= .cells ⟨pre++(vs++rest)⟩ e0 (if fr.1==fr.2 then((⟨pre++(vs++rest)⟩:Array Value).size,(⟨pre++(vs++rest)⟩:Array Value).size+1)else(min fr.1 (⟨pre++(vs++rest)⟩:Array Value).size,max fr.2 ((⟨pre++(vs++rest)⟩:Array Value).size+1)))) ?_ ?_ ?_ ?_ ?_ nx⟩
      · unfold convert
        simp only[Sem.run_bind,run_underlying hsu,Result.andThen]
        simp[run_underlying hel,hm,Result.andThen]
      · unfold World.freeze;rw[if_neg (by omega)];simp only[Array.getElem?_modify,if_true,hb,Option.map_some]
      · exact .cells hv hg' hpl ht (λf hf=>by cases hf) (.inl rfl)
      · intro k hk;unfold World.freeze;rw[if_neg (by omega)];simp only[Array.getElem?_modify];rw[if_neg (λe=>hk e.symm)]
      · unfold World.freeze;rw[if_neg (by omega)];simp
      · unfold World.freeze;rw[if_neg (by omega)];exact⟨rfl,rfl,rfl⟩
  unfold qkk at e
  split at e
  · cases e
  · split at e
    · rename_i hg
      split at e
      · rename_i hsu
        split at e
        · rename_i hel
          split at e
          · rename_i hp
            cases e
            cases ha with
            | sl hI=>
              obtain⟨w',k1,k2⟩:=key _ _ _ _ _ _ _ _ _ _ _ _ hg hsu hel hp hI
              exact⟨_,w',k1, .sl hI,k2⟩
          · cases e
        · cases e
      · cases e
    · cases e
  · split at e
    · rename_i hg
      split at e
      · rename_i hsu
        split at e
        · rename_i hel
          split at e
          · rename_i hp
            cases e
            cases ha with
            | gsl hI g1 g2 g3=>
              obtain⟨w',k1,k2⟩:=key _ _ _ _ _ _ _ _ _ _ _ _ hg hsu hel hp hI
              exact⟨_,w',k1, .gsl hI g1 g2 g3,k2⟩
          · cases e
        · cases e
      · cases e
    · cases e
  · cases e
def q71{P:Program} {w:World} {t0 t1 ty e:TypeId} {i:TypeInfo} {z:Value} {k:IntKind} {n:Nat} (h0:P.underlying t0=some (.slice e)) (h1:P.underlying t1=some (.int k)) (hi:P.info? e=some i) (hzv:i.zero=some z)
  (hn:0<n) (hs:0<i.size) (hb:0<i.bytes) (hbig:n*i.bytes<=140737488355328):
  (Builtin.append_ ⟨[t0,t1]⟩ ty ⟨[.slice none 0 0, .int .i64 (.ofNat n)]⟩).run P w= .ok (.slice (some ⟨w.heap.size,0,none⟩) n (grownCap w n 0 e)) (w.drew.alloc (.cells (Builtin.zeroCells z.cells n++Builtin.zeroCells z.cells (grownCap w n 0 e- n)) e)):=by
 have hne:¬i.bytes=0:=by omega
 have hti:(typeInfo e).run P w= .ok i w:=by simp[typeInfo,program,Sem.run,hi,bind,Sem.bind,pure]
 have hti':(typeInfo e).run P w.drew= .ok i w.drew:=by simp[typeInfo,program,Sem.run,hi,bind,Sem.bind,pure]
 have hzr:(zeroValue e).run P w.drew= .ok z w.drew:=by simp[zeroValue,typeInfo,program,Sem.run,hi,bind,Sem.bind,pure,hzv]
 have hn2:n<=140737488355328:=Nat.le_trans (Nat.le_mul_of_pos_right n hb) hbig
 have hw:IntKind.i64.wrap (n:Int)=(n:Int):=by
  unfold IntKind.wrap;simp[IntKind.bits,IntKind.signed];omega
 have hneg:¬(n:Int)<0:=by omega
 have hl:¬281474976710656<(n:Int)*(i.bytes:Int):=by
  have:(n:Int)*(i.bytes:Int)=((n*i.bytes:Nat):Int):=by simp
  rw[this];omega
 have hcap:Builtin.nextslicecap n 0=n:=by unfold Builtin.nextslicecap;rw[if_pos (by omega)]
 have hnb:¬Builtin.nextslicecap n 0*i.bytes>2 ^ 48:=by rw[hcap];omega
 have hroomrun:∀k,(askRoom k).run P w.drew= .ok () w.drew:=λk=>by unfold askRoom;split<;>rfl
 have hns:¬n*i.size=0:=by have:=Nat.mul_pos hn hs;omega
 have hle:¬n<=0:=by omega
 have hn0:¬n=0:=by omega
 have his:¬i.size=0:=by omega
 have hnb':¬281474976710656<n*i.bytes:=by omega
 have hmax:¬((9223372036854775807:Int)<(n:Int)):=by omega
 simp only[Builtin.append_,List.getElem?_toArray,List.getElem?_cons_zero,List.getElem?_cons_succ,Sem.run_bind,run_underlying h0,Result.andThen,run_sizeOf hi,run_underlying h1]
 simp[Result.andThen,asInt,asIntOf,hn0,his,hcap,hnb',hw,hneg,hl,hti,hti',hne,hnb,hns,hle,hmax,Question.forced,hroomrun,hzr,newRow,newObj,Sem.run,grownCap,Builtin.firstCells]
 rfl
def q3m(P:Program) (h:T AO) (nx:Nat) (ts:List TypeId) (d x:AV):Option (AV×T AO×Nat):=
  match ts with
  | [t0,t1]=>match P.underlying t0,P.underlying t1 with
    | some (.slice e),some (.int _)=>match P.info? e with
      | some i=>match q1v P e,d,x with
        |some z, .nsl, .int .i64 (.ofNat n)=>if z.length=i.size/\0<i.size/\0<i.bytes/\0<n/\n*i.bytes<=140737488355328 then
            (match T.put 64 nx (some (.cells e (some 0) true (qiy z n))) h with|some h'=>some (.gsl nx 0 n i.size,h',nx+1)|none=>none)else none
        |_,_,_=>none
      |none=>none
    |_,_=>none
  |_=>none
variable {ts:List TypeId}
def qa7{P:Program} {h h':T AO} {nx nx':Nat} {d x r:AV} (e:q3m P h nx ts d x=some (r,h',nx')):nx<=nx':=by
 unfold q3m at e
 repeat' split at e
 all_goals (try (cases e;done))
 all_goals (simp only[Option.some.injEq,Prod.mk.injEq]at e;omega)
variable {F:Bool->Nat->Prop} {I:In} {w:World}
def qa8 {P:Program} {h h':T AO} (hs:Sim F I h w) (hF:∀b,F true b->b<w.heap.size) {nx nx':Nat} {ts:List TypeId} {ty:TypeId} {d x r:AV} {u v:Value} (e:q3m P h nx ts d x=some (r,h',nx')) (hfr:∀i,nx<=i->i<nx'->I i=none) (hd:VR I d u) (hx:VR I x v):
  ∃z I' w',(Builtin.append_ ⟨ts⟩ ty ⟨[u,v]⟩).run P w= .ok z w'/\VR I' r z/\Grow F I nx w I' nx' h' w':=by
 unfold q3m at e
 split at e
 ·rename_i t0 t1
  split at e
  ·rename_i el k h0 h1
   split at e
   ·rename_i i hi
    split at e
    ·rename_i z n hz
     split at e
     ·rename_i hc
      obtain⟨c1,c2,c3,c4,c5⟩:=hc
      split at e
      ·rename_i h2 hp
       cases e
       cases hd;cases hx
       obtain⟨zv,z1,z2⟩:=q6t hi hz
       obtain⟨zv',z3,z4⟩:=q26 hz (ext I nx (w.heap.size,0,grownCap w n 0 el*i.size))
       rw[c1]at z2
       have hzz:zv'=zv:=by
        have a1:=z3 w
        have a2:(zeroValue el).run P w= .ok zv w:=by simp[zeroValue,typeInfo,program,Sem.run,hi,bind,Sem.bind,pure,z1]
        rw[a2]at a1;cases a1;rfl
       subst hzz
       have zc:∀k,(Builtin.zeroCells zv'.cells k).size=k*i.size:=λk=>by rw[size_zeroCells,z2]
       have hrun:=q71 (P:=P) (w:=w) (ty:=ty) h0 h1 hi z1 c4 c2 c3 c5
       have hcap:=grownCap_ge w n 0 el
       have hor:OR (ext I nx (w.heap.size,0,grownCap w n 0 el*i.size)) (0,grownCap w n 0 el*i.size) (.cells el (some 0) true (qiy z n)) (.cells (Builtin.zeroCells zv'.cells n++Builtin.zeroCells zv'.cells (grownCap w n 0 el- n)) el):=by
        have hcells:(Builtin.zeroCells zv'.cells n++Builtin.zeroCells zv'.cells (grownCap w n 0 el- n))=⟨[]++(q1c zv'.cells.toList n++(Builtin.zeroCells zv'.cells (grownCap w n 0 el- n)).toList)⟩:=by
         apply Array.toList_inj.1
         have:=q27 zv'.cells n
         unfold Builtin.zeroCells
         rw[this];simp
        rw[hcells]
        refine .cells (pre:=[]) (q5e z4 n) (λh=>by cases h) rfl ?_ (λ_ _ o _ _=>by simp) (.inl rfl)
        have hzl:(Builtin.zeroCells zv'.cells (grownCap w n 0 el- n)).toList.length=(grownCap w n 0 el- n)*i.size:=by rw[Array.length_toList,zc]
        have hzr:(q1c zv'.cells.toList n).length=n*i.size:=by
         have a1:=congrArg Array.size (q27 zv'.cells n)
         have a2:=zc n
         unfold Builtin.zeroCells at a2
         rw[a1]at a2
         exact a2
        show(q1c zv'.cells.toList n++_).length=grownCap w n 0 el*i.size
        rw[List.length_append,hzl,hzr,←Nat.add_mul]
        congr 1;omega
       have hg:=hs.push' (hfr nx (Nat.le_refl _) (Nat.lt_succ_self _)) hF hp hor
       exact⟨_,_,_,hrun, .gsl (q07 _ _ _) hcap (by omega) (.inl rfl),hg⟩
      ·cases e
     ·cases e
    ·cases e
   ·cases e
  ·cases e
 ·cases e
def q1q(P:Program) (h:T AO) (nx:Nat) (ts:List TypeId) (d x:AV):Option (AV×T AO×Nat):=
 match q7y P h nx ts d x with
 |some r=>some r
 |none=>q3m P h nx ts d x
def q3a{P:Program} {h h':T AO} {nx nx':Nat} {d x r:AV} (e:q1q P h nx ts d x=some (r,h',nx')):nx<=nx':=by
 unfold q1q at e
 split at e
 ·rename_i q hq
  cases e
  unfold q7y at hq
  repeat' split at hq
  all_goals (try (cases hq;done))
  all_goals (simp only[Option.some.injEq,Prod.mk.injEq]at hq;omega)
 ·exact qa7 e
def q5g{P:Program} {h h':T AO} (hs:Sim F I h w) (hF:∀b,F true b->b<w.heap.size) {nx nx':Nat} {ts:List TypeId} {ty:TypeId} {d x r:AV} {u v:Value} (e:q1q P h nx ts d x=some (r,h',nx')) (hfr:∀i,nx<=i->i<nx'->I i=none) (hd:VR I d u) (hx:VR I x v):
  ∃z I' w',(Builtin.append_ ⟨ts⟩ ty ⟨[u,v]⟩).run P w= .ok z w'/\VR I' r z/\Grow F I nx w I' nx' h' w':=by
 unfold q1q at e
 split at e
 ·rename_i q hq
  cases e
  exact qck hs hF hq hfr hd hx
 ·exact qa8 hs hF e hfr hd hx
def qk7 (P:Program) (h:T AO) (ts:List TypeId) (d x:AV):Option (AV×T AO):=
  match ts with
  | t0 :: _=>match P.underlying t0 with
    | some (.slice e)=>match P.info? e with
      | some i=>match qp7 h i.size x with
        | some (n,l)=>match d with
          | .sl id off len _=>if n<=len then(match q77 h id off l with|some h'=>some (.int .i64 (.ofNat n),h')|none=>none)else none
          | .gsl _ _ _ _=>if n=0 then some (.int .i64 (.ofNat 0),h)else none
          |_=>none
        |none=>none
      |none=>none
    |_=>none
  | []=>none
def qh4 {P : Program} {h h':T AO} (hs:Sim F I h w) {ts:List TypeId} {ty:TypeId} {d x r:AV} {u v:Value} (e:qk7 P h ts d x=some (r,h')) (hd:VR I d u) (hx:VR I x v) (nx:Nat):
    ∃z w',(Builtin.copy_ ⟨ts⟩ ty ⟨[u,v]⟩).run P w= .ok z w'/\VR I r z/\Grow F I nx w I nx h' w':=by
  unfold qk7 at e
  split at e
  · rename_i t0 ts
    split at e
    · rename_i el hu
      split at e
      · rename_i i hi
        split at e
        · rename_i n l hl
          obtain⟨us,g1,g2,g3⟩:=qe7 (P:=P) hs hl hx
          obtain⟨g4,g5⟩:=g1 w rfl
          split at e
          · rename_i id off len cap
            split at e
            · rename_i hle
              split at e
              · rename_i h2 hw
                cases e
                cases hd with
                | sl hI=>
                  obtain⟨w',h1,h3⟩:=q5o (P:=P) hs hw hI g2 nx
                  refine⟨_,w',?_, .int .i64 (.ofNat n),h3⟩
                  unfold Builtin.copy_
                  simp[run_underlying hu,run_sizeOf hi,Result.andThen,g4,Nat.min_eq_left hle,g5,h1,goInt]
              · cases e
            · cases e
          · split at e
            · rename_i hn
              cases e
              subst hn
              have hus:us=[]:=by
                have:us.length=0:=by rw[g3];simp
                exact List.length_eq_zero_iff.1 this
              subst hus
              cases hd with
              | gsl hI k1 k2 k3=>
                refine⟨_,w,?_, .int .i64 (.ofNat 0),hs.grow nx⟩
                unfold Builtin.copy_
                simp[run_underlying hu,run_sizeOf hi,Result.andThen,g4,g5,goInt,storeCells]
            · cases e
          · cases e
        · cases e
      · cases e
    · cases e
  · cases e
def sop (P:Program) (t:T AV) (h:T AO) (nx:Nat) (o:Oper):Option (AV×T AO×Nat):=
  match o.op with
  | .store ty x y=>match ev t x,ev t y with
    |some (.ptr id off),some a=>(match q5n P h ty id off a with|some h'=>some (q0c,h',nx)|none=>none)
    |_,_=>none
  | .mapUpdate ty m k x| .insert ty m k x=>match ev t m,ev t k,ev t x with
    |some (.map id),some a,some b=>(match q85 P h ty id a b with|some h'=>some (q0c,h',nx)|none=>none)
    |_,_,_=>none
  | .mapEntry ty m k=>match ev t m,ev t k with
    |some (.map id),some a=>(match q5i P h ty id a with|some (v,h')=>some (v,h',nx)|none=>none)
    |_,_=>none
  | .entryStore ty m s x=>match ev t m,ev t s,ev t x with
    |some (.map id),some a,some b=>(match q3b h id a b with|some h'=>some (q0c,h',nx)|none=>none)
    |_,_,_=>none
  | .convert s d x=>match Nat.beq s d with
    | true=>match ev t x with
      |some a=>(match qkk P h s a with|some (v,h')=>some (v,h',nx)|none=>none)
      |none=>none
    |false=>none
  | .call c=>match c.callee with
    | .builtin .append=>match evs t c.args.toList with
      |some [d,x]=>q1q P h nx c.argTypes.toList d x
      |_=>none
    | .builtin .copy=>match evs t c.args.toList with
      | some [d,x]=>match qk7 P h c.argTypes.toList d x with
        |some (v,h')=>some (v,h',nx)
        |none=>none
      |_=>none
    | .builtin .unsafeString=>match evs t c.args.toList with
      | some l=>match qkl P h c.argTypes.toList l with
        |some (v,h')=>some (v,h',nx)
        |none=>none
      |none=>none
    |_=>none
  |_=>none
def qk1{a b:AV} {vs:List Value} (h:VRs I [a,b] vs):∃v u,vs=[v,u]/\VR I a v/\VR I b u:=by
 cases h with|cons h t=>obtain⟨u,rfl,h2⟩:=qdc t;exact⟨_,_,rfl,h,h2⟩
def qjy{P:Program} {t:T AV} {h h':T AO} {a:Act} {o:Oper} {nx nx':Nat} {r:AV} (e:sop P t h nx o=some (r,h',nx')) (ht:TR I t a.tmps) (hs:Sim F I h w) (hF:∀b,F true b->b<w.heap.size) (hfr:∀i,nx<=i->i<nx'->I i=none):
    nx<=nx'/\qj1 P F I nx w (execOp a.eval o) r h' nx':=by
  obtain⟨dst,op,ty,pos,after,guard⟩:=o
  have mapUp:∀(lt:TypeId) (m k x:Operand),(match ev t m,ev t k,ev t x with
    |some (.map id),some a,some b=>(match q85 P h lt id a b with|some h'=>some (q0c,h',nx)|none=>none)
    |_,_,_=>none)=some (r,h',nx')->nx<=nx'/\qj1 P F I nx w (do Instr.mapUpdate lt (a.eval m) (a.eval k) (a.eval x);pure Next.skip) r h' nx':=λlt m k x e=>by
    split at e
    · rename_i hm hk hx
      split at e
      · rename_i h2 hp
        cases e
        have h1:=q00 ht hm
        generalize hv:a.eval m=v at h1
        cases h1 with
        | map hI=>
          obtain⟨w',g1,g2⟩:=qcn (P:=P) hs hp hI (q00 ht hk) (q00 ht hx) nx
          exact⟨Nat.le_refl _,_,_,I,w',by simp[g1,Result.andThen], .inr ⟨rfl,rfl⟩,q0d I,g2⟩
      · cases e
    · cases e
  cases op with
  | store st x y=>
    simp only[sop]at e
    split at e
    · rename_i id off v hx hy
      split at e
      · rename_i h2 hp
        cases e
        have h1:=q00 ht hx
        generalize hv:a.eval x=xv at h1
        cases h1 with
        | ptr hI=>
          obtain⟨w',g1,g2⟩:=q97 (P:=P) hs hp hI (q00 ht hy) nx
          exact⟨Nat.le_refl _,_,_,I,w',by simp[execOp,Instr.storeAt,hv,Instr.sureAddr,g1,Result.andThen], .inr ⟨rfl,rfl⟩,q0d I,g2⟩
      · cases e
    · cases e
  |mapUpdate mt m k x=>exact mapUp mt m k x e
  |insert mt m k x=>exact mapUp mt m k x e
  | mapEntry mt m k=>
    simp only[sop]at e
    split at e
    · rename_i id v hm hk
      split at e
      · rename_i v2 h2 hp
        cases e
        have h1:=q00 ht hm
        generalize hv:a.eval m=mv at h1
        cases h1 with
        | map hI=>
          obtain⟨z,w',g1,g2,g3⟩:=q95 (P:=P) hs hp hI (q00 ht hk) nx
          exact⟨Nat.le_refl _,_,z,I,w',by simp[execOp,hv,g1,Result.andThen], .inl rfl,g2,g3⟩
      · cases e
    · cases e
  | entryStore mt m s x=>
    simp only[sop]at e
    split at e
    · rename_i id v1 v2 hm hk hx
      split at e
      · rename_i h2 hp
        cases e
        have h1:=q00 ht hm
        generalize hv:a.eval m=mv at h1
        cases h1 with
        | map hI=>
          obtain⟨w',g1,g2⟩:=q70 (P:=P) (t:=mt) hs hp hI (q00 ht hk) (q00 ht hx) nx
          exact⟨Nat.le_refl _,_,_,I,w',by simp[execOp,hv,g1,Result.andThen], .inr ⟨rfl,rfl⟩,q0d I,g2⟩
      · cases e
    · cases e
  | convert s d x=>
    simp only[sop]at e
    split at e
    · rename_i hsd
      have:=Nat.eq_of_beq_eq_true hsd;subst this
      split at e
      · rename_i av hx
        split at e
        · rename_i v0 h2 hp
          cases e
          obtain⟨z,w',g1,g2,g3⟩:=qh7 (P:=P) hs hp (q00 ht hx) nx
          exact⟨Nat.le_refl _,_,z,I,w',by simp[execOp,g1,Result.andThen], .inl rfl,g2,g3⟩
        · cases e
      · cases e
    · cases e
  | call c=>
    simp only[sop]at e
    split at e
    · rename_i hb
      split at e
      · rename_i d x hargs
        have hr:=q19 ht hargs
        obtain⟨v,u,hv,h1,h2⟩:=qk1 hr
        have hnx:nx<=nx':=q3a e
        obtain⟨z,I',w',g1,g2,g3⟩:=q5g (P:=P) (ty:=ty) hs hF e hfr h1 h2
        refine⟨hnx,_,z,I',w',?_, .inl rfl,g2,g3⟩
        have e2:c.args.map a.eval=⟨[v,u]⟩:=by apply Array.toList_inj.1;simpa using hv
        simp only[execOp,resolve,hb,Sem.run_bind,Sem.run_pure,Result.andThen,invoke,builtin]
        rw[e2]
        simp[g1]
      · cases e
    · rename_i hb
      split at e
      · rename_i d x hargs
        split at e
        · rename_i v0 h2 hp
          cases e
          have hr:=q19 ht hargs
          obtain⟨v,u,hv,h1,h3⟩:=qk1 hr
          obtain⟨z,w',g1,g2,g3⟩:=qh4 (P:=P) (ty:=ty) hs hp h1 h3 nx
          refine⟨Nat.le_refl _,_,z,I,w',?_, .inl rfl,g2,g3⟩
          have e2:c.args.map a.eval=⟨[v,u]⟩:=by apply Array.toList_inj.1;simpa using hv
          have e3:(⟨c.argTypes.toList⟩:Array TypeId)=c.argTypes:=rfl
          rw[e3]at g1
          simp only[execOp,resolve,hb,Sem.run_bind,Sem.run_pure,Result.andThen,invoke,builtin]
          rw[e2]
          simp[g1,Result.andThen]
        · cases e
      · cases e
    · rename_i hb
      split at e
      · rename_i l hargs
        split at e
        · rename_i v0 h2 hp
          cases e
          obtain⟨z,w',g1,g2,g3⟩:=qh9 (P:=P) (ty:=ty) hs hp (q19 ht hargs) nx
          refine⟨Nat.le_refl _,_,z,I,w',?_, .inl rfl,g2,g3⟩
          have e2:(⟨c.args.toList.map a.eval⟩:Array Value)=c.args.map a.eval:=by apply Array.toList_inj.1;simp
          rw[e2]at g1
          have e3:(⟨c.argTypes.toList⟩:Array TypeId)=c.argTypes:=rfl
          rw[e3]at g1
          simp only[execOp,resolve,hb,Sem.run_bind,Sem.run_pure,Result.andThen,invoke,builtin]
          simp[g1,Result.andThen]
        · cases e
      · cases e
    · cases e
  |_=>simp[sop]at e
abbrev q03:=Nat->List AV->T AO->Nat->Option (AV×T AO×Nat)
abbrev q14:=Nat->List AV->Option AV
def GOK(gl:T AV) (I:In):Prop:=∀n a,gl.get n=some a->q10<=n/\VR I a (.pointer (some ⟨n- q10,0,none⟩))
def GOK.mono{I J:In} (hl:I.le J) (h:GOK gl I):GOK gl J:=λn a e=>⟨(h n a e).1,(h n a e).2.mono hl⟩
structure St(gl:T AV) (F:Bool->Nat->Prop) (I:In) (t:T AV) (h:T AO) (n:Nat) (a:Act) (w:World):Prop where
 tr:TR I t a.tmps
 size:a.tmps.size=n
 defers:a.defers=[]
 sim:Sim F I h w
 low:∀b,F true b->b<w.heap.size
 gok:GOK gl I
 zf:∀b,F false b->F true b
def q0g(I:In) (nx nx':Nat):Prop:=∀i,nx<=i->i<nx'->I i=none
def hasB(P:Program) (f:Nat):Bool:=match P.funcs[f]? with
 |some fn=>fn.body.isSome
 |none=>false
def qms(gl:T AV) (P:Program) (f:Nat) (args:List AV) (h:T AO) (nx:Nat) (r:AV) (h':T AO) (nx':Nat):Prop:=nx<=nx'/\(∀args w,(callFunc f args).run P w= .ok (.enter f args) w)/\
 ∀ (F:Bool->Nat->Prop) (I:In) (w:World) (vs:List Value),VRs I args vs->Sim F I h w->(∀b,F true b->b<w.heap.size)->GOK gl I->(∀b,F false b->F true b)->q0g I nx nx'->
  Calls P f ⟨vs⟩ w λe w'=>∃z I',e= .returned z/\VR I' r z/\Grow F I nx w I' nx' h' w'
def qpz(P:Program) (f:Nat) (args:List AV) (h:T AO) (nx:Nat) (r:AV) (h':T AO) (nx':Nat):Prop:=nx<=nx'/\hasB P f=false/\
 ∀ (F:Bool->Nat->Prop) (I:In) (w:World) (vs:List Value),VRs I args vs->Sim F I h w->(∀b,F true b->b<w.heap.size)->q0g I nx nx'->
  ∃z I' w',(callFunc f ⟨vs⟩).run P w= .ok (.value z) w'/\VR I' r z/\Grow F I nx w I' nx' h' w'
def q11(gl:T AV) (P:Program) (call:q03):Prop:=∀f args h nx r h' nx',call f args h nx=some (r,h',nx')->qms gl P f args h nx r h' nx'\/qpz P f args h nx r h' nx'
def q11.enter{gl:T AV} {P:Program} {call:q03} (hc:q11 gl P call) {f args h nx r h' nx'} (hb:hasB P f=true) (e:call f args h nx=some (r,h',nx')):qms gl P f args h nx r h' nx':=by
 rcases hc _ _ _ _ _ _ _ e with k|k
 ·exact k
 ·rw[k.2.1]at hb;cases hb
def q4t(P:Program) (ext:q14):Prop:=∀f l r,ext f l=some r->∀I vs,VRs I l vs->qdm P (callFunc f ⟨vs⟩) I r
def q6w(n:Nat) (dst:Option Tmp) (v:AV) (t:T AV):Option (T AV):=
 match dst with
 |none=>some t
 |some d=>if d<n then(if d<q10 then T.put 64 d (some v) t else none)else none
variable {I:In} {a:Act}
def q6l {n:Nat} {dst:Option Tmp} {v:AV} {t t':T AV} {z:Value} (e:q6w n dst v t=some t') (ht:TR I t a.tmps) (hn:a.tmps.size=n) (hv:VR I v z):TR I t' (a.put dst z).tmps/\(a.put dst z).tmps.size=n/\(a.put dst z).defers=a.defers:=by
  unfold q6w at e
  cases dst with
  |none=>cases e;exact⟨ht,hn,rfl⟩
  | some d=>
    simp only at e
    split at e
    · rename_i hd
      split at e
      · rename_i hdg
        have hg:=T.get_put _ _ _ _ _ e
        refine⟨λk b hk=> ?_,by simp[Act.put,hn],rfl⟩
        rw[hg]at hk
        simp only[Act.put]
        split at hk
        · rename_i hkd;subst hkd;cases hk
          have:(a.tmps.setIfInBounds k z).getD k undef=z:=by
            rw[Array.getD_eq_getD_getElem?,Array.getElem?_setIfInBounds_self_of_lt (by rw[hn];exact hd)];rfl
          rw[q1e hdg,this];exact hv
        · rename_i hkd
          have h1:=ht k b hk
          unfold slot at h1⊢
          split
          · rename_i hkg
            rw[if_pos hkg]at h1
            have:(a.tmps.setIfInBounds d z).getD k undef=a.tmps.getD k undef:=by
              rw[Array.getD_eq_getD_getElem?,Array.getElem?_setIfInBounds_ne (by omega),←Array.getD_eq_getD_getElem?]
            rw[this];exact h1
          · rename_i hkg
            rw[if_neg hkg]at h1;exact h1
      · cases e
    · cases e
def q21(t:T AV) (ops:Array Oper) (o:Oper):Option Bool:=
  match o.guard with
  |none=>some true
  | some (j,want)=>match ops.toList[j]? with
    | some oj=>match oj.dst with
      | some d=>if d<q10 then(match t.get d with
        |some (.bool b)=>some (b==want)
        |some (.sv _)=>none
        |some _=>some false
        |none=>none)else none
      |none=>none
    |none=>none
variable {t:T AV} {o:Oper}
def q3z {ops:Array Oper} {b:Bool} (e:q21 t ops o=some b) (ht:TR I t a.tmps):Region.wanted o (yielded ops a.tmps)=b:=by
  unfold q21 at e
  unfold Region.wanted
  split at e
  · rename_i hg;cases e;rw[hg]
  · rename_i j want hg
    rw[hg]
    split at e
    · rename_i oj hj
      have hj':ops[j]? =some oj:=by simpa using hj
      split at e
      · rename_i d hd
        have hy:yielded ops a.tmps j=match a.tmps[d]? with|some (.bool b)=>some b|_=>none:=by
          unfold yielded;rw[hj'];simp only[Option.bind_some,hd];rfl
        simp only
        rw[hy]
        split at e
        case isFalse=>cases e
        rename_i hdg
        have hr:=ht d
        rw[q1e hdg,Array.getD_eq_getD_getElem?]at hr
        split at e
        · rename_i c hc
          cases e
          have h1:=hr _ hc
          cases hx:a.tmps[d]? with
          |none=>rw[hx]at h1;cases h1
          |some v=>rw[hx]at h1;simp only[Option.getD_some]at h1;cases h1;cases c<;>cases want<;>rfl
        · cases e
        · rename_i av hc hsv hav
          cases e
          have h1:=hr _ hav
          cases hx:a.tmps[d]? with
          |none=>rfl
          | some v=>
            rw[hx]at h1
            simp only[Option.getD_some]at h1
            cases v with
            | bool bb=>cases h1 with
              |bool=>exact absurd rfl (hc _)
              |sv=>exact absurd rfl (hsv _)
            |_=>rfl
        · cases e
      · cases e
    · cases e
def q1l(t:T AV) (o:Oper):Option (Nat×List AV):=
  match o.op with
  | .call c=>match c.callee with
    | .value f=>match ev t f,evs t c.args.toList with
      |some (.fn g caps),some l=>some (g,l++caps)
      |some (.bfn g first caps),some l=>some (g,first++(l++caps))
      |_,_=>none
    |_=>none
  |_=>none
def q1y{P:Program} {g:Nat} {l:List AV} (e:q1l t o=some (g,l)) (ht:TR I t a.tmps):∃vs,VRs I l vs/\∀w,(execOp a.eval o).run P w=(callFunc g ⟨vs⟩).run P w:=by
  obtain⟨dst,op,ty,pos,after,guard⟩:=o
  cases op with
  | call c=>
    simp only[q1l]at e
    split at e
    · rename_i f hc
      split at e
      · rename_i g caps l0 h1 h2
        cases e
        have r1:=q00 ht h1
        have r2:=q19 ht h2
        generalize hv:a.eval f=fv at r1
        cases r1 with
        | @fn _ _ cs hcs=>
          refine⟨c.args.toList.map a.eval++cs,r2.append hcs,λw=> ?_⟩
          simp only[execOp,resolve,hc,hv,Deferred.ofValue,Sem.run_bind,Sem.run_pure,Result.andThen,invoke]
          congr 2
          apply Array.toList_inj.1
          simp
      · rename_i g first caps l0 h1 h2
        cases e
        have r1:=q00 ht h1
        have r2:=q19 ht h2
        generalize hv:a.eval f=fv at r1
        cases r1 with
        | @bfn _ _ _ fs cs hfs hcs=>
          refine⟨fs++(c.args.toList.map a.eval++cs),hfs.append (r2.append hcs),λw=> ?_⟩
          simp only[execOp,resolve,hc,hv,Deferred.ofValue,Sem.run_bind,Sem.run_pure,Result.andThen,invoke]
          congr 2
          apply Array.toList_inj.1
          simp
      · cases e
    · cases e
  |_=>simp[q1l]at e
def keep(h:T AO) (nx:Nat):Option AV->Option (AV×T AO×Nat)
 |some v=>some (v,h,nx)
 |none=>none
def made(h:T AO) (nx:Nat):Option (AV×AO)->Option (AV×T AO×Nat)
  | some (v,ob)=>match T.put 64 nx (some ob) h with
    |some h'=>some (v,h',nx+1)
    |none=>none
  |none=>none
def first(a b:Option (AV×T AO×Nat)):Option (AV×T AO×Nat):=
 match a with
 |some r=>some r
 |none=>b
def called(call:q03) (ext:q14) (h:T AO) (nx:Nat):Option (Nat×List AV)->Option (AV×T AO×Nat)
  | some (g,l)=>match ext g l with
    |some r=>some (r,h,nx)
    |none=>call g l h nx
  |none=>none
def qmx(P:Program) (call:q03) (ext:q14) (t:T AV) (h:T AO) (nx:Nat) (o:Oper):Option (AV×T AO×Nat):=
  match o.op with
  | .load .. | .lookup .. =>keep h nx (rop P t h o)
  | .alloc _| .box .. | .buildSlice .. | .makeMap .. | .makeSlice .. =>made h nx (aop P t nx o)
  | .store .. | .mapUpdate .. | .insert .. | .mapEntry .. | .entryStore .. =>sop P t h nx o
  | .convert s d _=>first (keep h nx (qop P t o)) (first (keep h nx (rop P t h o)) (match Nat.beq s d with|true=>sop P t h nx o|false=>made h nx (aop P t nx o)))
  | .call c=>match c.callee with
    | .builtin .append=>sop P t h nx o
    | .builtin .copy=>sop P t h nx o
    | .builtin .unsafeString=>sop P t h nx o
    | .builtin .len=>first (keep h nx (qop P t o)) (keep h nx (rop P t h o))
    | .builtin _=>keep h nx (qop P t o)
    |_=>called call ext h nx (q1l t o)
  |_=>keep h nx (qop P t o)
def q7v(gl:T AV) (P:Program) (t:T AV) (h:T AO) (nx:Nat) (o:Oper) (r:AV) (h':T AO) (nx':Nat):Prop:=
 nx<=nx'/\∀(F:Bool->Nat->Prop) (I:In) (n:Nat) (a:Act) (w:World),St gl F I t h n a w->q0g I nx nx'->∀(K:Act->World->Prop) (Q:Exit->Act->World->Prop),
  (∀z I' w',VR I' r z->Grow F I nx w I' nx' h' w'->K (a.put o.dst z) w')->o.wp P a w K Q
variable {t:T AV} {h:T AO} {nx:Nat} {o:Oper} {r:AV} {h':T AO} {nx':Nat}
def qfc{P:Program} (e:keep h nx (qop P t o)=some (r,h',nx')):q7v gl P t h nx o r h' nx':=by
  cases hq:qop P t o with
  |none=>rw[hq]at e;cases e
  | some v=>
    rw[hq]at e;cases e
    refine⟨Nat.le_refl _,λF I n a w st fr K Q hk=> ?_⟩
    obtain⟨z,h1,h2⟩:=qc9 hq st.tr
    unfold Oper.wp
    rw[h1 w]
    exact hk z I w h2 (st.sim.grow nx)
def qfd{P:Program} (e:keep h nx (rop P t h o)=some (r,h',nx')):q7v gl P t h nx o r h' nx':=by
  cases hq:rop P t h o with
  |none=>rw[hq]at e;cases e
  | some v=>
    rw[hq]at e;cases e
    refine⟨Nat.le_refl _,λF I n a w st fr K Q hk=> ?_⟩
    obtain⟨z,h1,h2⟩:=q9s hq st.tr st.sim
    unfold Oper.wp
    rw[h1]
    exact hk z I w h2 (st.sim.grow nx)
def qax{P:Program} (e:made h nx (aop P t nx o)=some (r,h',nx')):q7v gl P t h nx o r h' nx':=by
  cases hq:aop P t nx o with
  |none=>rw[hq]at e;cases e
  | some v=>
    obtain⟨v,ob⟩:=v
    rw[hq]at e
    simp only[made]at e
    split at e
    · rename_i h2 hp
      cases e
      refine⟨Nat.le_succ _,λF I n a w st fr K Q hk=> ?_⟩
      obtain⟨z,obj,tot,w',g1,g2,g3,g4⟩:=qe4 hq st.tr w
      have hI:=fr nx (Nat.le_refl _) (Nat.lt_succ_self _)
      obtain⟨k1,k2⟩:=g4 (ext I nx (w.heap.size,tot)) (q1m _ hI) (q07 _ _ _)
      unfold Oper.wp
      rw[g1]
      exact hk z _ w' k1 (st.sim.push hI st.low hp g2 k2 g3)
    · cases e
def q6z {P:Program} (e:sop P t h nx o=some (r,h',nx')):q7v gl P t h nx o r h' nx':=by
 have hle:nx<=nx'/\True:=by
  obtain⟨dst,op,ty,pos,after,guard⟩:=o
  refine⟨?_,trivial⟩
  unfold sop at e
  simp only at e
  split at e
  all_goals (try (cases e;done))
  case h_6=>
   split at e
   ·split at e
    ·split at e
     ·cases e;exact Nat.le_refl _
     ·cases e
    ·cases e
   ·cases e
  case h_7=>
   split at e
   ·split at e
    ·exact q3a e
    ·cases e
   ·split at e
    ·split at e
     ·cases e;exact Nat.le_refl _
     ·cases e
    ·cases e
   ·split at e
    ·split at e
     ·cases e;exact Nat.le_refl _
     ·cases e
    ·cases e
   ·cases e
  all_goals
   split at e
   ·split at e
    ·cases e;exact Nat.le_refl _
    ·cases e
   ·cases e
 refine⟨hle.1,λF I n a w st fr K Q hk=> ?_⟩
 obtain⟨_,nn,z,I',w',g1,g2,g3,g4⟩:=qjy e st.tr st.sim st.low fr
 unfold Oper.wp
 rw[g1]
 rcases g2 with rfl|⟨rfl,rfl⟩
 ·exact hk z I' w' g3 g4
 ·exact hk undef I' w' g3 g4
variable {call:q03}
def qr6{P:Program} {ext:q14} (hc:q11 gl P call) (he:q4t P ext) {t:T AV} {h:T AO} {nx:Nat} {o:Oper} {r:AV} {h':T AO} {nx':Nat} (e:called call ext h nx (q1l t o)=some (r,h',nx')):q7v gl P t h nx o r h' nx':=by
  cases hq:q1l t o with
  |none=>rw[hq]at e;cases e
  | some v=>
    obtain⟨g,l⟩:=v
    rw[hq]at e
    simp only[called]at e
    split at e
    · rename_i v hx
      cases e
      refine⟨Nat.le_refl _,λF I n a w st fr K Q hk=> ?_⟩
      obtain⟨vs,g1,g2⟩:=q1y (P:=P) hq st.tr
      obtain⟨z,h1,h2⟩:=he _ _ _ hx I vs g1
      unfold Oper.wp
      rw[g2 w,h1 w]
      exact hk z I w h2 (st.sim.grow nx)
    · rcases hc _ _ _ _ _ _ _ e with⟨c1,c2,c3⟩|⟨c1,_,c3⟩
      · refine⟨c1,λF I n a w st fr K Q hk=> ?_⟩
        obtain⟨vs,g1,g2⟩:=q1y (P:=P) hq st.tr
        unfold Oper.wp
        rw[g2 w,c2]
        refine(c3 F I w vs g1 st.sim st.low st.gok st.zf fr).mono λe w' he=> ?_
        obtain⟨z,I',rfl,k1,k2⟩:=he
        exact hk z I' w' k1 k2
      · refine⟨c1,λF I n a w st fr K Q hk=> ?_⟩
        obtain⟨vs,g1,g2⟩:=q1y (P:=P) hq st.tr
        obtain⟨z,I',w',g3,k1,k2⟩:=c3 F I w vs g1 st.sim st.low fr
        unfold Oper.wp
        rw[g2 w,g3]
        exact hk z I' w' k1 k2
def q8e{a b:Option (AV×T AO×Nat)} {x} (h:first a b=some x):a=some x\/b=some x:=by
 unfold first at h
 split at h
 ·cases h;exact .inl rfl
 ·exact .inr h
def qk8{P:Program} {ext:q14} (hc:q11 gl P call) (he:q4t P ext) {t:T AV} {h:T AO} {nx:Nat} {o:Oper} {r:AV} {h':T AO} {nx':Nat} (e:qmx P call ext t h nx o=some (r,h',nx')):q7v gl P t h nx o r h' nx':=by
 unfold qmx at e
 split at e
 ·exact qfd e
 ·exact qfd e
 ·exact qax e
 ·exact qax e
 ·exact qax e
 ·exact qax e
 ·exact qax e
 ·exact q6z e
 ·exact q6z e
 ·exact q6z e
 ·exact q6z e
 ·exact q6z e
 ·rcases q8e e with e|e
  ·exact qfc e
  ·rcases q8e e with e|e
   ·exact qfd e
   ·split at e
    ·exact q6z e
    ·exact qax e
 ·split at e
  ·exact q6z e
  ·exact q6z e
  ·exact q6z e
  ·rcases q8e e with e|e
   ·exact qfc e
   ·exact qfd e
  ·exact qfc e
  ·exact qr6 hc he e
 ·exact qfc e
def op1(P:Program) (call:q03) (ext:q14) (n:Nat) (ops:Array Oper) (t:T AV) (h:T AO) (nx:Nat) (o:Oper):Option (T AV×T AO×Nat):=
  match q21 t ops o with
  | some true=>match qmx P call ext t h nx o with
    | some (v,h',nx')=>match q6w n o.dst v t with
      |some t'=>some (t',h',nx')
      |none=>none
    |none=>none
  | some false=>match q6w n o.dst q0c t with
    |some t'=>some (t',h,nx)
    |none=>none
  |none=>none
def q0g.of_grow{F I nx w I' nx' h' w' m} (g:Grow F I nx w I' nx' h' w') (hle:nx<=nx') (fr:q0g I nx m):q0g I' nx' m:=λi h1 h2=>by
  cases hi:I' i with
  |none=>rfl
  | some x=>
    rcases g.new i x hi with h|h
    · rw[fr i (by omega) h2]at h;cases h
    · omega
def q0g.sub{I:In} {a b c d:Nat} (h:q0g I a d) (h1:a<=b) (h2:c<=d):q0g I b c:=λi g1 g2=>h i (by omega) (by omega)
def Act.put_size(a:Act) (d:Option Tmp) (v:Value):(a.put d v).tmps.size=a.tmps.size:=by cases d<;>simp[Act.put]
def qoh{P:Program} {ext:q14} (hc:q11 gl P call) (he:q4t P ext) {n:Nat} {ops:Array Oper} {t t':T AV} {h h':T AO} {nx nx' i:Nat} {o:Oper} (ho:ops[i]? =some o) (e:op1 P call ext n ops t h nx o=some (t',h',nx')):
  nx<=nx'/\∀(F:Bool->Nat->Prop) (I:In) (a:Act) (w:World),St gl F I t h n a w->q0g I nx nx'->∀(K:Act->World->Prop) (Q:Exit->Act->World->Prop),
   (∀a' I' w',St gl F I' t' h' n a' w'->Grow F I nx w I' nx' h' w'->K a' w')->wpOp P ops Q i K a w:=by
 unfold op1 at e
 split at e
 ·rename_i hg
  split at e
  ·rename_i v h2 nx2 ha
   split at e
   ·rename_i t2 hp
    cases e
    obtain⟨k1,k2⟩:=qk8 hc he ha
    refine⟨k1,λF I a w st fr K Q hk=> ?_⟩
    unfold wpOp
    simp only[ho,q3z hg st.tr,if_true]
    refine .inl (k2 F I n a w st fr K Q λz I' w' hz hgr=> ?_)
    obtain⟨p1,p2,p3⟩:=q6l (z:=z) hp (st.tr.mono hgr.le) st.size hz
    exact hk _ I' w' ⟨p1,p2,p3.trans st.defers,hgr.sim,λb hb=>Nat.lt_of_lt_of_le (st.low b hb) hgr.size,st.gok.mono hgr.le,st.zf⟩ hgr
   ·cases e
  ·cases e
 ·rename_i hg
  split at e
  ·rename_i t2 hp
   cases e
   refine⟨Nat.le_refl _,λF I a w st fr K Q hk=> ?_⟩
   unfold wpOp
   simp only[ho,q3z hg st.tr,Bool.false_eq_true,if_false]
   obtain⟨p1,p2,p3⟩:=q6l (z:=undef) hp st.tr st.size (q0d I)
   exact hk _ I w ⟨p1,p2,p3.trans st.defers,st.sim,st.low,st.gok,st.zf⟩ (st.sim.grow nx)
  ·cases e
 ·cases e
def qi7(P:Program) (call:q03) (ext:q14) (n:Nat) (ops:Array Oper):List Nat->T AV->T AO->Nat->Option (T AV×T AO×Nat)
  | [],t,h,nx=>some (t,h,nx)
  | i ::l,t,h,nx=>match nth ops.toList i with
    | some o=>match op1 P call ext n ops t h nx o with
      |some (t',h',nx')=>qi7 P call ext n ops l t' h' nx'
      |none=>none
    |none=>none
def qfw{P:Program} {call:q03} {ext:q14} (hc:q11 gl P call) (he:q4t P ext) {n:Nat} {ops:Array Oper}:∀(l:List Nat) {t t':T AV} {h h':T AO} {nx nx':Nat},qi7 P call ext n ops l t h nx=some (t',h',nx')->
    nx<=nx'/\∀(F:Bool->Nat->Prop) (I:In) (a:Act) (w:World),St gl F I t h n a w->q0g I nx nx'->∀(Q:Exit->Act->World->Prop),
      (∀a' I' w',St gl F I' t' h' n a' w'->Grow F I nx w I' nx' h' w'->Q .normal a' w')->wpOps P ops Q l a w
  | [],t,t',h,h',nx,nx',e=>by
    simp only[qi7,Option.some.injEq,Prod.mk.injEq]at e
    obtain⟨rfl,rfl,rfl⟩:=e
    exact⟨Nat.le_refl _,λF I a w st fr Q hk=>hk a I w st (st.sim.grow nx)⟩
  | i ::l,t,t',h,h',nx,nx',e=>by
    simp only[qi7]at e
    split at e
    · rename_i o ho
      split at e
      · rename_i t1 h1 nx1 h1e
        have ho':ops[i]? =some o:=by rw[q0f]at ho;simpa using ho
        obtain⟨k1,k2⟩:=qoh hc he ho' h1e
        obtain⟨q1,q2⟩:=qfw hc he l e
        refine⟨Nat.le_trans k1 q1,λF I a w st fr Q hk=> ?_⟩
        rw[wpOps_cons]
        refine k2 F I a w st (fr.sub (Nat.le_refl _) q1) _ Q λa' I' w' st' g'=> ?_
        refine q2 F I' a' w' st' (q0g.of_grow g' k1 fr) Q λa'' I'' w'' st'' g''=> ?_
        exact hk a'' I'' w'' st'' (g'.trans g'' k1 q1)
      · cases e
    · cases e
inductive AX where
 |nrm
 |ex (id:Nat)
 |rt
def AX.is:AX->Exit->Prop
 | .nrm, .normal=>True
 | .ex i, .exit j=>i=j
 | .rt, .ret=>True
 |_,_=>False
abbrev qgr:=Array Oper->T AV->T AO->Nat->Option (T AV×T AO×Nat)
def qmw(gl:T AV) (P:Program) (n:Nat) (reg:qgr):Prop:=∀ops t h nx t' h' nx',reg ops t h nx=some (t',h',nx')->
  nx<=nx'/\∀(F:Bool->Nat->Prop) (I:In) (a:Act) (w:World),St gl F I t h n a w->q0g I nx nx'->∀(Q:Exit->Act->World->Prop),
   (∀a' I' w',St gl F I' t' h' n a' w'->Grow F I nx w I' nx' h' w'->Q .normal a' w')->∀id,(Code.region id ops true).wp P Q a w
def exec(P:Program) (call:q03) (ext:q14) (reg:qgr) (n:Nat):Nat->Code->T AV->T AO->Nat->Option (AX×T AV×T AO×Nat)
  |0,_,_,_,_=>none
  | f + 1,c,t,h,nx=>match c with
    | .skip=>some (.nrm,t,h,nx)
    | .region _ ops draw=>match draw with
      | false=>match qi7 P call ext n ops (List.range ops.size) t h nx with
        |some (t',h',nx')=>some (.nrm,t',h',nx')
        |none=>none
      | true=>match reg ops t h nx with
        |some (t',h',nx')=>some (.nrm,t',h',nx')
        |none=>none
    | .seq x y=>match exec P call ext reg n f x t h nx with
      |some (.nrm,t',h',nx')=>exec P call ext reg n f y t' h' nx'
      |r=>r
    | .cond x a b=>match ev t x with
      |some (.bool true)=>exec P call ext reg n f a t h nx
      |some (.bool false)=>exec P call ext reg n f b t h nx
      |_=>none
    | .block id c=>match exec P call ext reg n f c t h nx with
      |some (.ex j,r)=>if j=id then some (.nrm,r)else some (.ex j,r)
      |r=>r
    | .loop c=>match exec P call ext reg n f c t h nx with
      |some (.nrm,t',h',nx')=>exec P call ext reg n f (.loop c) t' h' nx'
      |r=>r
    | .exit id=>some (.ex id,t,h,nx)
    | .label _=>some (.nrm,t,h,nx)
    | .ret=>some (.rt,t,h,nx)
    |_=>none
def qiz(gl:T AV) (P:Program) (n:Nat) (c:Code) (t:T AV) (h:T AO) (nx:Nat) (x:AX) (t':T AV) (h':T AO) (nx':Nat):Prop:=
 nx<=nx'/\∀(F:Bool->Nat->Prop) (I:In) (a:Act) (w:World),St gl F I t h n a w->q0g I nx nx'->∀(Q:Exit->Act->World->Prop),
  (∀e a' I' w',x.is e->St gl F I' t' h' n a' w'->Grow F I nx w I' nx' h' w'->Q e a' w')->c.wp P Q a w
def ql3 {P:Program} {call:q03} {ext:q14} {reg:qgr} {n:Nat} (hc:q11 gl P call) (he:q4t P ext) (hr:qmw gl P n reg):∀(f:Nat) (c:Code) (t:T AV) (h:T AO) (nx:Nat) (x:AX) (t':T AV) (h':T AO) (nx':Nat),exec P call ext reg n f c t h nx=some (x,t',h',nx')->qiz gl P n c t h nx x t' h' nx':=by
  intro f
  induction f using Nat.strongRecOn with
  | _ f ih=>
    intro c t h nx x t' h' nx' e
    cases f with
    |zero=>cases e
    | succ f=>
      have ih1:=ih f (Nat.lt_succ_self f)
      have stay:∀{c:Code} {x:AX},(∀(Q:Exit->Act->World->Prop) a w,(∀e,x.is e->Q e a w)->c.wp P Q a w)->qiz gl P n c t h nx x t h nx:=λhx=>
        ⟨Nat.le_refl _,λF I a w st fr Q hq=>hx Q a w λe h1=>hq e a I w h1 st (st.sim.grow nx)⟩
      cases c with
      |skip=>simp only[exec,Option.some.injEq,Prod.mk.injEq]at e;obtain⟨rfl,rfl,rfl,rfl⟩:=e;exact stay λQ a w hq=>wp_skip (hq _ trivial)
      |label l=>simp only[exec,Option.some.injEq,Prod.mk.injEq]at e;obtain⟨rfl,rfl,rfl,rfl⟩:=e;exact stay λQ a w hq=>wp_label (hq _ trivial)
      |exit id=>simp only[exec,Option.some.injEq,Prod.mk.injEq]at e;obtain⟨rfl,rfl,rfl,rfl⟩:=e;exact stay λQ a w hq=>wp_exit (hq _ rfl)
      |ret=>simp only[exec,Option.some.injEq,Prod.mk.injEq]at e;obtain⟨rfl,rfl,rfl,rfl⟩:=e;exact stay λQ a w hq=>wp_ret (hq _ trivial)
      | region id ops draw=>
        cases draw with
        | false=>
          simp only[exec]at e
          split at e
          · rename_i t1 h1 nx1 h1e
            cases e
            obtain⟨k1,k2⟩:=qfw hc he _ h1e
            exact⟨k1,λF I a w st fr Q hq=>wp_region (k2 F I a w st fr Q λa' I' w'=>hq .normal a' I' w' trivial)⟩
          · cases e
        | true=>
          simp only[exec]at e
          split at e
          · rename_i t1 h1 nx1 h1e
            cases e
            obtain⟨k1,k2⟩:=hr _ _ _ _ _ _ _ h1e
            exact⟨k1,λF I a w st fr Q hq=>k2 F I a w st fr Q (λa' I' w'=>hq .normal a' I' w' trivial) id⟩
          · cases e
      | seq p q=>
        simp only[exec]at e
        split at e
        · rename_i t1 h1 nx1 h1e
          obtain⟨k1,k2⟩:=ih1 _ _ _ _ _ _ _ _ h1e
          obtain⟨q1,q2⟩:=ih1 _ _ _ _ _ _ _ _ e
          refine⟨Nat.le_trans k1 q1,λF I a w st fr Q hq=>wp_seq (k2 F I a w st (fr.sub (Nat.le_refl _) q1) _ λe a' I' w' he' st' g'=> ?_)⟩
          cases e<;>simp only[AX.is]at he'
          exact q2 F I' a' w' st' (q0g.of_grow g' k1 fr) Q λe'' a'' I'' w'' he'' st'' g''=>hq e'' a'' I'' w'' he'' st'' (g'.trans g'' k1 q1)
        · rename_i hne
          obtain⟨k1,k2⟩:=ih1 _ _ _ _ _ _ _ _ e
          refine⟨k1,λF I a w st fr Q hq=>wp_seq (k2 F I a w st fr _ λe' a' I' w' he' st' g'=> ?_)⟩
          cases e' with
          |normal=>cases x<;>simp only[AX.is]at he';exact absurd e (hne _ _ _)
          |_=>exact hq _ a' I' w' he' st' g'
      | cond xx p q=>
        simp only[exec]at e
        split at e
        · rename_i hx
          obtain⟨k1,k2⟩:=ih1 _ _ _ _ _ _ _ _ e
          refine⟨k1,λF I a w st fr Q hq=>wp_cond_true ?_ (k2 F I a w st fr Q hq)⟩
          have:=q00 st.tr hx
          generalize a.eval xx=v at this
          cases this;rfl
        · rename_i hx
          obtain⟨k1,k2⟩:=ih1 _ _ _ _ _ _ _ _ e
          refine⟨k1,λF I a w st fr Q hq=>wp_cond_false ?_ (k2 F I a w st fr Q hq)⟩
          have:=q00 st.tr hx
          generalize a.eval xx=v at this
          cases this;rfl
        · cases e
      | block id c=>
        simp only[exec]at e
        split at e
        · rename_i j r h1e
          obtain⟨t1,h1,nx1⟩:=r
          split at e
          · rename_i hj
            cases e;subst hj
            obtain⟨k1,k2⟩:=ih1 _ _ _ _ _ _ _ _ h1e
            refine⟨k1,λF I a w st fr Q hq=>wp_block (k2 F I a w st fr _ λe' a' I' w' he' st' g'=> ?_)⟩
            cases e'<;>simp only[AX.is]at he'
            subst he'
            simp only[Exit.inBlock,if_true]
            exact hq .normal a' I' w' trivial st' g'
          · rename_i hj
            cases e
            obtain⟨k1,k2⟩:=ih1 _ _ _ _ _ _ _ _ h1e
            refine⟨k1,λF I a w st fr Q hq=>wp_block (k2 F I a w st fr _ λe' a' I' w' he' st' g'=> ?_)⟩
            cases e'<;>simp only[AX.is]at he'
            subst he'
            simp only[Exit.inBlock,if_neg hj]
            exact hq _ a' I' w' rfl st' g'
        · rename_i hne
          obtain⟨k1,k2⟩:=ih1 _ _ _ _ _ _ _ _ e
          refine⟨k1,λF I a w st fr Q hq=>wp_block (k2 F I a w st fr _ λe' a' I' w' he' st' g'=> ?_)⟩
          cases e' with
          |exit j=>cases x<;>simp only[AX.is]at he';exact absurd e (hne _ _)
          |_=>exact hq _ a' I' w' he' st' g'
      | loop c=>
        have key:∀m,m<=f+1->∀t h nx,exec P call ext reg n m (.loop c) t h nx=some (x,t',h',nx')->nx<=nx'/\∀(F:Bool->Nat->Prop) (I:In) (a:Act) (w:World),St gl F I t h n a w->q0g I nx nx'->∀(Q:Exit->Act->World->Prop),
            (∀e a' I' w',x.is e->St gl F I' t' h' n a' w'->Grow F I nx w I' nx' h' w'->Q e a' w')->Code.rounds P c Q m a w:=by
          intro m
          induction m with
          |zero=>intro _ t h nx e;cases e
          | succ m ihm=>
            intro hm t h nx e
            have ihb:=ih m (by omega)
            simp only[exec]at e
            split at e
            · rename_i t1 h1 nx1 h1e
              obtain⟨k1,k2⟩:=ihb _ _ _ _ _ _ _ _ h1e
              obtain⟨q1,q2⟩:=ihm (by omega) _ _ _ e
              refine⟨Nat.le_trans k1 q1,λF I a w st fr Q hq=> ?_⟩
              rw[rounds_succ]
              refine k2 F I a w st (fr.sub (Nat.le_refl _) q1) _ λe a' I' w' he' st' g'=> ?_
              cases e<;>simp only[AX.is]at he'
              exact q2 F I' a' w' st' (q0g.of_grow g' k1 fr) Q λe'' a'' I'' w'' he'' st'' g''=>hq e'' a'' I'' w'' he'' st'' (g'.trans g'' k1 q1)
            · rename_i hne
              obtain⟨k1,k2⟩:=ihb _ _ _ _ _ _ _ _ e
              refine⟨k1,λF I a w st fr Q hq=> ?_⟩
              rw[rounds_succ]
              refine k2 F I a w st fr _ λe' a' I' w' he' st' g'=> ?_
              cases e' with
              |normal=>cases x<;>simp only[AX.is]at he';exact absurd e (hne _ _ _)
              |_=>exact hq _ a' I' w' he' st' g'
        obtain⟨k1,k2⟩:=key (f+1) (Nat.le_refl _) t h nx e
        exact⟨k1,λF I a w st fr Q hq=>wp_loop_rounds _ (k2 F I a w st fr Q hq)⟩
      |_=>simp[exec]at e
def q0o(P:Program) (t:T AV) (h:T AO):List ResultVar->Option (List AV)
  | []=>some []
  | .tmp k::l=>match(if k<q10 then t.get k else none)with
    | some v=>match q0o P t h l with
      |some r=>some (v::r)
      |none=>none
    |none=>none
  | .cell k ty::l=>match(if k<q10 then t.get k else none)with
    | some (.ptr id off)=>match qcl P h ty id off with
      | some v=>match q0o P t h l with
        |some r=>some (v::r)
        |none=>none
      |none=>none
    |_=>none
def q9i:List AV->AV
 | [v]=>v
 |l=> .tup l
def q9f{α β:Type} {P:Program} {w:World} (f:α->Sem β):∀(l:List α) (r:List β),All2 (λx y=>(f x).run P w= .ok y w) l r->(l.mapM f).run P w= .ok r w
  | [],r,h=>by cases h;simp
  | x::l,r,h=>by
    cases h with
    |cons h1 h2=>simp[h1,q9f f l _ h2,Result.andThen]
variable {w:World}
def qcz{α β:Type} {P:Program} (f:α->Sem β) (l:Array α) (r:List β) (h:All2 (λx y=>(f x).run P w= .ok y w) l.toList r):(l.mapM f).run P w= .ok ⟨r⟩ w:=by
 rw[Array.mapM_eq_mapM_toList]
 simp[q9f f l.toList r h,Result.andThen]
def q3d{P:Program} {F:Bool->Nat->Prop} {I:In} {t:T AV} {h:T AO} {n:Nat} {a:Act} {w:World} (st:St gl F I t h n a w):∀(l:List ResultVar) (r:List AV),q0o P t h l=some r->∃vs,VRs I r vs/\All2 (λ(x:ResultVar) y=>((match x with| .tmp t=>pure (a.tmps.getD t undef)| .cell k t=>do loadVar t (←asAddr (a.tmps.getD k undef))):Sem Value).run P w= .ok y w) l vs
  | [],r,e=>by simp[q0o]at e;subst e;exact⟨[], .nil, .nil⟩
  | .tmp k::l,r,e=>by
    simp only[q0o]at e
    split at e
    · rename_i v hv
      split at e
      · rename_i r2 hr
        cases e
        obtain⟨vs,h1,h2⟩:=q3d st l r2 hr
        split at hv
        case isFalse=>cases hv
        rename_i hkg
        have h3:=st.tr k v hv
        rw[q1e hkg]at h3
        exact⟨_, .cons h3 h1, .cons rfl h2⟩
      · cases e
    · cases e
  | .cell k ty::l,r,e=>by
    simp only[q0o]at e
    split at e
    · rename_i id off hk
      split at e
      · rename_i v hv
        split at e
        · rename_i r2 hr
          cases e
          obtain⟨vs,h1,h2⟩:=q3d st l r2 hr
          split at hk
          case isFalse=>cases hk
          rename_i hkg
          have h3:=st.tr k _ hk
          rw[q1e hkg]at h3
          generalize hz:a.tmps.getD k undef=z at h3
          cases h3 with
          | ptr hI=>
            obtain⟨y,g1,g2⟩:=q84 (P:=P) st.sim hv hI
            refine⟨_, .cons g2 h1, .cons ?_ h2⟩
            simp[hz,asAddr,g1,Result.andThen]
        · cases e
      · cases e
    · cases e
def q3l{P:Program} {F:Bool->Nat->Prop} {I:In} {t:T AV} {h:T AO} {n:Nat} {a:Act} (st:St gl F I t h n a w) {fn:Func} {r:List AV} (e:q0o P t h fn.results.toList=some r):∃v,(results fn a.tmps).run P w= .ok v w/\VR I (q9i r) v:=by
  obtain⟨vs,h1,h2⟩:=q3d st _ _ e
  have h4:=qcz _ _ _ h2
  refine⟨if h:(⟨vs⟩:Array Value).size=1 then(⟨vs⟩:Array Value)[0]else .tuple ⟨vs⟩,?_,?_⟩
  · unfold results
    rw[Sem.run_bind]
    have h5:=congrArg (λr=>Result.andThen r λ(vs:Array Value) w=>Sem.run P (pure (if h:vs.size=1 then vs[0]else .tuple vs)) w) h4
    exact h5
  · cases h1 with
    |nil=>exact .tup .nil
    | cons a b=>
      cases b with
      |nil=>exact a
      |cons c d=>exact .tup (.cons a (.cons c d))
def q8h:List AV->Nat->T AV->Option (T AV)
  | [],_,t=>some t
  | a::l,k,t=>match T.put 64 k (some a) t with
    |some t'=>q8h l (k+1) t'
    |none=>none
def q40:∀(l:List AV) (k:Nat) (t t':T AV),q8h l k t=some t'->∀j,t'.get j=if j<k then t.get j else if j<k+l.length then l[j- k]? else t.get j
  | [],k,t,t',e,j=>by simp[q8h]at e;subst e;simp;intros;omega
  | a :: l, k,t,t',e,j=>by
    simp only[q8h]at e
    split at e
    · rename_i t1 h1
      rw[q40 l (k+1) t1 t' e j,T.get_put _ _ _ _ _ h1]
      simp only[List.length_cons]
      by_cases h:j<k
      · rw[if_pos (by omega),if_neg (by omega),if_pos h]
      · rw [if_neg h]
        by_cases h2:j=k
        · subst h2;simp
        · rw[if_neg (by omega)]
          by_cases h3:j<k+(l.length+1)
          · rw[if_pos (by omega),if_pos h3]
            obtain⟨m,hm⟩:∃m,j- k=m+1:=⟨j- k- 1,by omega⟩
            rw[hm,List.getElem?_cons_succ];congr 1;omega
          · rw[if_neg (by omega),if_neg h3,if_neg h2]
    · cases e
inductive Kd where
 |q|r|a|s
 deriving DecidableEq
def isS(o:Oper):Bool:=match o.op with
  | .store .. | .mapUpdate .. | .insert .. | .mapEntry .. | .entryStore .. =>true
  | .convert s d _=>Nat.beq s d
  | .call c=>match c.callee with
    | .builtin .append=>true
    | .builtin .copy=>true
    | .builtin .unsafeString=>true
    | .builtin _=>false
    |_=>true
  |_=>false
def isA(P:Program) (o:Oper):Bool:=match o.op with
  | .alloc _| .box .. | .buildSlice .. | .makeMap .. | .makeSlice .. =>true
  | .convert _ d _=>match P.underlying d with
    |some (.slice _)=>true
    |_=>false
  |_=>false
def isR(o:Oper):Bool:=match o.op with
  | .load .. | .lookup .. | .convert .. =>true
  | .call c=>match c.callee with
    | .builtin .len=>true
    |_=>false
  |_=>false
abbrev qgq:=Kd×AV×Option AO×T AO×Nat
def mk3(k:Kd) (h:T AO) (nx:Nat):Option AV->Option qgq
 |some v=>some (k,v,none,h,nx)
 |none=>none
def mkA(h:T AO) (nx:Nat):Option (AV×AO)->Option qgq
  | some (v,ob)=>match T.put 64 nx (some ob) h with
    |some h'=>some (.a,v,some ob,h',nx+1)
    |none=>none
  |none=>none
def qgx:Option (AV×T AO×Nat)->Option qgq
 |some (v,h',nx')=>some (.s,v,none,h',nx')
 |none=>none
def or3(a b:Option qgq):Option qgq:=
 match a with
 |some r=>some r
 |none=>b
def q46(P:Program) (call:q03) (ext:q14) (t:T AV) (h:T AO) (nx:Nat) (o:Oper):Option qgq:=
  match o.op with
  | .load .. | .lookup .. =>mk3 .r h nx (rop P t h o)
  | .alloc _| .box .. | .buildSlice .. | .makeMap .. | .makeSlice .. =>mkA h nx (aop P t nx o)
  | .store .. | .mapUpdate .. | .insert .. | .mapEntry .. | .entryStore .. =>qgx (sop P t h nx o)
  | .convert s d _=>or3 (mk3 .q h nx (qop P t o)) (or3 (mk3 .r h nx (rop P t h o)) (match Nat.beq s d with|true=>qgx (sop P t h nx o)|false=>mkA h nx (aop P t nx o)))
  | .call c=>match c.callee with
    | .builtin .append=>qgx (sop P t h nx o)
    | .builtin .copy=>qgx (sop P t h nx o)
    | .builtin .unsafeString=>qgx (sop P t h nx o)
    | .builtin .len=>or3 (mk3 .q h nx (qop P t o)) (mk3 .r h nx (rop P t h o))
    | .builtin _=>mk3 .q h nx (qop P t o)
    |_=>qgx (called call ext h nx (q1l t o))
  |_=>mk3 .q h nx (qop P t o)
def KP(gl:T AV) (P:Program) (t:T AV) (h:T AO) (nx:Nat) (o:Oper):Kd->AV->Option AO->T AO->Nat->Prop
 | .q,v,_,h',nx'=>h'=h/\nx'=nx/\qop P t o=some v
 | .r,v,_,h',nx'=>h'=h/\nx'=nx/\rop P t h o=some v/\isR o=true
 | .a,v,ob,h',nx'=>∃x,ob=some x/\aop P t nx o=some (v,x)/\T.put 64 nx (some x) h=some h'/\nx'=nx+1/\isA P o=true/\isS o=false
 | .s,v,_,h',nx'=>q7v gl P t h nx o v h' nx'/\isS o=true/\∀st x y,o.op= .store st x y->sop P t h nx o=some (v,h',nx')
def qpi{P:Program} {t h nx o k v ob h' nx'} (e:mk3 .q h nx (qop P t o)=some (k,v,ob,h',nx')):KP gl P t h nx o k v ob h' nx':=by
 cases hq:qop P t o with
 |none=>rw[hq]at e;cases e
 |some u=>rw[hq]at e;cases e;exact⟨rfl,rfl,hq⟩
def qpj{P:Program} {t h nx o k v ob h' nx'} (ho:isR o=true) (e:mk3 .r h nx (rop P t h o)=some (k,v,ob,h',nx')):KP gl P t h nx o k v ob h' nx':=by
 cases hq:rop P t h o with
 |none=>rw[hq]at e;cases e
 |some u=>rw[hq]at e;cases e;exact⟨rfl,rfl,hq,ho⟩
def qmp{P:Program} {t h nx o k v ob h' nx'} (ho:isA P o=true) (hs:isS o=false) (e:mkA h nx (aop P t nx o)=some (k,v,ob,h',nx')):KP gl P t h nx o k v ob h' nx':=by
  cases hq:aop P t nx o with
  |none=>rw[hq]at e;cases e
  | some u=>
    obtain⟨u,x⟩:=u
    rw[hq]at e
    simp only[mkA]at e
    split at e
    · rename_i h2 hp;cases e;exact⟨x,rfl,hq,hp,rfl,ho,hs⟩
    · cases e
def qfx{a b:Option qgq} {x} (h:or3 a b=some x):a=some x\/b=some x:=by
 unfold or3 at h
 split at h
 ·cases h;exact .inl rfl
 ·exact .inr h
def qk9{P:Program} {call:q03} {ext:q14} (hc:q11 gl P call) (he:q4t P ext) {t h nx o k v ob h' nx'} (e:q46 P call ext t h nx o=some (k,v,ob,h',nx')):KP gl P t h nx o k v ob h' nx':=by
  have sS:∀{x},isS o=true->qgx x=some (k,v,ob,h',nx')->(∀r h' nx',x=some (r,h',nx')->q7v gl P t h nx o r h' nx')->((∀st x y,o.op≠ .store st x y)\/x=sop P t h nx o)->KP gl P t h nx o k v ob h' nx':=λ{x} ho e hx hst=>by
    cases x with
    |none=>cases e
    | some u=>
      obtain⟨u1,u2,u3⟩:=u;cases e
      exact⟨hx _ _ _ rfl,ho,λst a b hop=>hst.elim (λh=>absurd hop (h _ _ _)) λh=>h.symm⟩
  unfold q46 at e
  split at e<;>rename_i hop
  · exact qpj (by simp[isR,hop]) e
  · exact qpj (by simp[isR,hop]) e
  · exact qmp (by simp[isA,hop]) (by simp[isS,hop]) e
  · exact qmp (by simp[isA,hop]) (by simp[isS,hop]) e
  · exact qmp (by simp[isA,hop]) (by simp[isS,hop]) e
  · exact qmp (by simp[isA,hop]) (by simp[isS,hop]) e
  · exact qmp (by simp[isA,hop]) (by simp[isS,hop]) e
  · exact sS (by simp[isS,hop]) e (λr h' nx' hx=>q6z hx) (.inr rfl)
  · exact sS (by simp[isS,hop]) e (λr h' nx' hx=>q6z hx) (.inr rfl)
  · exact sS (by simp[isS,hop]) e (λr h' nx' hx=>q6z hx) (.inr rfl)
  · exact sS (by simp[isS,hop]) e (λr h' nx' hx=>q6z hx) (.inr rfl)
  · exact sS (by simp[isS,hop]) e (λr h' nx' hx=>q6z hx) (.inr rfl)
  · rcases qfx e with e|e
    · exact qpi e
    · rcases qfx e with e|e
      · exact qpj (by simp[isR,hop]) e
      · split at e
        · rename_i hsd
          exact sS (by simp only[isS,hop];exact hsd) e (λr h' nx' hx=>q6z hx) (.inr rfl)
        rename_i hsd
        refine qmp ?_ (by simp only[isS,hop];exact hsd) e
        unfold isA;rw[hop];simp only
        cases hq:aop P t nx o with
        |none=>rw[hq]at e;cases e
        | some u=>
          obtain⟨u1,u2⟩:=u
          simp only[aop,hop]at hq
          split at hq
          · rename_i hd _;rw[hd]
          · cases hq
  · split at e<;>rename_i hcal
    · exact sS (by simp[isS,hop,hcal]) e (λr h' nx' hx=>q6z hx) (.inr rfl)
    · exact sS (by simp[isS,hop,hcal]) e (λr h' nx' hx=>q6z hx) (.inr rfl)
    · exact sS (by simp[isS,hop,hcal]) e (λr h' nx' hx=>q6z hx) (.inr rfl)
    · rcases qfx e with e|e
      · exact qpi e
      · exact qpj (by simp[isR,hop,hcal]) e
    · exact qpi e
    · exact sS (by unfold isS;rw[hop];simp only) e (λr h' nx' hx=>qr6 hc he hx) (.inl λ_ _ _ h=>by rw[hop]at h;cases h)
  · exact qpi e
def slotsOf(ops:Array Oper) (o:Oper):List Nat:=
  (o.op.operands.toList.filterMap λ| .tmp t=>some t| .global g=>some (q10+g)|_=>none)++
  (match o.guard with
   | some (g,_)=>match nth ops.toList g with
     | some og=>match og.dst with
       |some d=>[d]
       |none=>[]
     |none=>[]
   |none=>[])
def q2d(t:T AV):List Nat->T AV->Option (T AV)
  | [],acc=>some acc
  | n ::l,acc=>match t.get n with
    | some a=>match T.put 64 n (some a) acc with
      |some acc'=>q2d t l acc'
      |none=>none
    |none=>q2d t l acc
def q58{t:T AV}:∀{l:List Nat} {acc r:T AV},q2d t l acc=some r->∀n a,r.get n=some a->acc.get n=some a\/n∈l/\t.get n=some a
  | [],acc,r,e,n,a,h=>by simp[q2d]at e;subst e;exact .inl h
  | m ::l,acc,r,e,n,a,h=>by
    simp only[q2d]at e
    split at e
    · rename_i b hb
      split at e
      · rename_i acc' hp
        rcases q58 e n a h with h1|⟨h1,h2⟩
        · rw[T.get_put _ _ _ _ _ hp]at h1
          split at h1
          · rename_i hn;subst hn;cases h1;exact .inr ⟨by simp,hb⟩
          · exact .inl h1
        · exact .inr ⟨by simp[h1],h2⟩
      · cases e
    · rcases q58 e n a h with h1|⟨h1,h2⟩
      · exact .inl h1
      · exact .inr ⟨by simp[h1],h2⟩
structure Rc where
 o:Oper
 w:Bool
 k:Kd
 t:T AV
 v:AV
 ob:Option AO
 nx:Nat
 h:T AO
def qg9 (P :Program) (call:q03) (ext:q14) (n:Nat) (ops:Array Oper):List Oper->T AV->T AO->Nat->Option (List Rc×T AV×T AO×Nat)
  | [],t,h,nx=>some ([],t,h,nx)
  | o :: l, t,h,nx=>
    match q2d t (slotsOf ops o) .e with
    | some tr=>match q21 tr ops o with
      | some true=>match q46 P call ext tr h nx o with
        | some (k,v,ob,h',nx')=>match q6w n o.dst v t with
          | some t'=>match qg9 P call ext n ops l t' h' nx' with
            |some (rs,fin)=>some (⟨o,true,k,tr,v,ob,nx,h⟩::rs,fin)
            |none=>none
          |none=>none
        |none=>none
      | some false=>match q6w n o.dst q0c t with
        | some t'=>match qg9 P call ext n ops l t' h nx with
          |some (rs,fin)=>some (⟨o,false, .q,tr,q0c,none,nx,h⟩::rs,fin)
          |none=>none
        |none=>none
      |none=>none
    |none=>none
def q5f(gl:T AV) (P:Program) (n:Nat) (ops:Array Oper) (c:Rc) (t:T AV) (h:T AO) (nx:Nat) (t':T AV) (h':T AO) (nx':Nat):Prop:=
 c.h=h/\c.nx=nx/\q2d t (slotsOf ops c.o) .e=some c.t/\q6w n c.o.dst c.v t=some t'/\q21 c.t ops c.o=some c.w/\
  (c.w=true->KP gl P c.t h nx c.o c.k c.v c.ob h' nx')/\(c.w=false->c.v=q0c/\h'=h/\nx'=nx)
def qga {P:Program} {call:q03} {ext:q14} (hc:q11 gl P call) (he:q4t P ext) {n:Nat} {ops:Array Oper}:∀(l:List Oper) {t t':T AV} {h h':T AO} {nx nx':Nat} {rs:List Rc},qg9 P call ext n ops l t h nx=some (rs,t',h',nx')->
    ∃ (Tt:Nat->T AV) (H:Nat->T AO) (X:Nat->Nat),Tt 0=t/\H 0=h/\X 0=nx/\Tt l.length=t'/\H l.length=h'/\X l.length=nx'/\rs.length=l.length/\
      ∀i o c,l[i]? =some o->rs[i]? =some c->c.o=o/\q5f gl P n ops c (Tt i) (H i) (X i) (Tt (i+1)) (H (i+1)) (X (i+1))
  | [],t,t',h,h',nx,nx',rs,e=>by
    simp only[qg9,Option.some.injEq,Prod.mk.injEq]at e
    obtain⟨rfl,rfl,rfl,rfl⟩:=e
    exact⟨λ_=>t,λ_=>h,λ_=>nx,rfl,rfl,rfl,rfl,rfl,rfl,rfl,λi o c h1=>by simp at h1⟩
  | o :: l, t,t',h,h',nx,nx',rs,e=>by
    have fin:∀(c:Rc) t1 h1 nx1 rs',c.o=o->q5f gl P n ops c t h nx t1 h1 nx1->qg9 P call ext n ops l t1 h1 nx1=some (rs',t',h',nx')->rs=c::rs'->∃(Tt:Nat->T AV) (H:Nat->T AO) (X:Nat->Nat),Tt 0=t/\H 0=h/\X 0=nx/\Tt (o::l).length=t'/\H (o::l).length=h'/\X (o::l).length=nx'/\rs.length=(o::l).length/\
      ∀i o' c,(o::l)[i]? =some o'->rs[i]? =some c->c.o=o'/\q5f gl P n ops c (Tt i) (H i) (X i) (Tt (i+1)) (H (i+1)) (X (i+1)):=by
      intro c t1 h1 nx1 rs' hco hst hrun hrs
      obtain⟨Tt,H,X,a1,a2,a3,a4,a5,a6,a7,a8⟩:=qga hc he l hrun
      refine⟨λi=>match i with|0=>t|i+1=>Tt i,λi=>match i with|0=>h|i+1=>H i,λi=>match i with|0=>nx|i+1=>X i,rfl,rfl,rfl,a4,a5,a6,by rw[hrs];simp[a7],?_⟩
      intro i o' c' h2 h3
      subst hrs
      cases i with
      | zero=>
        simp at h2 h3
        subst h2 h3
        simp only[a1,a2,a3]
        exact⟨hco,hst⟩
      |succ i=>exact a8 i o' c' (by simpa using h2) (by simpa using h3)
    simp only[qg9]at e
    split at e
    · rename_i tr htr
      split at e
      · rename_i hg
        split at e
        · rename_i k v ob h1 nx1 hk
          split at e
          · rename_i t1 hp
            split at e
            · rename_i rs' fi hrun
              cases e
              exact fin _ t1 h1 nx1 rs' rfl ⟨rfl,rfl,htr,hp,hg,λ_=>qk9 hc he hk,λhw=>by cases hw⟩ hrun rfl
            · cases e
          · cases e
        · cases e
      · rename_i hg
        split at e
        · rename_i t1 hp
          split at e
          · rename_i rs' fi hrun
            cases e
            exact fin _ t1 h nx rs' rfl ⟨rfl,rfl,htr,hp,hg,(λhw=>by cases hw),λ_=>⟨rfl,rfl,rfl⟩⟩ hrun rfl
          · cases e
        · cases e
      · cases e
    · cases e
def qj2(acc:List Nat) (i:Nat):List Edge->Nat->Option Nat
  | [],m=>some m
  | e ::l,m=>match Region.binds .any e with
    | true=>match Nat.blt e.on i with
      | true=>match nth acc e.on with
        |some k=>qj2 acc i l (Nat.lor m (Nat.lor (Nat.pow 2 e.on) k))
        |none=>none
      |false=>none
    |false=>qj2 acc i l m
def q86:List Oper->Nat->List Nat->Option (List Nat)
  | [],_,acc=>some acc
  | o::l,i,acc=>match qj2 acc i o.after.toList 0 with
    |some m=>q86 l (i+1) (acc++[m])
    |none=>none
def qag (acc:List Nat) (i:Nat):∀(l:List Edge) (m r:Nat),qj2 acc i l m=some r->∀j,r.testBit j=true->m.testBit j=true\/∃e∈l,Region.binds .any e=true/\e.on<i/\(j=e.on\/∃k,acc[e.on]? =some k/\k.testBit j=true)
  | [],m,r,h,j,hj=>by simp[qj2]at h;subst h;exact .inl hj
  | e :: l, m,r,h,j,hj=>by
    simp only[qj2]at h
    split at h
    · rename_i hb
      split at h
      · rename_i hlt
        split at h
        · rename_i k hk
          rcases qag acc i l _ r h j hj with h1|⟨e',h1,h2⟩
          · have h1':(m||| (2 ^ e.on|||k)).testBit j=true:=h1
            rw[Nat.testBit_or,Nat.testBit_or,Bool.or_eq_true,Bool.or_eq_true]at h1'
            rcases h1' with h1|h1|h1
            · exact .inl h1
            · refine .inr ⟨e,by simp,hb,by simpa[Nat.blt_eq]using hlt, .inl ?_⟩
              rw[Nat.testBit_two_pow]at h1;simpa using(of_decide_eq_true h1).symm
            · exact .inr ⟨e,by simp,hb,by simpa[Nat.blt_eq]using hlt, .inr ⟨k,by rw[←q0f];exact hk,h1⟩⟩
          · exact .inr ⟨e',by simp[h1],h2⟩
        · cases h
      · cases h
    · rcases qag acc i l m r h j hj with h1|⟨e',h1,h2⟩
      · exact .inl h1
      · exact .inr ⟨e',by simp[h1],h2⟩
def q3c:∀(l:List Oper) (i:Nat) (acc A:List Nat),acc.length=i->q86 l i acc=some A->A.length=i+l.length/\(∀k,k<i->A[k]? =acc[k]?)/\
    ∀k o,l[k]? =some o->∃m,A[i+k]? =some m/\∀j,m.testBit j=true->∃e∈o.after.toList,Region.binds .any e=true/\e.on<i+k/\(j=e.on\/∃q,A[e.on]? =some q/\q.testBit j=true)
  | [],i,acc,A,hl,h=>by simp[q86]at h;subst h;exact⟨by simp[hl],λk _=>rfl,λk o h=>by simp at h⟩
  | o ::l,i,acc,A,hl,h=>by
    simp only[q86]at h
    split at h
    · rename_i m hm
      obtain⟨h1,h2,h3⟩:=q3c l (i+1) (acc++[m]) A (by simp[hl]) h
      have pre:∀k,k<i->A[k]? =acc[k]? :=λk hk=>by rw[h2 k (by omega),List.getElem?_append_left (by omega)]
      refine⟨by rw[h1];simp;omega,pre,λk o' hk=> ?_⟩
      cases k with
      | zero=>
        simp at hk;subst hk
        refine⟨m,by rw[Nat.add_zero,h2 i (by omega),List.getElem?_append_right (by omega)];simp[hl],λj hj=> ?_⟩
        rcases qag _ _ _ _ _ hm j hj with h4|⟨e,he,hb,hlt,h5⟩
        · simp at h4
        · refine⟨e,he,hb,by omega,h5.imp (λh=>h) λ⟨q,hq,hqj⟩=>⟨q,by rw[pre _ hlt];exact hq,hqj⟩⟩
      | succ k=>
        obtain⟨m',h4,h5⟩:=h3 k o' (by simpa using hk)
        refine⟨m',by rw[show i+(k+1)=i+1+k by omega];exact h4,λj hj=> ?_⟩
        obtain⟨e,he,hb,hlt,h6⟩:=h5 j hj
        exact⟨e,he,hb,by omega,h6⟩
    · cases h
def q2g(ops:Array Oper) (L:Nat->Prop):Prop:=∀i o,ops[i]? =some o->L i->∀e∈o.after,Region.binds .any e=true->L e.on
variable {ops:Array Oper} {A:List Nat}
def qcs(hA:q86 ops.toList 0 []=some A) {L:Nat->Prop} (hL:q2g ops L):∀(i:Nat) (o:Oper),ops[i]? =some o->(∀e∈o.after,Region.binds .any e=true->L e.on)->∀m j,A[i]? =some m->m.testBit j=true->L j:=by
  have hlen:=(q3c ops.toList 0 [] A rfl hA).1
  have h3:=(q3c ops.toList 0 [] A rfl hA).2.2
  intro i
  induction i using Nat.strongRecOn with
  | _ i ih=>
    intro o ho hr m j hm hj
    obtain⟨m',h4,h5⟩:=h3 i o (by simpa using ho)
    rw[Nat.zero_add]at h4
    rw[hm]at h4;cases h4
    obtain⟨e,he,hb,hlt,h6⟩:=h5 j hj
    have hin:e∈o.after:=by simpa using he
    have hLe:=hr e hin hb
    rcases h6 with rfl|⟨q,hq,hqj⟩
    · exact hLe
    · have helt:e.on<ops.size:=by
        have:=(List.getElem?_eq_some_iff.1 hq).1
        rw[hlen]at this;simpa using this
      obtain⟨oe,hoe⟩:∃oe,ops[e.on]? =some oe:=⟨_,Array.getElem?_eq_getElem helt⟩
      exact ih e.on (by omega) oe hoe (hL e.on oe hoe hLe) q j hq hqj
def qn0(hA:q86 ops.toList 0 []=some A):∀(i:Nat) (m j:Nat),A[i]? =some m->m.testBit j=true->j<i:=by
  have hlen:=(q3c ops.toList 0 [] A rfl hA).1
  have h3:=(q3c ops.toList 0 [] A rfl hA).2.2
  intro i
  induction i using Nat.strongRecOn with
  | _ i ih=>
    intro m j hm hj
    have hi:i<ops.toList.length:=by
      have:=(List.getElem?_eq_some_iff.1 hm).1
      rw[hlen]at this;omega
    obtain⟨m',h4,h5⟩:=h3 i _ (List.getElem?_eq_getElem hi)
    rw[Nat.zero_add]at h4
    rw[hm]at h4;cases h4
    obtain⟨e,he,hb,hlt,h6⟩:=h5 j hj
    rcases h6 with rfl|⟨q,hq,hqj⟩
    · omega
    · have:=ih e.on (by omega) q j hq hqj;omega
def q5k(acc:List Nat) (i:Nat):∀(l:List Edge) (m r:Nat),qj2 acc i l m=some r->∀e∈l,Region.binds .any e=true->e.on<i
  | [],m,r,h,e,he=>by cases he
  | e0 :: l,m,r,h,e,he=>by
    intro hb
    simp only[qj2]at h
    split at h
    · rename_i hb0
      split at h
      · rename_i hlt
        split at h
        · cases he with
          |head=>simpa[Nat.blt_eq]using hlt
          |tail _ he=>exact q5k acc i l _ r h e he hb
        · cases h
      · cases h
    · rename_i hb0
      cases he with
      |head=>rw[hb]at hb0;cases hb0
      |tail _ he=>exact q5k acc i l m r h e he hb
def q96:∀(l:List Oper) (i:Nat) (acc A:List Nat),q86 l i acc=some A->∀k o,l[k]? =some o->∀e∈o.after.toList,Region.binds .any e=true->e.on<i+k
  | [],i,acc,A,h,k,o,hk=>by simp at hk
  | o0::l,i,acc,A,h,k,o,hk=>by
    simp only[q86]at h
    split at h
    · rename_i m hm
      cases k with
      | zero=>
        simp at hk;subst hk
        exactλe he hb=>q5k _ _ _ _ _ hm e he hb
      | succ k=>
        intro e he hb
        have:=q96 l (i+1) _ A h k o (by simpa using hk) e he hb
        omega
    · cases h
def qer(hA:q86 ops.toList 0 []=some A) {i:Nat} {o:Oper} (ho:ops[i]? =some o) {e:Edge} (he:e∈o.after) (hb:Region.binds .any e=true):e.on<i:=by
 have:=q96 ops.toList 0 [] A hA i o (by simpa using ho) e (by simpa using he) hb
 omega
def q15(A:List Nat) (i j:Nat):Bool:=match nth A i with
 |some m=>Nat.testBit m j
 |none=>false
def q0b(hA:q86 ops.toList 0 []=some A) {L:Nat->Prop} (hL:q2g ops L) {i:Nat} {o:Oper} (ho:ops[i]? =some o) (hr:∀e∈o.after,Region.binds .any e=true->L e.on) {j:Nat} (hb:q15 A i j=true):L j:=by
 unfold q15 at hb
 split at hb
 ·rename_i m hm
  exact qcs hA hL i o ho hr m j (by rw[←q0f];exact hm) hb
 ·cases hb
def q5s(hA:q86 ops.toList 0 []=some A) {i j:Nat} (hb:q15 A i j=true):j<i:=by
 unfold q15 at hb
 split at hb
 ·rename_i m hm
  exact qn0 hA i m j (by rw[←q0f];exact hm) hb
 ·cases hb
def q1p(n:Nat) (p:Nat->Bool):Bool:=match n with
  |0=>true
  | n+1=>match p n with
    |true=>q1p n p
    |false=>false
def q08{p:Nat->Bool}:∀{n:Nat},q1p n p=true->∀i,i<n->p i=true
  |0,_,i,h=>by omega
  | n +1,h,i,hi=>by
    simp only[q1p]at h
    split at h
    · rename_i hp
      by_cases e:i=n
      · subst e;exact hp
      · exact q08 h i (by omega)
    · cases h
def q83{p:Nat->Bool}:∀{n:Nat},(∀i,i<n->p i=true)->q1p n p=true
  |0,_=>rfl
  | n+1,h=>by
    simp only[q1p]
    rw[h n (Nat.lt_succ_self n)]
    exact q83 λi hi=>h i (by omega)
def qcv(l:List Oper) (i:Nat):Option Nat:=match nth l i with
 |some o=>o.dst
 |none=>none
def flag(f:Oper->Bool) (l:List Oper) (i:Nat):Bool:=match nth l i with
 |some o=>f o
 |none=>false
def eqO:Option Nat->Nat->Bool
 |some a,b=>Nat.beq a b
 |none,_=>false
abbrev q4u:=Option (Nat×Nat)
def qqh(pr:q4u) (i j:Nat):Bool:=match pr with
 |some (p,q)=>Nat.beq i q&&Nat.beq j p
 |none=>false
def qex{pr:q4u} {i j:Nat} (h:qqh pr i j=true):pr=some (j,i):=by
 unfold qqh at h
 split at h
 ·simp only[Bool.and_eq_true]at h
  rw[Nat.eq_of_beq_eq_true h.1,Nat.eq_of_beq_eq_true h.2]
 ·cases h
def q38(P:Program) (ops:Array Oper) (A:List Nat) (pr:q4u):Bool:=
  let l:=ops.toList
  let N:=l.length
  q1p N λi=>match nth l i with
    |none=>false
    | some o=>
      (match o.dst with
       |some d=>q1p N λj=>(Nat.beq i j)|| !(eqO (qcv l j) d)
       |none=>true)&&
      ((slotsOf ops o).all fun τ=>q1p N λj=>(Nat.beq i j)|| !(eqO (qcv l j) τ)||q15 A i j||q15 A j i)&&
      (!(isS o)||q1p i λj=> !(flag isS l j||flag (isA P) l j)||q15 A i j||qqh pr i j)
def q4a(l:List Oper) (i:Nat):Bool:=match nth l i with
  | some o=>match o.op with
    | .store .. =>true
    |_=>false
  |none=>false
def qbp(n:Nat) (p:Nat->Bool):Option Nat:=match n with
  |0=>none
  | n+1=>match p n with
    |true=>some n
    |false=>qbp n p
def qfy(P:Program) (ops:Array Oper) (A:List Nat):q4u:=
  let l:=ops.toList
  let bad:=λi j=>flag isS l i&&(flag isS l j||flag (isA P) l j)&& !(q15 A i j)
  match qbp l.length λi=>match qbp i (bad i)with|some _=>true|none=>false with
  | some i=>match qbp i (bad i)with
    |some j=>some (j,i)
    |none=>none
  |none=>none
def q1t(P:Program) (ops:Array Oper) (A:List Nat) (p q:Nat):Bool:=
 let l:=ops.toList
 q4a l p&&q4a l q&&Nat.blt p q&&Nat.blt q l.length&&
 q1p l.length λk=>Nat.beq k p||Nat.beq k q|| !(flag isS l k||flag (isA P) l k||flag isR l k)|| (q15 A p k&&q15 A q k)
def qif(P:Program) (ops:Array Oper) (A:List Nat):Option q4u:=
  match q38 P ops A none with
  |true=>some none
  | false=>match qfy P ops A with
    | some (i,j)=>match q38 P ops A (some (i,j))&&q1t P ops A i j with
      |true=>some (some (i,j))
      |false=>none
    |none=>none
def qgv(l:List Oper) (e:Nat):Bool:=match e with
 |0=>true
 |e+1=>flag isS l e
def q2h(l:List Oper):Nat->Nat
  |0=>0
  | i+1=>match flag isS l i with
    |true=>i+1
    |false=>q2h l i
def other(l:List Oper) (A:List Nat) (i e:Nat):Bool:=
  qgv l e&& !(Nat.beq e (q2h l i))&&
  (match e with
   |0=>true
   |e+1=> !(q15 A e i))&&
  q1p l.length λs=>Nat.blt s e|| !(flag isS l s)|| !(q15 A i s)
def others(l:List Oper) (A:List Nat) (i:Nat):List Nat:=(List.range (l.length+1)).filter (other l A i)
def eqK:IntKind->IntKind->Bool
 | .i8, .i8| .i16, .i16| .i32, .i32| .i64, .i64| .u8, .u8| .u16, .u16| .u32, .u32| .u64, .u64=>true
 |_,_=>false
def q4p{a b:IntKind} (h:eqK a b=true):a=b:=by cases a<;>cases b<;>first|rfl|cases h
def eqL:List Nat->List Nat->Bool
  | [],[]=>true
  | a::x,b::y=>match Nat.beq a b with
    |true=>eqL x y
    |false=>false
  |_,_=>false
def qj9:∀{a b:List Nat},eqL a b=true->a=b
  | [],[],_=>rfl
  | [],_::_,h=>by cases h
  |_::_,[],h=>by cases h
  | a::x,b::y,h=>by
    simp only[eqL]at h
    split at h
    · rename_i hb;rw[Nat.eq_of_beq_eq_true hb,qj9 h]
    · cases h
def qnj:List (Int×Nat×Int×Int)->List (Int×Nat×Int×Int)->Bool
 | [],[]=>true
 | (a,b,c,d)::l,(a',b',c',d')::m=>eqI a a'&&(Nat.beq b b'&&(eqI c c'&&(eqI d d'&&qnj l m)))
 |_,_=>false
def qar:∀{a b:List (Int×Nat×Int×Int)},qnj a b=true->a=b
  | [],[],_=>rfl
  | [],_::_,h=>by cases h
  |_::_,[],h=>by cases h
  | (a,b,c,d)::l,(a',b',c',d')::m,h=>by
    simp only[qnj,Bool.and_eq_true]at h
    obtain⟨h1,h2,h3,h4,h5⟩:=h
    rw[q5y h1,Nat.eq_of_beq_eq_true h2,q5y h3,q5y h4,qar h5]
def eqA:AV->AV->Bool
 | .bool a, .bool b=>a==b
 | .int k a, .int j b=>eqK k j&&eqI a b
 | .str a, .str b=>eqL a b
 | .nilp, .nilp| .nsl, .nsl| .nmap, .nmap| .nilf, .nilf| .nili, .nili| .ifo, .ifo=>true
 | .ptr a b, .ptr c d=>Nat.beq a c&&Nat.beq b d
 | .sl a b c d, .sl e f g h=>Nat.beq a e&&Nat.beq b f&&Nat.beq c g&&Nat.beq d h
 | .gsl a b c d, .gsl e f g h=>Nat.beq a e&&Nat.beq b f&&Nat.beq c g&&Nat.beq d h
 | .map a, .map b=>Nat.beq a b
 | .anyi k, .anyi j=>eqK k j
 | .lin k c l, .lin j d m=>eqK k j&&(eqI c d&&qnj l m)
 | .ifc t (.ptr a b), .ifc u (.ptr c d)=>Nat.beq t u&&Nat.beq a c&&Nat.beq b d
 |_,_=>false
def qet{a b:AV} (h:eqA a b=true):a=b:=by
 unfold eqA at h
 split at h
 all_goals (try (cases h;done))
 all_goals (try rfl)
 all_goals (try simp only[Bool.and_eq_true]at h)
 ·simp at h;rw[h]
 ·rw[q4p h.1];have:=h.2;rw[qbo]at this;rw[of_decide_eq_true this]
 ·rw[qj9 h]
 ·rw[Nat.eq_of_beq_eq_true h.1,Nat.eq_of_beq_eq_true h.2]
 ·rw[Nat.eq_of_beq_eq_true h.1.1.1,Nat.eq_of_beq_eq_true h.1.1.2,Nat.eq_of_beq_eq_true h.1.2,Nat.eq_of_beq_eq_true h.2]
 ·rw[Nat.eq_of_beq_eq_true h.1.1.1,Nat.eq_of_beq_eq_true h.1.1.2,Nat.eq_of_beq_eq_true h.1.2,Nat.eq_of_beq_eq_true h.2]
 ·rw[Nat.eq_of_beq_eq_true h]
 ·rw[q4p h]
 ·rw[q4p h.1,q5y h.2.1,qar h.2.2]
 ·rw[Nat.eq_of_beq_eq_true h.1.1,Nat.eq_of_beq_eq_true h.1.2,Nat.eq_of_beq_eq_true h.2]
def qnf:List AV->List AV->Bool
  | [],[]=>true
  | a::x,b::y=>match eqA a b with
    |true=>qnf x y
    |false=>false
  |_,_=>false
def qao:∀{a b:List AV},qnf a b=true->a=b
  | [],[],_=>rfl
  | [],_::_,h=>by cases h
  |_::_,[],h=>by cases h
  | a::x,b::y,h=>by
    simp only[qnf]at h
    split at h
    · rename_i hb;rw[qet hb,qao h]
    · cases h
def qne:AV->AV->Bool
 | .agg x, .agg y=>qnf x y
 | .tup x, .tup y=>qnf x y
 |a,b=>eqA a b
def qan{a b:AV} (h:qne a b=true):a=b:=by
 unfold qne at h
 split at h
 ·rw[qao h]
 ·rw[qao h]
 ·exact qet h
def heapAt(rs:List Rc) (hN:T AO) (e:Nat):T AO:=match nth rs e with
 |some c=>c.h
 |none=>hN
def qeo(P:Program) (ops:Array Oper) (A:List Nat) (rs:List Rc) (hN:T AO):Bool:=
  q1p ops.toList.length λi=>match nth rs i with
    |none=>false
    | some c=>match c.w,c.k with
      | true, .r=>(others ops.toList A i).all λe=>match rop P c.t (heapAt rs hN e) c.o with
        |some v=>qne v c.v
        |none=>false
      |true, .a=>q1p (i+1) λe=> !(qgv ops.toList e)|| (match(heapAt rs hN e).get c.nx with|none=>true|some _=>false)
      |_,_=>true
def qqf:Option Nat->Option Nat->Bool
 |some a,some b=>Nat.beq a b
 |none,none=>true
 |_,_=>false
def qeu{a b:Option Nat} (h:qqf a b=true):a=b:=by
 cases a<;>cases b<;>first|rfl| (rw[Nat.eq_of_beq_eq_true h])|cases h
def qhk:List AV->List AV->Bool
  | [],[]=>true
  | a::x,b::y=>match qne a b with
    |true=>qhk x y
    |false=>false
  |_,_=>false
def qbn:∀{a b:List AV},qhk a b=true->a=b
  | [],[],_=>rfl
  | [],_::_,h=>by cases h
  |_::_,[],h=>by cases h
  | a::x,b::y,h=>by
    simp only[qhk]at h
    split at h
    · rename_i hb;rw[qan hb,qbn h]
    · cases h
def qpc:Option AO->Option AO->Bool
 |some (.cells e f g l),some (.cells e' f' g' l')=>Nat.beq e e'&&qqf f f'&&(g==g')&&qhk l l'
 |_,_=>false
def qes{a b:Option AO} (h:qpc a b=true):a=b:=by
 unfold qpc at h
 split at h
 ·simp only[Bool.and_eq_true,beq_iff_eq]at h
  obtain⟨⟨⟨h1,h2⟩,h3⟩,h4⟩:=h
  rw[Nat.eq_of_beq_eq_true h1,qeu h2,h3,qbn h4]
 ·cases h
def q8v(c:Rc):Option Nat:=match c.o.op with
  | .store _ x _=>match ev c.t x with
    |some (.ptr id _)=>some id
    |_=>none
  |_=>none
def q4h (P:Program) (pr:q4u) (rs:List Rc) (hN:T AO):Bool:=match pr with
  |none=>true
  | some (p,q)=>match nth rs p with
    | some ci =>match nth rs q with
      | some cj=>match sop P cj.t ci.h cj.nx cj.o with
        | some (_,B,_)=>match sop P ci.t B ci.nx ci.o with
          | some (_,B',_)=>match q8v ci with
            | some di=>match q8v cj with
              |some dj=>ci.w&&cj.w&&qpc (B'.get di) (hN.get di)&&qpc (B'.get dj) (hN.get dj)
              |none=>false
            |none=>false
          |none=>false
        |none=>false
      |none=>false
    |none=>false
def qm0(P:Program) (call:q03) (ext:q14) (n:Nat):qgr:=λops t h nx=>
  match q86 ops.toList 0 []with
  | some A=>match qif P ops A with
    | some pr=>match qg9 P call ext n ops ops.toList t h nx with
      | some (rs,t',h',nx')=>match qeo P ops A rs h'&&q4h P pr rs h' with
        |true=>some (t',h',nx')
        |false=>none
      |none=>none
    |none=>none
  |none=>none
def cnt:Nat->(Nat->Bool)->Nat
 |0,_=>0
 |n+1,f=>cnt n f+(if f n=true then 1 else 0)
def qj8:∀n f,cnt n f<=n
 |0,_=>Nat.le_refl _
 |n+1,f=>by have:=qj8 n f;simp only[cnt];split<;>omega
def qak:∀n f,cnt n f=n->∀i,i<n->f i=true
  |0,_,_,i,h=>by omega
  | n +1,f,h,i,hi=>by
    have:=qj8 n f
    simp only[cnt]at h
    split at h
    · rename_i hn
      by_cases e:i=n
      · subst e;exact hn
      · exact qak n f (by omega) i (by omega)
    · omega
def q50:∀n f g,(∀j,j<n->f j=g j)->cnt n f=cnt n g
 |0,_,_,_=>rfl
 |n+1,f,g,h=>by simp only[cnt];rw[q50 n f g λj hj=>h j (by omega),h n (by omega)]
def qal:∀n (f g:Nat->Bool) i,i<n->f i=false->g i=true->(∀j,j≠i->g j=f j)->cnt n g=cnt n f+1
  |0,_,_,i,h,_,_,_=>by omega
  | n +1,f,g,i,h,h1,h2,h3=>by
    simp only[cnt]
    by_cases e:i=n
    · subst e
      rw[q50 i g f λj hj=>h3 j (by omega),h1,h2];simp
    · rw[qal n f g i (by omega) h1 h2 h3,h3 n (λx=>e x.symm)];omega
def q5a{a:Act} {n d τ:Nat} {z:Value} (hn:a.tmps.size=n) (hd:d<n) (hg:d<q10):slot (a.put (some d) z).tmps τ=if τ=d then z else slot a.tmps τ:=by
 unfold slot
 simp only[Act.put]
 by_cases e:τ=d
 ·subst e
  rw[if_pos hg,if_pos rfl,Array.getD_eq_getD_getElem?,Array.getElem?_setIfInBounds_self_of_lt (by rw[hn];exact hd)];rfl
 ·rw[if_neg e]
  split
  ·rw[Array.getD_eq_getD_getElem?,Array.getElem?_setIfInBounds_ne (by omega),←Array.getD_eq_getD_getElem?]
  ·rfl
def q1u{n d:Nat} {v:AV} {t t':T AV} (h:q6w n (some d) v t=some t'):d<n/\d<q10/\∀τ,t'.get τ=if τ=d then some v else t.get τ:=by
 simp only[q6w]at h
 split at h
 ·rename_i h1
  split at h
  ·rename_i h2;exact⟨h1,h2,T.get_put _ _ _ _ _ h⟩
  ·cases h
 ·cases h
def qgt{a b:Nat} (h:Nat.blt a b=true):a<b:=by simpa[Nat.blt_eq]using h
def qd5(j:Nat):List Nat->Nat
  | []=>0
  | i::l=>match Nat.beq i j with
    |true=>0
    |false=>qd5 j l+1
def qjt(σ:List Nat) (e:Edge):Edge:={e with on:=qd5 e.on σ}
def qd6(σ:List Nat) (o:Oper):Oper:={o with after:=⟨o.after.toList.map (qjt σ)⟩,guard:=match o.guard with|some (j,b)=>some (qd5 j σ,b)|none=>none}
def q4l(l:List Oper) (σ:List Nat):List Nat->Option (List Oper)
  | []=>some []
  | i ::r=>match nth l i with
    | some o=>match q4l l σ r with
      |some x=>some (qd6 σ o::x)
      |none=>none
    |none=>none
def q4d(j:Nat):List Nat->Bool
 | []=>false
 |i::l=>Nat.beq i j||q4d j l
def q5x(n:Nat):List Edge->Bool
 | []=>true
 |e::l=>Nat.blt e.on n&&q5x n l
def qc6(l:List Oper) (σ:List Nat):Bool:=
 Nat.beq σ.length l.length&&q1p l.length λi=>
  (match nth σ (qd5 i σ)with|some j=>Nat.beq j i|none=>false)&&
  (match nth σ i with|some j=>Nat.blt j l.length&&Nat.beq (qd5 j σ) i|none=>false)&&
  (match nth l i with|some o=>q5x l.length o.after.toList&&(match o.guard with|some (j,_)=>Nat.blt j l.length|none=>true)|none=>false)
def q7s{l:List Oper} {σ:List Nat}:∀{r:List Nat} {x:List Oper},q4l l σ r=some x->x.length=r.length/\∀(k i:Nat),r[k]? =some i->∃o,l[i]? =some o/\x[k]? =some (qd6 σ o)
  | [],x,h=>by cases h;exact⟨rfl,λk i h=>by simp at h⟩
  | i ::r,x,h=>by
    simp only[q4l]at h
    split at h
    · rename_i o ho
      split at h
      · rename_i y hy
        cases h
        obtain⟨h1,h2⟩:=q7s hy
        refine⟨by simp[h1],λk j hk=> ?_⟩
        cases k with
        |zero=>simp at hk;subst hk;exact⟨o,by rw[←q0f];exact ho,rfl⟩
        |succ k=>simpa using h2 k j (by simpa using hk)
      · cases h
    · cases h
structure PermR(ops ops':Array Oper) (τ:Nat->Nat):Prop where
 size:ops'.size=ops.size
 lt:∀i,i<ops.size->τ i<ops.size
 inj:∀i j,i<ops.size->j<ops.size->τ i=τ j->i=j
 sur:∀k,k<ops.size->∃i,i<ops.size/\τ i=k
 op:∀i o,ops[i]? =some o->∃o',ops'[τ i]? =some o'/\(∀P a w K Q,o'.wp P a w K Q=o.wp P a w K Q)/\(∀P a w,o'.asks P a w=o.asks P a w)/\o'.dst=o.dst/\
  (∀l:Array Bool,∀l':Array Bool,(∀j,j<ops.size->∀d,l'.getD (τ j) d=l.getD j d)->(o'.after.all λe=> !Region.binds .any e||l'.getD e.on false)=(o.after.all λe=> !Region.binds .any e||l.getD e.on false))/\
  (∀j b,o.guard=some (j,b)->j<ops.size/\o'.guard=some (τ j,b))/\(o.guard=none->o'.guard=none)
def q48{n:Nat}:∀{l:List Edge},q5x n l=true->∀e∈l,e.on<n
  | [],_,e,h=>by cases h
  | x::l,h,e,he=>by
    simp only[q5x,Bool.and_eq_true]at h
    cases he with
    |head=>exact qgt h.1
    |tail _ he=>exact q48 h.2 e he
def qk2(σ:List Nat) (o:Oper):(∀P a w K Q,(qd6 σ o).wp P a w K Q=o.wp P a w K Q)/\(∀P a w,(qd6 σ o).asks P a w=o.asks P a w):=⟨λ_ _ _ _ _=>rfl,λ_ _ _=>rfl⟩
variable {ops:Array Oper}
def qfz{σ:List Nat} {x:List Oper} (h:qc6 ops.toList σ=true) (hx:q4l ops.toList σ σ=some x):PermR ops ⟨x⟩ λi=>qd5 i σ:=by
  unfold qc6 at h
  rw[Bool.and_eq_true]at h
  obtain⟨h0,h⟩:=h
  have hl:σ.length=ops.size:=by have:=Nat.eq_of_beq_eq_true h0;simpa using this
  have hn:ops.toList.length=ops.size:=by simp
  rw[hn]at h
  have H:=q08 h
  obtain⟨x1,x2⟩:=q7s hx
  have key:∀i,i<ops.size->σ[qd5 i σ]? =some i:=λi hi=>by
    have:=H i hi
    simp only[Bool.and_eq_true]at this
    have:=this.1.1
    split at this
    · rename_i j hj
      rw[q0f]at hj;rw[hj,Nat.eq_of_beq_eq_true this]
    · cases this
  have back:∀k,k<ops.size->∃j,σ[k]? =some j/\j<ops.size/\qd5 j σ=k:=λk hk=>by
    have:=H k hk
    simp only[Bool.and_eq_true]at this
    have:=this.1.2
    split at this
    · rename_i j hj
      simp only[Bool.and_eq_true]at this
      rw[q0f]at hj
      exact⟨j,hj,qgt this.1,Nat.eq_of_beq_eq_true this.2⟩
    · cases this
  refine⟨by simpa[x1]using hl,λi hi=> ?_,λi j hi hj e=> ?_,λk hk=> ?_,λi o ho=> ?_⟩
  · have:=(List.getElem?_eq_some_iff.1 (key i hi)).1
    omega
  · have h1:=key i hi
    have h2:=key j hj
    have e:qd5 i σ=qd5 j σ:=e
    rw[e,h2]at h1;cases h1;rfl
  · obtain⟨j,h1,h2,h3⟩:=back k hk
    exact⟨j,h2,h3⟩
  · have hi:i<ops.size:=(Array.getElem?_eq_some_iff.1 ho).1
    obtain⟨o2,g1,g2⟩:=x2 _ _ (key i hi)
    have:o2=o:=by
      have:ops.toList[i]? =some o:=by simpa using ho
      rw[this]at g1;cases g1;rfl
    subst this
    have hw:=H i hi
    simp only[Bool.and_eq_true]at hw
    have hw:=hw.2
    have hnn:nth ops.toList i=some o2:=by rw[q0f];simpa using ho
    rw[hnn]at hw
    simp only[Bool.and_eq_true]at hw
    refine⟨qd6 σ o2,by simpa using g2,(qk2 σ o2).1,(qk2 σ o2).2,rfl,λl l' hll=> ?_,λj b hg=> ?_,λhg=> ?_⟩
    · have he:=q48 hw.1
      have:∀es:List Edge,(∀e∈es,e.on<ops.size)->((es.map (qjt σ)).all λe=> !Region.binds .any e||l'.getD e.on false)=(es.all λe=> !Region.binds .any e||l.getD e.on false):=by
        intro es
        induction es with
        |nil=>intro _;rfl
        | cons e es ih=>
          intro hes
          rw[List.map_cons,List.all_cons,List.all_cons,ih λe he=>hes e (.tail _ he)]
          have h1:(qjt σ e).on=qd5 e.on σ:=rfl
          have h2:Region.binds .any (qjt σ e)=Region.binds .any e:=rfl
          rw[h1,h2,hll e.on (hes e (.head _)) false]
      have h2:=this o2.after.toList (λe h=>he e h)
      rw[←Array.all_toList,←Array.all_toList]
      exact h2
    · have:=hw.2
      rw[hg]at this
      refine⟨qgt this,?_⟩
      unfold qd6;rw[hg]
    · unfold qd6;rw[hg]
variable {τ:Nat->Nat}
def PermR.yield{ops ops':Array Oper} (p:PermR ops ops' τ) (tmps:Array Value) {j:Nat} (hj:j<ops.size):yielded ops' tmps (τ j)=yielded ops tmps j:=by
 obtain⟨o',h1,_,_,h4,_⟩:=p.op j _ (Array.getElem?_eq_getElem hj)
 unfold yielded
 rw[h1,Array.getElem?_eq_getElem hj]
 simp only[Option.bind_some,h4]
def Lst(ops:Array Oper) (τ:Nat->Nat) (l l':Array Bool):Prop:=l.size=ops.size/\l'.size=ops.size/\∀j,j<ops.size->∀d,l'.getD (τ j) d=l.getD j d
def PermR.ready{ops ops':Array Oper} (p:PermR ops ops' τ) {l l':Array Bool} (h:Lst ops τ l l') {i:Nat} (hi:i<ops.size):τ i∈Region.ready .any ops' l'↔i∈Region.ready .any ops l:=by
 unfold Region.ready
 rw[List.mem_filter,List.mem_filter,List.mem_range,List.mem_range,p.size]
 obtain⟨o',h1,_,_,_,h5,_⟩:=p.op i _ (Array.getElem?_eq_getElem hi)
 rw[h.2.2 i hi true,h1,Array.getElem?_eq_getElem hi]
 simp only[Option.map_some,Option.getD_some]
 rw[h5 l l' h.2.2]
 simp[hi,p.lt i hi]
def q43{l:Array Bool} {i:Nat} (h:i∈Region.ready .any ops l):i<ops.size:=by
 unfold Region.ready at h
 rw[List.mem_filter,List.mem_range]at h
 exact h.1
def Lst.set{ops ops':Array Oper} (p:PermR ops ops' τ) {l l':Array Bool} (h:Lst ops τ l l') {i:Nat} (hi:i<ops.size):Lst ops τ (l.setIfInBounds i true) (l'.setIfInBounds (τ i) true):=by
 refine⟨by simp[h.1],by simp[h.2.1],λj hj d=> ?_⟩
 have e:=h.2.2 j hj d
 simp only[Array.getD_eq_getD_getElem?,Array.getElem?_setIfInBounds]at e⊢
 by_cases hij:i=j
 ·subst hij
  have:=p.lt i hi
  simp[h.1,h.2.1,hi,this]
 ·have:τ i≠τ j:=λe=>hij (p.inj i j hi hj e)
  rw[if_neg this,if_neg hij];exact e
def q7t{P:Program} {ops ops':Array Oper} (p:PermR ops ops' τ) {Q:Exit->Act->World->Prop}:∀(fuel:Nat) (l l':Array Bool) (a:Act) (w:World),Lst ops τ l l'->wpAny P .any ops' Q fuel l' a w->wpAny P .any ops Q fuel l a w:=by
  have empty:∀l l',Lst ops τ l l'->(Region.ready .any ops l=[]↔Region.ready .any ops' l'=[]):=λl l' h=>by
    constructor
    · intro e
      rw[List.eq_nil_iff_forall_not_mem]
      intro k hk
      have hlt:=q43 hk
      rw[p.size]at hlt
      obtain⟨i,hi,rfl⟩:=p.sur k hlt
      have:=(p.ready h hi).1 hk
      rw[e]at this;cases this
    · intro e
      rw[List.eq_nil_iff_forall_not_mem]
      intro i hi
      have:=(p.ready h (q43 hi)).2 hi
      rw[e]at this;cases this
  intro fuel
  induction fuel with
  | zero=>
    intro l l' a w hl h
    exact⟨(empty l l' hl).2 h.1,h.2⟩
  | succ fuel ih=>
    intro l l' a w hl h
    refine⟨λe=>h.1 ((empty l l' hl).1 e),λi hi=> ?_⟩
    have hlt:=q43 hi
    have h1:=h.2 (τ i) ((p.ready hl hlt).2 hi)
    have h2:=wpOp_mono (λa w=>ih (l.setIfInBounds i true) (l'.setIfInBounds (τ i) true) a w (hl.set p hlt)) h1
    obtain⟨o',g1,g2,g3,g4,g5,g6,g7⟩:=p.op i _ (Array.getElem?_eq_getElem hlt)
    unfold wpOp at h2⊢
    rw[g1]at h2
    rw[Array.getElem?_eq_getElem hlt]
    simp only at h2⊢
    have hw:Region.wanted o' (yielded ops' a.tmps)=Region.wanted ops[i] (yielded ops a.tmps):=by
      unfold Region.wanted
      cases hg:ops[i].guard with
      |none=>rw[g7 hg]
      | some x=>
        obtain⟨j,b⟩:=x
        obtain⟨q1,q2⟩:=g6 j b hg
        rw[q2]
        simp only
        rw[p.yield _ q1]
    rw[hw,g2,g3,g4]at h2
    exact h2
def qdz(A:List Nat) (i:Nat):List Nat->List Nat->List Nat
  | [],done=>done
  | j::l,done=>match q15 A i j&& !(q4d j done)with
    |true=>qdz A i l (done++[j])
    |false=>qdz A i l done
def qc5(A:List Nat) (l:List Oper) (all:List Nat):List Nat->List Nat->List Nat
  | [],done=>done
  | i ::r,done=>match nth l i with
    | some o=>match isS o&& !(q4d i done)with
      |true=>qc5 A l all r (qdz A i all done++[i])
      |false=>qc5 A l all r done
    |none=>qc5 A l all r done
def qm4:List Nat->List Nat->List Nat
  | [],done=>done
  | j::l,done=>match q4d j done with
    |true=>qm4 l done
    |false=>qm4 l (done++[j])
def qi9(A:List Nat) (ops:Array Oper):List Nat:=qm4 (List.range ops.toList.length) (qc5 A ops.toList (List.range ops.toList.length) (List.range ops.toList.length) [])
def qoi(A:List Nat) (ops:Array Oper):Option (Array Oper):=
  match qc6 ops.toList (qi9 A ops)with
  | true=>match q4l ops.toList (qi9 A ops) (qi9 A ops)with
    |some x=>some ⟨x⟩
    |none=>none
  |false=>none
def onE(j:Nat):List Edge->Bool
 | []=>false
 |e::l=>(Region.binds .any e&&Nat.beq e.on j)||onE j l
def q5w(l:List Oper) (k j:Nat):Bool:=match nth l k with
 |some o=>onE j o.after.toList
 |none=>false
def qe3:Nat->(Nat->Bool)->Bool
 |0,_=>false
 |n+1,p=>p n||qe3 n p
def q87:∀{n:Nat} {p:Nat->Bool},qe3 n p=true->∃k,k<n/\p k=true
  | n+1,p,h=>by
    unfold qe3 at h
    rw[Bool.or_eq_true]at h
    rcases h with h|h
    · exact⟨n,by omega,h⟩
    · obtain⟨k,h1,h2⟩:=q87 h;exact⟨k,by omega,h2⟩
def qb8(l:List Oper) (q:Nat):Bool:=
 Nat.blt q l.length&&
 (q1p l.length (λi=>match nth l i with|some o=>q5x i o.after.toList&&(match o.guard with|some (j,_)=>Nat.blt j i|none=>true)|none=>false)&&
 (q1p q (λj=>qe3 (q+1) λk=>Nat.blt j k&&q5w l k j)&&
 q1p l.length (λi=>Nat.ble i q||q5w l i (i- 1))))
def qft{j:Nat}:∀{l:List Edge},onE j l=true->∃e∈l,Region.binds .any e=true/\e.on=j
  | e::l,h=>by
    unfold onE at h
    rw[Bool.or_eq_true,Bool.and_eq_true]at h
    rcases h with h|h
    · exact⟨e,List.mem_cons_self,h.1,Nat.eq_of_beq_eq_true h.2⟩
    · obtain⟨e',h1,h2⟩:=qft h;exact⟨e',List.mem_cons_of_mem _ h1,h2⟩
structure SpR(ops:Array Oper) (q:Nat):Prop where
 lt:q<ops.size
 back:∀i (h:i<ops.size),(∀e∈ops[i].after,e.on<i)/\∀j b,ops[i].guard=some (j,b)->j<i
 succ:∀j,j<q->∃k,j<k/\k<=q/\∃(h:k<ops.size),∃e∈ops[k].after,Region.binds .any e=true/\e.on=j
 next:∀i (h:i<ops.size),q<i->∃e∈ops[i].after,Region.binds .any e=true/\e.on=i- 1
variable {ops:Array Oper}
def qip{q:Nat} (h:qb8 ops.toList q=true):SpR ops q:=by
 unfold qb8 at h
 simp only[Bool.and_eq_true]at h
 obtain⟨h1,h2,h3,h4⟩:=h
 have hl:ops.toList.length=ops.size:=Array.length_toList
 have hq:q<ops.size:=by rw[←hl];exact qgt h1
 have at':∀i (hi:i<ops.size),nth ops.toList i=some ops[i]:=λi hi=>by rw[q0f];simp[hi]
 have edge:∀k j (hk:k<ops.size),q5w ops.toList k j=true->∃e∈ops[k].after,Region.binds .any e=true/\e.on=j:=λk j hk e=>by
  unfold q5w at e
  rw[at' k hk]at e
  obtain⟨x,e1,e2⟩:=qft e
  exact⟨x,Array.mem_toList_iff.1 e1,e2⟩
 refine⟨hq,λi hi=> ?_,λj hj=> ?_,λi hi hqi=> ?_⟩
 ·have:=q08 h2 i (by rw[hl];exact hi)
  rw[at' i hi]at this
  simp only[Bool.and_eq_true]at this
  refine⟨λe he=>q48 this.1 e (Array.mem_toList_iff.2 he),λj b hg=> ?_⟩
  have g:=this.2
  rw[hg]at g
  exact qgt g
 ·obtain⟨k,k1,k2⟩:=q87 (q08 h3 j hj)
  rw[Bool.and_eq_true]at k2
  have hk:k<ops.size:=by omega
  exact⟨k,qgt k2.1,by omega,hk,edge k j hk k2.2⟩
 ·have:=q08 h4 i (by rw[hl];exact hi)
  rw[Bool.or_eq_true]at this
  rcases this with h|h
  ·exact absurd (Nat.le_of_ble_eq_true h) (by omega)
  ·exact edge i (i- 1) hi h
structure Lq(ops:Array Oper) (l:Array Bool):Prop where
 size:l.size=ops.size
 down:∀i (h:i<ops.size),l.getD i true=true->∀e∈ops[i].after,Region.binds .any e=true->l.getD e.on false=true
variable {l:Array Bool}
def q0q{i:Nat}:i∈Region.ready .any ops l↔∃(h:i<ops.size),l.getD i true=false/\∀e∈ops[i].after,Region.binds .any e=true->l.getD e.on false=true:=by
 unfold Region.ready
 rw[List.mem_filter,List.mem_range]
 constructor
 ·rintro⟨h,h2⟩
  rw[Bool.and_eq_true,Bool.not_eq_true',Array.getElem?_eq_getElem h]at h2
  refine⟨h,h2.1,λe he hb=> ?_⟩
  have:=h2.2
  simp only[Option.map_some,Option.getD_some,Array.all_eq_true_iff_forall_mem]at this
  have:=this e he
  rw[hb]at this
  simpa using this
 ·rintro⟨h,h1,h2⟩
  refine⟨h,?_⟩
  rw[Bool.and_eq_true,Bool.not_eq_true',Array.getElem?_eq_getElem h]
  refine⟨h1,?_⟩
  simp only[Option.map_some,Option.getD_some,Array.all_eq_true_iff_forall_mem]
  intro e he
  cases hb:Region.binds .any e with
  |false=>rfl
  |true=>rw[h2 e he hb];rfl
def q2a{i:Nat} (h:i<l.size) (a b:Bool):l.getD i a=l.getD i b:=by simp[Array.getD_eq_getD_getElem?,h]
def q0p{i j:Nat} (hi:i<l.size) (d:Bool):(l.setIfInBounds i true).getD j d=if j=i then true else l.getD j d:=by
 rw[Array.getD_eq_getD_getElem?,Array.getElem?_setIfInBounds]
 by_cases h:i=j
 ·subst h;rw[if_pos rfl,if_pos hi,if_pos rfl];rfl
 ·rw[if_neg h,if_neg (λe=>h e.symm),Array.getD_eq_getD_getElem?]
def Lq.set(h:Lq ops l) {i:Nat} (hi:i∈Region.ready .any ops l):Lq ops (l.setIfInBounds i true):=by
 obtain⟨h1,h2,h3⟩:=q0q.1 hi
 have hs:i<l.size:=by rw[h.size];exact h1
 refine⟨by rw[Array.size_setIfInBounds,h.size],λk hk hl e he hb=> ?_⟩
 rw[q0p hs]at hl⊢
 by_cases he2:e.on=i
 ·rw[if_pos he2]
 ·rw[if_neg he2]
  by_cases hki:k=i
  ·subst hki;exact h3 e he hb
  ·rw[if_neg hki]at hl;exact h.down k hk hl e he hb
def q8z{o:Oper} {P:Program} {a:Act} {w:World} {K:Act->World->Prop} {Q Q':Exit->Act->World->Prop} (h:∀e a w,e≠ .normal->Q' e a w->Q e a w) (hh:o.wp P a w K Q'):o.wp P a w K Q:=by
  have lets:LetsOut Q'->LetsOut Q:=λ⟨a,w,h2⟩=>⟨a,w,h _ _ _ (by simp) h2⟩
  unfold Oper.wp at*
  generalize (execOp a.eval o).run P w=r at*
  cases r with
  | ok n w'=>
    cases n<;>simp only[Oper.upon]at hh⊢<;>
      first
        |exact hh
        |exact Calls.mono hh (λe w'' he=>by cases e<;>first|exact he|exact h _ _ _ (by simp) he|exact lets he)
  |halt x w'=>cases x<;>simp only[Oper.upon]at hh⊢<;>first|exact h _ _ _ (by simp) hh|exact hh|exact lets hh
def qcf{P:Program} {ops:Array Oper} {q:Nat} (s:SpR ops q) {Q:Exit->Act->World->Prop}:∀(m k:Nat) (l:Array Bool) (fuel:Nat) (a:Act) (w:World),k+m=ops.size->q<=k->m<=fuel->Lq ops l->(∀i,i<ops.size->∀d,l.getD i d=decide (i<k))->wpOps P ops Q (List.range' k m) a w->wpAny P .any ops Q fuel l a w
  | 0,k,l,fuel,a,w,hk,hq,hf,hl,hd,h=>by
    have e:Region.ready .any ops l=[]:=by
      rw[List.eq_nil_iff_forall_not_mem]
      intro i hi
      obtain⟨h1,h2,_⟩:=q0q.1 hi
      rw[hd i h1]at h2
      exact absurd (of_decide_eq_false h2) (by omega)
    cases fuel with
    |zero=>exact⟨e,h⟩
    |succ f=>exact⟨λ_=>h,λi hi=>by rw[e]at hi;cases hi⟩
  |m+1,k,l,0,a,w,hk,hq,hf,hl,hd,h=>absurd hf (by omega)
  | m + 1,k,l,f+1,a,w,hk,hq,hf,hl,hd,h=>by
    have hks:k<ops.size:=by omega
    have hr:k∈Region.ready .any ops l:=q0q.2 ⟨hks,by rw[hd k hks];exact decide_eq_false (by omega),λe he _=>by
      have:=(s.back k hks).1 e he
      rw[hd e.on (by omega)];exact decide_eq_true this⟩
    refine⟨λe=>(by rw[e]at hr;cases hr),λi hi=> ?_⟩
    obtain⟨h1,h2,h3⟩:=q0q.1 hi
    rw[hd i h1]at h2
    have hik:=of_decide_eq_false h2
    have:i=k:=by
      by_cases e:i=k
      · exact e
      · obtain⟨x,hx,hb,ho⟩:=s.next i h1 (by omega)
        have:=h3 x hx hb
        rw[ho,hd (i- 1) (by omega)]at this
        exact absurd (of_decide_eq_true this) (by omega)
    subst this
    rw[List.range'_succ,wpOps_cons]at h
    refine wpOp_mono (λa w h=>qcf s m (i+1) _ f a w (by omega) (by omega) (by omega) (hl.set hr) (λj hj d=> ?_) h) h
    rw[q0p (by rw[hl.size];exact h1)]
    by_cases e:j=i
    · rw[if_pos e];exact(decide_eq_true (by omega)).symm
    · rw[if_neg e,hd j hj]
      by_cases g:j<i
      · rw[decide_eq_true g,decide_eq_true (by omega)]
      · rw[decide_eq_false g,decide_eq_false (by omega)]
def q1g(ops:Array Oper) (q:Nat):Array Oper:=⟨ops.toList.take q⟩
def q29{q:Nat} (h:q<ops.size):(q1g ops q).size=q:=by
 show(ops.toList.take q).length=q
 rw[List.length_take,Array.length_toList];omega
def q12{q i:Nat} (h:q<ops.size) (hi:i<q):(q1g ops q)[i]? =some (ops[i]'(by omega)):=by
 unfold q1g
 have e:∀l:List Oper,(⟨l⟩:Array Oper)[i]? =l[i]? :=λl=>by simp
 rw[e,List.getElem?_take,if_pos hi,Array.getElem?_toList,Array.getElem?_eq_getElem (by omega)]
def qgi{P:Program} {ops:Array Oper} {q:Nat} (s:SpR ops q) {Q Q':Exit->Act->World->Prop} (hn:∀a w,Q' .normal a w->wpOps P ops Q (List.range' q (ops.size- q)) a w) (ho:∀e a w,e≠ .normal->Q' e a w->Q e a w):∀(fuel:Nat) (l l':Array Bool) (a:Act) (w:World),Lq ops l->(∀i,q<=i->i<ops.size->∀d,l.getD i d=false)->l'.size=q->(∀i,i<q->∀d,l'.getD i d=l.getD i d)->wpAny P .any (q1g ops q) Q' fuel l' a w->wpAny P .any ops Q (fuel+(ops.size- q)) l a w:=by
  have hs:=q29 s.lt
  have rd:∀{l l':Array Bool},(∀i,i<q->∀d,l'.getD i d=l.getD i d)->∀i,i∈Region.ready .any (q1g ops q) l'↔i<q/\i∈Region.ready .any ops l:=λ{l l'} hll i=>by
    rw[q0q,q0q]
    constructor
    · rintro⟨h1,h2,h3⟩
      have hi:i<q:=by rw[hs]at h1;exact h1
      have hg:(q1g ops q)[i]=ops[i]'(by have:=s.lt;omega):=by
        have:=q12 s.lt hi
        rw[Array.getElem?_eq_getElem h1]at this
        exact Option.some.inj this
      rw[hg]at h3
      refine⟨hi,by have:=s.lt;omega,by rw[←hll i hi];exact h2,λe he hb=> ?_⟩
      have:=(s.back i (by have:=s.lt;omega)).1 e he
      rw[←hll e.on (by omega)];exact h3 e he hb
    · rintro⟨hi,h1,h2,h3⟩
      have h1':i<(q1g ops q).size:=by rw[hs];exact hi
      have hg:(q1g ops q)[i]=ops[i]'h1:=by
        have:=q12 s.lt hi
        rw[Array.getElem?_eq_getElem h1']at this
        exact Option.some.inj this
      refine⟨h1',by rw[hll i hi];exact h2,λe he hb=> ?_⟩
      rw[hg]at he
      have:=(s.back i h1).1 e he
      rw[hll e.on (by omega)];exact h3 e he hb
  have prog :∀{l:Array Bool},Lq ops l->(∀i,i<q->l.getD i true=true)\/∃i,i<q/\i∈Region.ready .any ops l:=λ{l} hl=>by
    have step:∀m:Nat,m<=q->(∀i,i<m->l.getD i true=true)\/∃i,i<q/\i∈Region.ready .any ops l:=λm=>by
      induction m with
      |zero=>intro _;exact .inl λi h=>absurd h (by omega)
      | succ m ih=>
        intro hm
        rcases ih (by omega)with h|h
        · have hms:m<ops.size:=by have:=s.lt;omega
          cases hb:l.getD m true with
          | true=>
            refine .inl λi hi=> ?_
            by_cases e:i=m
            · rw[e];exact hb
            · exact h i (by omega)
          | false=>
            refine .inr ⟨m,by omega,q0q.2 ⟨hms,hb,λe he _=> ?_⟩⟩
            have:=(s.back m hms).1 e he
            rw[q2a (by rw[hl.size];omega) false true]
            exact h e.on this
        · exact .inr h
    exact step q (Nat.le_refl _)
  have only:∀{l:Array Bool},Lq ops l->(∀i,q<=i->i<ops.size->∀d,l.getD i d=false)->∀i,q<=i->i∈Region.ready .any ops l->∀j,j<q->l.getD j true=true:=λ{l} hl hz i hqi hi=>by
    obtain⟨h1,h2,h3⟩:=q0q.1 hi
    have hiq:i=q:=by
      by_cases e:i=q
      · exact e
      · obtain⟨x,hx,hb,ho'⟩:=s.next i h1 (by omega)
        have:=h3 x hx hb
        rw[ho',hz (i- 1) (by omega) (by omega)]at this
        cases this
    subst hiq
    have down:∀d j,i- j<=d->j<i->l.getD j true=true:=λd=>by
      induction d with
      |zero=>intro j h4 h5;omega
      | succ d ih=>
        intro j h4 h5
        obtain⟨k,k1,k2,hk,e,he,hb,hon⟩:=s.succ j h5
        rw[q2a (by rw[hl.size];omega) true false,←hon]
        by_cases hki:k=i
        · subst hki;exact h3 e he hb
        · exact hl.down k hk (ih k (by omega) (by omega)) e he hb
    exactλj hj=>down i j (by omega) hj
  have fin:∀(l:Array Bool) (fuel:Nat) (a:Act) (w:World),ops.size- q<=fuel->Lq ops l->(∀i,q<=i->i<ops.size->∀d,l.getD i d=false)->(∀i,i<q->l.getD i true=true)->Q' .normal a w->wpAny P .any ops Q fuel l a w:=λl fuel a w hf hl hz hd h=>by
    refine qcf s (ops.size- q) q l fuel a w (by have:=s.lt;omega) (Nat.le_refl _) hf hl (λi hi d=> ?_) (hn a w h)
    by_cases hiq:i<q
    · rw[decide_eq_true hiq,q2a (by rw[hl.size];exact hi) d true];exact hd i hiq
    · rw[decide_eq_false hiq];exact hz i (by omega) hi d
  intro fuel
  induction fuel with
  | zero=>
    intro l l' a w hl hz hs' hll h
    refine fin l _ a w (by omega) hl hz ?_ h.2
    rcases prog hl with hd|⟨i,hi,hr⟩
    · exact hd
    · have:=(rd hll i).2 ⟨hi,hr⟩
      rw[h.1]at this;cases this
  | succ fuel ih=>
    intro l l' a w hl hz hs' hll h
    rcases prog hl with hd|⟨i,hi,hr⟩
    · refine fin l _ a w (by omega) hl hz hd (h.1 ?_)
      rw[List.eq_nil_iff_forall_not_mem]
      intro i hi
      obtain⟨hiq,hi2⟩:=(rd hll i).1 hi
      obtain⟨_,h2,_⟩:=q0q.1 hi2
      rw[hd i hiq]at h2;cases h2
    · rw [show fuel+1+(ops.size- q)=(fuel+(ops.size- q))+1 by omega]
      refine⟨λe=>(by rw[e]at hr;cases hr),λk hk=> ?_⟩
      have hkq:k<q:=by
        by_cases hkq:k<q
        · exact hkq
        · obtain⟨_,h2,_⟩:=q0q.1 hr
          rw[only hl hz k (by omega) hk i hi]at h2;cases h2
      have hks:k<ops.size:=by have:=s.lt;omega
      have h1:=h.2 k ((rd hll k).2 ⟨hkq,hk⟩)
      have h2:=wpOp_mono (λa w h=>ih (l.setIfInBounds k true) (l'.setIfInBounds k true) a w (hl.set hk) (λj hj hjs d=>by rw[q0p (by rw[hl.size];exact hks),if_neg (by omega)];exact hz j hj hjs d) (by rw[Array.size_setIfInBounds];exact hs') (λj hj d=>by rw[q0p (l:=l') (by rw[hs'];exact hkq),q0p (l:=l) (by rw[hl.size];exact hks),hll j hj d]) h) h1
      unfold wpOp at h2⊢
      rw[q12 s.lt hkq]at h2
      rw[Array.getElem?_eq_getElem hks]
      simp only at h2⊢
      have hw:Region.wanted ops[k] (yielded (q1g ops q) a.tmps)=Region.wanted ops[k] (yielded ops a.tmps):=by
        unfold Region.wanted
        cases hg:ops[k].guard with
        |none=>rfl
        | some x=>
          obtain⟨j,b⟩:=x
          have hj:=(s.back k hks).2 j b hg
          simp only
          unfold yielded
          rw[q12 s.lt (show j<q by omega),Array.getElem?_eq_getElem (by omega)]
      rw[hw]at h2
      split
      · rename_i hwt
        rw[if_pos hwt]at h2
        exact h2.imp (q8z ho) λh=>⟨h.1,h.2.elim λa h=>h.elim λw h=>⟨a,w,ho _ _ _ (by simp) h⟩⟩
      · rename_i hwt
        rw[if_neg hwt]at h2;exact h2
def qiv(o:Oper) (i:Nat):Oper:={o with after:=⟨{on:=i,ground:= .data}::o.after.toList⟩}
def qdw:List Oper->Nat->Nat->List Oper
  | [],_,_=>[]
  | o::l,j,i=>match j with
    |0=>qiv o i::l
    |j+1=>o::qdw l j i
def qa3(ops:Array Oper) (j i:Nat):Array Oper:=⟨qdw ops.toList j i⟩
def qbb:∀(l:List Oper) (j i k:Nat),(qdw l j i)[k]? =if k=j then(l[k]?).map (qiv · i)else l[k]?
  | [],j,i,k=>by simp[qdw]
  | o::l,0,i,k=>by
    cases k with
    |zero=>simp[qdw]
    |succ k=>simp[qdw]
  | o ::l,j+1,i,k=>by
    cases k with
    |zero=>simp[qdw]
    | succ k=>
      simp only[qdw,List.getElem?_cons_succ,qbb l j i k]
      by_cases h:k=j
      · rw[if_pos h,if_pos (by omega)]
      · rw[if_neg h,if_neg (by omega)]
def qbc:∀(l:List Oper) (j i:Nat),(qdw l j i).length=l.length
 | [],j,i=>rfl
 |o::l,0,i=>rfl
 |o::l,j+1,i=>by simp[qdw,qbc l j i]
def qdv(ops:Array Oper) (j i:Nat):(qa3 ops j i).size=ops.size:=by
 show(qdw ops.toList j i).length=_
 rw[qbc,Array.length_toList]
def q4x(ops:Array Oper) (j i k:Nat):(qa3 ops j i)[k]? =if k=j then(ops[k]?).map (qiv · i)else ops[k]? :=by
 unfold qa3
 have e:∀l:List Oper,(⟨l⟩:Array Oper)[k]? =l[k]? :=λl=>by simp
 rw[e,qbb,Array.getElem?_toList]
variable {ops:Array Oper} {l:Array Bool}
def q55{i:Nat}:i∈Region.ready .any ops l↔∃o,ops[i]? =some o/\l.getD i true=false/\∀e∈o.after,Region.binds .any e=true->l.getD e.on false=true:=by
 rw[q0q]
 constructor
 ·rintro⟨h,h1,h2⟩;exact⟨ops[i],Array.getElem?_eq_getElem h,h1,h2⟩
 ·rintro⟨o,h,h1,h2⟩
  obtain⟨hi,rfl⟩:=Array.getElem?_eq_some_iff.1 h
  exact⟨hi,h1,h2⟩
def q1b{j i:Nat} {k:Nat}:k∈Region.ready .any (qa3 ops j i) l↔k∈Region.ready .any ops l/\(k=j->l.getD i false=true):=by
  rw[q55,q55]
  constructor
  · rintro⟨o,h,h1,h2⟩
    rw[q4x]at h
    by_cases hk:k=j
    · rw [if_pos hk]at h
      cases ho:ops[k]? with
      |none=>rw[ho]at h;cases h
      | some o'=>
        rw[ho]at h;cases h
        refine⟨⟨o',rfl,h1,λe he hb=>h2 e ?_ hb⟩,λ_=>h2 {on:=i,ground:= .data} ?_ rfl⟩
        · show e∈(⟨_::o'.after.toList⟩:Array Edge)
          simp;exact .inr he
        · show _∈(⟨_::o'.after.toList⟩:Array Edge)
          simp
    · rw[if_neg hk]at h
      exact⟨⟨o,h,h1,h2⟩,λe=>absurd e hk⟩
  · rintro⟨⟨o,h,h1,h2⟩,h3⟩
    rw[q4x]
    by_cases hk:k=j
    · rw[if_pos hk,h]
      refine⟨qiv o i,rfl,h1,λe he hb=> ?_⟩
      have he:e∈(⟨{on:=i,ground:= .data}::o.after.toList⟩:Array Edge):=he
      simp at he
      rcases he with rfl|he
      · exact h3 hk
      · exact h2 e he hb
    · rw[if_neg hk];exact⟨o,h,h1,h2⟩
def q9z(ops:Array Oper) (j i:Nat) (tmps:Array Value) (k:Nat):yielded (qa3 ops j i) tmps k=yielded ops tmps k:=by
 unfold yielded
 rw[q4x]
 by_cases hk:k=j
 ·rw[if_pos hk];cases ops[k]? <;>rfl
 ·rw[if_neg hk]
variable {Q:Exit->Act->World->Prop} {a:Act} {w:World}
def qgo{P:Program} {j i:Nat} {k:Nat} {K:Act->World->Prop}:wpOp P (qa3 ops j i) Q k K a w↔wpOp P ops Q k K a w:=by
  have hw:∀o,Region.wanted o (yielded (qa3 ops j i) a.tmps)=Region.wanted o (yielded ops a.tmps):=λo=>by
    rw[show yielded (qa3 ops j i) a.tmps=yielded ops a.tmps from funext (q9z ops j i a.tmps)]
  unfold wpOp
  rw[q4x]
  by_cases hk:k=j
  · rw[if_pos hk]
    cases ops[k]? with
    |none=>exact Iff.rfl
    | some o=>
      simp only[Option.map_some,hw]
      exact Iff.rfl
  · rw[if_neg hk]
    cases ops[k]? with
    |none=>exact Iff.rfl
    |some o=>simp only[hw]
def qf5{i k:Nat} (h:l.getD i false=true):(l.setIfInBounds k true).getD i false=true:=by
 by_cases hk:k<l.size
 ·rw[q0p hk];split
  ·rfl
  ·exact h
 ·rw[Array.setIfInBounds_eq_of_size_le (by omega)];exact h
inductive OrdO(ops:Array Oper):Nat->Array Bool->List Nat->Prop
 |zero (l:Array Bool):OrdO ops 0 l []
 |stop {f:Nat} {l:Array Bool} (h:Region.ready .any ops l=[]):OrdO ops (f+1) l []
 |step {f:Nat} {l:Array Bool} {k:Nat} {r:List Nat} (h:k∈Region.ready .any ops l) (t:OrdO ops f (l.setIfInBounds k true) r):OrdO ops (f+1) l (k::r)
def qlr(ops:Array Oper):∀(f t:Nat) (l:Array Bool),OrdO ops f l (Region.linearise.go .any ops f t l []):=by
  intro f
  induction f with
  |zero=>intro t l;exact .zero l
  | succ f ih=>
    intro t l
    simp only[Region.linearise.go]
    change OrdO ops (f+1) l (match(Region.ready .any ops l)[t % (Region.ready .any ops l).length]? with
      |some i=>Region.linearise.go .any ops f (t / (Region.ready .any ops l).length) (l.setIfInBounds i true) [i]
      |none=>[].reverse)
    cases hi:(Region.ready .any ops l)[t % (Region.ready .any ops l).length]? with
    | none=>
      refine .stop ?_
      cases hr:Region.ready .any ops l with
      |nil=>rfl
      | cons x xs=>
        rw[hr]at hi
        have hlt:t % (x::xs).length<(x::xs).length:=Nat.mod_lt _ (by simp)
        simp at hi
        simp at hlt
        omega
    | some i=>
      simp only[]
      rw[linearise_go_acc,List.reverse_singleton,List.singleton_append]
      exact .step (List.mem_of_getElem? hi) (ih _ _)
def qgn{P:Program}:∀{f:Nat} {l:Array Bool} {r:List Nat},OrdO ops f l r->∀{a:Act} {w:World},wpAny P .any ops Q f l a w->wpOps P ops Q r a w:=by
  intro f l r h
  induction h with
  |zero l=>intro a w h;exact h.2
  |stop e=>intro a w h;exact h.1 e
  | step hk t ih=>
    intro a w h
    rw[wpOps_cons]
    exact wpOp_mono (λa w h=>ih h) (h.2 _ hk)
def qc4{j i:Nat}:∀{f:Nat} {l:Array Bool} {r:List Nat},OrdO ops f l r->l.getD i false=true->OrdO (qa3 ops j i) f l r:=by
  intro f l r h
  induction h with
  |zero l=>intro _;exact .zero l
  | stop e=>
    intro _
    refine .stop ?_
    rw[List.eq_nil_iff_forall_not_mem]
    intro k hk
    have:=(q1b.1 hk).1
    rw[e]at this;cases this
  |step hk t ih=>intro hi;exact .step (q1b.2 ⟨hk,λ_=>hi⟩) (ih (qf5 hi))
def qls{ops:Array Oper} {i j:Nat} (hij:i≠j):∀{f:Nat} {l:Array Bool} {r:List Nat},OrdO ops f l r->l.size=ops.size->OrdO (qa3 ops j i) f l r\/OrdO (qa3 ops i j) f l r:=by
  intro f l r h
  induction h with
  |zero l=>intro _;exact .inl (.zero l)
  | stop e=>
    intro _
    refine .inl (.stop ?_)
    rw[List.eq_nil_iff_forall_not_mem]
    intro k hk
    have:=(q1b.1 hk).1
    rw[e]at this;cases this
  | @step f l k r hk t ih=>
    intro hs
    have hlt:k<l.size:=by rw[hs];exact q43 hk
    have hset:(l.setIfInBounds k true).getD k false=true:=by rw[q0p hlt,if_pos rfl]
    by_cases hj:k=j
    · subst hj
      exact .inr (.step (q1b.2 ⟨hk,λe=>absurd e.symm hij⟩) (qc4 t hset))
    · by_cases hi:k=i
      · subst hi
        exact .inl (.step (q1b.2 ⟨hk,λe=>absurd e hj⟩) (qc4 t hset))
      · rcases ih (by rw[Array.size_setIfInBounds];exact hs)with h|h
        · exact .inl (.step (q1b.2 ⟨hk,λe=>absurd e hj⟩) h)
        · exact .inr (.step (q1b.2 ⟨hk,λe=>absurd e hi⟩) h)
def q35{P:Program} {ops:Array Oper} {j i:Nat} {Q:Exit->Act->World->Prop}:∀{r:List Nat} {a:Act} {w:World},wpOps P (qa3 ops j i) Q r a w↔wpOps P ops Q r a w
  | [],a,w=>Iff.rfl
  | k::r,a,w=>by
    rw[wpOps_cons,wpOps_cons,qgo]
    constructor
    · exact wpOp_mono λa w h=>q35.1 h
    · exact wpOp_mono λa w h=>q35.2 h
def qa4(P:Program) (ops:Array Oper) (Q:Exit->Act->World->Prop) (a:Act) (w:World):Prop:=∀r,OrdO ops ops.size (Array.replicate ops.size false) r->wpOps P ops Q r a w
def qa4.of{P:Program} (h:wpAny P .any ops Q ops.size (Array.replicate ops.size false) a w):qa4 P ops Q a w:=λr hr=>qgn hr h
def qa4.two{P:Program} {i j:Nat} (hij:i≠j) (h1:qa4 P (qa3 ops j i) Q a w) (h2:qa4 P (qa3 ops i j) Q a w):qa4 P ops Q a w:=λr hr=>by
 unfold qa4 at h1 h2
 rw[qdv]at h1 h2
 rcases qls hij hr (by simp)with h|h
 ·exact q35.1 (h1 r h)
 ·exact q35.1 (h2 r h)
def q90{P:Program} {id:Nat} (hm:P.follows .mixedOrders=true) (h:qa4 P ops Q a {w with drawn:=w.drawn+1}):(Code.region id ops true).wp P Q a w:=
 wp_region_draw λt=>by
  simp only[Region.schedule,hm,Bool.true_or,if_true]
  exact h _ (qlr ops ops.size t _)
def qns(f:Nat):List Nat->Array Oper->(Array Oper->Prop)->Prop
  | [],ops,K=>K ops
  | c::l,ops,K=>match Nat.beq c f with
    |true=>False
    |false=>K (qa3 ops c f)/\qns f l (qa3 ops f c) K
def qas{P:Program} {Q:Exit->Act->World->Prop} {a:Act} {w:World} {f:Nat}:∀{cs:List Nat} {ops:Array Oper} {K:Array Oper->Prop},qns f cs ops K->(∀ops',K ops'->qa4 P ops' Q a w)->qa4 P ops Q a w
  | [],ops,K,e,h=>h _ e
  | c ::l,ops,K,e,h=>by
    simp only[qns]at e
    split at e
    · exact e.elim
    · rename_i hb
      have hne:f≠c:=λx=>by subst x;simp at hb
      exact qa4.two hne (h _ e.1) (qas e.2 h)
def qqx:List Edge->List Nat->List Nat
  | [],acc=>acc
  | e::l,acc=>match Region.binds .any e with
    |true=>e.on::qqx l acc
    |false=>qqx l acc
def qca(ops:List Oper):Nat->List Nat->List Nat->List Nat
  |0,_,acc=>acc
  | n + 1,todo,acc=>match todo with
    | []=>acc
    | i ::todo=>match q4d i acc with
      |true=>qca ops n todo acc
      | false=>match nth ops i with
        |some o=>qca ops n (qqx o.after.toList todo) (i::acc)
        |none=>qca ops n todo (i::acc)
def inE:List Edge->List Nat->Bool
 | [],_=>true
 |e::l,acc=>(Bool.not (Region.binds .any e)||q4d e.on acc)&&inE l acc
def qia(ops:List Oper) (acc:List Nat):List Nat->Option Nat
  | []=>none
  | i ::l=>match q4d i acc with
    |true=>qia ops acc l
    | false=>match nth ops i with
      | some o=>match inE o.after.toList acc with
        |true=>some i
        |false=>qia ops acc l
      |none=>qia ops acc l
def qoz(ops:List Oper) (cand:List Nat):Nat->List Nat->List Nat->List Nat
  |0,_,r=>r
  | n+1,acc,r=>match qia ops acc cand with
    |some i=>qoz ops cand n (i::acc) (r++[i])
    |none=>r
def qf3(q:Nat) (m:List Nat):List Nat->List Nat
  | []=>[]
  | i::l=>match q4d i m&&Bool.not (Nat.beq i q)with
    |true=>i::qf3 q m l
    |false=>qf3 q m l
def qkq(f:Nat):List Nat->List Nat
  | []=>[f]
  | i::l=>match Nat.beq i f with
    |true=>qkq f l
    |false=>i::qkq f l
def qs6(ops:List Oper) (q f:Nat):List Nat×Nat:=match qf3 q (qca ops 2000 [q] []) (List.range ops.length)with
 |fr=>(qoz ops (qkq f (List.range ops.length)) ops.length (q::fr) (fr++[q]),fr.length)
def qqy(ops:Array Oper) (q f:Nat):Option (Array Oper×Nat):=match qs6 ops.toList q f with
  | (σ,m)=>match qc6 ops.toList σ with
    | true=>match q4l ops.toList σ σ with
      |some x=>some (⟨x⟩,m)
      |none=>none
    |false=>none
def qlq{P:Program} {ops ops':Array Oper} {q f m:Nat} (e:qqy ops q f=some (ops',m)) (h:wpAny P .any ops' Q ops'.size (Array.replicate ops'.size false) a w):qa4 P ops Q a w:=by
 unfold qqy at e
 split at e
 rename_i σ m' _
 split at e
 ·rename_i hok
  split at e
  ·rename_i x hx
   cases e
   have p:=qfz hok hx
   have hs:(⟨x⟩:Array Oper).size=ops.size:=p.size
   rw[hs]at h
   refine qa4.of (q7t p ops.size _ (Array.replicate ops.size false) a _ ⟨by simp,by simp,λj hj d=> ?_⟩ h)
   have hlt:qd5 j σ<ops.size:=p.lt j hj
   have e1:∀i,i<ops.size->(Array.replicate ops.size false).getD i d=false:=λi hi=>by simp[Array.getD_eq_getD_getElem?,hi]
   exact(e1 _ hlt).trans (e1 j hj).symm
  ·cases e
 ·cases e
def qil(m:Nat):List Edge->List Edge
  | []=>[]
  | e::l=>match Nat.ble m e.on with
    |true=>{e with on:=e.on- m}::qil m l
    |false=>qil m l
def shO(m:Nat) (o:Oper):Oper:={o with after:=⟨qil m o.after.toList⟩,guard:=match o.guard with|some (j,b)=>some (j- m,b)|none=>none}
def qox(m:Nat):List Oper->List Oper
 | []=>[]
 |o::l=>shO m o::qox m l
def q92(ops:Array Oper) (m:Nat):Array Oper:=⟨qox m (ops.toList.drop m)⟩
def q8w(m:Nat):∀l,qox m l=l.map (shO m)
 | []=>rfl
 |o::l=>by rw[qox,q8w m l];rfl
def q5c(ops:Array Oper) (m k:Nat):(q92 ops m)[k]? =(ops[m+k]?).map (shO m):=by
 unfold q92
 have e:∀l:List Oper,(⟨l⟩:Array Oper)[k]? =l[k]? :=λl=>by simp
 rw[e,q8w,List.getElem?_map,List.getElem?_drop,Array.getElem?_toList]
def qgj(ops:Array Oper) (m:Nat):(q92 ops m).size=ops.size- m:=by
 show(qox m (ops.toList.drop m)).length=_
 rw[q8w,List.length_map,List.length_drop,Array.length_toList]
def q59{m:Nat}:∀{l:List Edge} {e:Edge},e∈qil m l↔∃x∈l,m<=x.on/\e={x with on:=x.on- m}
  | [],e=>by simp[qil]
  | x ::l,e=>by
    unfold qil
    split
    · rename_i h
      have h:=Nat.le_of_ble_eq_true h
      rw[List.mem_cons,q59]
      constructor
      · rintro(rfl|⟨y,h1,h2⟩)
        · exact⟨x,List.mem_cons_self,h,rfl⟩
        · exact⟨y,List.mem_cons_of_mem _ h1,h2⟩
      · rintro⟨y,h1,h2,h3⟩
        rcases List.mem_cons.1 h1 with rfl|h1
        · exact .inl h3
        · exact .inr ⟨y,h1,h2,h3⟩
    · rename_i h
      have h:¬m<=x.on:=λg=>by rw[Nat.ble_eq_true_of_le g]at h;cases h
      rw[q59]
      constructor
      · rintro⟨y,h1,h2⟩;exact⟨y,List.mem_cons_of_mem _ h1,h2⟩
      · rintro⟨y,h1,h2,h3⟩
        rcases List.mem_cons.1 h1 with rfl|h1
        · exact absurd h2 h
        · exact⟨y,h1,h2,h3⟩
def qmf{P:Program} {m:Nat} (hgd:∀i (h:i<ops.size),m<=i->∀j b,ops[i].guard=some (j,b)->m<=j) {Q:Exit->Act->World->Prop}:∀(g f:Nat) (l l':Array Bool) (a:Act) (w:World),g<=f->l.size=ops.size->(∀i,i<m->l.getD i true=true)->(∀k,m+k<ops.size->∀d,l'.getD k d=l.getD (m+k) d)->l'.size=ops.size- m->wpAny P .any (q92 ops m) Q g l' a w->wpAny P .any ops Q f l a w:=by
  have rd :∀{l l':Array Bool},l.size=ops.size->(∀i,i<m->l.getD i true=true)->(∀k,m+k<ops.size->∀d,l'.getD k d=l.getD (m+k) d)->l'.size=ops.size- m->∀i,i∈Region.ready .any ops l↔m<=i/\(i- m)∈Region.ready .any (q92 ops m) l':=λ{l l'} hs hd hll hs' i=>by
    rw[q55,q55]
    constructor
    · rintro⟨o,h,h1,h2⟩
      have hlt:i<ops.size:=(Array.getElem?_eq_some_iff.1 h).1
      have hm:m<=i:=Nat.le_of_not_lt λx=>by rw[hd i x]at h1;cases h1
      refine⟨hm,shO m o,by rw[q5c,show m+(i- m)=i by omega,h];rfl,by rw[hll (i- m) (by omega),show m+(i- m)=i by omega];exact h1,λe he hb=> ?_⟩
      have he:e∈(⟨qil m o.after.toList⟩:Array Edge):=he
      obtain⟨x,x1,x2,rfl⟩:=q59.1 (by simpa using he)
      have:=h2 x (by simpa using x1) hb
      show l'.getD (x.on- m) false=true
      by_cases hx:x.on<ops.size
      · rw[hll (x.on- m) (by omega),show m+(x.on- m)=x.on by omega];exact this
      · rw[Array.getD_eq_getD_getElem?,Array.getElem?_eq_none (by omega)]at this;cases this
    · rintro⟨hm,o',h,h1,h2⟩
      rw[q5c,show m+(i- m)=i by omega]at h
      cases ho:ops[i]? with
      |none=>rw[ho]at h;cases h
      | some o=>
        rw[ho]at h;cases h
        have hlt:i<ops.size:=(Array.getElem?_eq_some_iff.1 ho).1
        refine⟨o,rfl,by rw[hll (i- m) (by omega),show m+(i- m)=i by omega]at h1;exact h1,λe he hb=> ?_⟩
        by_cases hx:e.on<m
        · have:=hd e.on hx
          rw[q2a (by omega) false true];exact this
        · have hmem:({e with on:=e.on- m}:Edge)∈qil m o.after.toList:=q59.2 ⟨e,by simpa using he,by omega,rfl⟩
          have:=h2 {e with on:=e.on- m} (by show _∈(⟨qil m o.after.toList⟩:Array Edge);simpa using hmem) hb
          have:l'.getD (e.on- m) false=true:=this
          by_cases hx2:e.on<ops.size
          · rw[hll (e.on- m) (by omega),show m+(e.on- m)=e.on by omega]at this;exact this
          · rw[Array.getD_eq_getD_getElem?,Array.getElem?_eq_none (by omega)]at this;cases this
  have nil:∀{l l':Array Bool},l.size=ops.size->(∀i,i<m->l.getD i true=true)->(∀k,m+k<ops.size->∀d,l'.getD k d=l.getD (m+k) d)->l'.size=ops.size- m->(Region.ready .any ops l=[]↔Region.ready .any (q92 ops m) l'=[]):=λ{l l'} hs hd hll hs'=>by
    rw[List.eq_nil_iff_forall_not_mem,List.eq_nil_iff_forall_not_mem]
    constructor
    · intro h k hk;exact h (m+k) ((rd hs hd hll hs' (m+k)).2 ⟨by omega,by rw[show m+k- m=k by omega];exact hk⟩)
    · intro h i hi;exact h _ ((rd hs hd hll hs' i).1 hi).2
  intro g
  induction g with
  | zero=>
    intro f l l' a w hgf hs hd hll hs' h
    have e:=(nil hs hd hll hs').2 h.1
    cases f with
    |zero=>exact⟨e,h.2⟩
    |succ f=>exact⟨λ_=>h.2,λi hi=>by rw[e]at hi;cases hi⟩
  | succ g ih=>
    intro f l l' a w hgf hs hd hll hs' h
    obtain⟨f,rfl⟩:∃n,f=n+1:=⟨f- 1,by omega⟩
    refine⟨λe=>h.1 ((nil hs hd hll hs').1 e),λi hi=> ?_⟩
    obtain⟨hm,hr⟩:=(rd hs hd hll hs' i).1 hi
    have hlt:i<ops.size:=q43 hi
    have h1:=h.2 (i- m) hr
    have h2:=wpOp_mono (λa w h=>ih f (l.setIfInBounds i true) (l'.setIfInBounds (i- m) true) a w (by omega) (by rw[Array.size_setIfInBounds];exact hs) (λj hj=>by rw[q0p (by omega),if_neg (by omega)];exact hd j hj) (λk hk d=>by
      rw[q0p (l:=l') (by omega),q0p (l:=l) (by omega)]
      by_cases e:k=i- m
      · rw[if_pos e,if_pos (by omega)]
      · rw[if_neg e,if_neg (by omega)];exact hll k hk d) (by rw[Array.size_setIfInBounds];exact hs') h) h1
    unfold wpOp at h2⊢
    rw[q5c,show m+(i- m)=i by omega,Array.getElem?_eq_getElem hlt]at h2
    rw[Array.getElem?_eq_getElem hlt]
    simp only[Option.map_some]at h2⊢
    have hy:∀j,m<=j->yielded (q92 ops m) a.tmps (j- m)=yielded ops a.tmps j:=λj hj=>by
      unfold yielded
      rw[q5c,show m+(j- m)=j by omega]
      cases ops[j]? <;>rfl
    have hw:Region.wanted (shO m ops[i]) (yielded (q92 ops m) a.tmps)=Region.wanted ops[i] (yielded ops a.tmps):=by
      have hgi:=hgd i hlt hm
      unfold Region.wanted shO
      cases hg:ops[i].guard with
      |none=>rfl
      | some x=>
        obtain⟨j,b⟩:=x
        simp only
        rw[hy j (hgi j b hg)]
    rw[hw]at h2
    exact h2
structure SpX(ops:Array Oper) (q:Nat):Prop where
 lt:q<ops.size
 back:∀i (h:i<ops.size),(∀e∈ops[i].after,Region.binds .any e=true->e.on<i)/\∀j b,ops[i].guard=some (j,b)->j<i
 succ:∀j,j<q->∃k,j<k/\k<=q/\∃(h:k<ops.size),∃e∈ops[k].after,Region.binds .any e=true/\e.on=j
 next:∀i (h:i<ops.size),q<i->∃e∈ops[i].after,Region.binds .any e=true/\q<=e.on
 gd:∀i (h:i<ops.size),q+1<=i->∀j b,ops[i].guard=some (j,b)->q+1<=j
def qbl(n:Nat):List Edge->Bool
 | []=>true
 |e::l=>(Bool.not (Region.binds .any e)||Nat.blt e.on n)&&qbl n l
def q9a{n:Nat}:∀{l:List Edge},qbl n l=true->∀e∈l,Region.binds .any e=true->e.on<n
  | [],_,e,h,_=>by cases h
  | x ::l,h,e,he,hb=>by
    simp only[qbl,Bool.and_eq_true,Bool.or_eq_true]at h
    rcases List.mem_cons.1 he with rfl|he
    · rcases h.1 with h1|h1
      · rw[hb]at h1;cases h1
      · exact qgt h1
    · exact q9a h.2 e he hb
def qpo(q:Nat):List Edge->Bool
 | []=>false
 |e::l=>(Region.binds .any e&&Nat.ble q e.on)||qpo q l
def qfu{q:Nat}:∀{l:List Edge},qpo q l=true->∃e∈l,Region.binds .any e=true/\q<=e.on
  | e::l,h=>by
    unfold qpo at h
    rw[Bool.or_eq_true,Bool.and_eq_true]at h
    rcases h with h|h
    · exact⟨e,List.mem_cons_self,h.1,Nat.le_of_ble_eq_true h.2⟩
    · obtain⟨e',h1,h2⟩:=qfu h;exact⟨e',List.mem_cons_of_mem _ h1,h2⟩
def qgg(l:List Oper) (q:Nat):Bool:=
 Nat.blt q l.length&&
 (q1p l.length (λi=>match nth l i with|some o=>qbl i o.after.toList&&(match o.guard with|some (j,_)=>Nat.blt j i|none=>true)|none=>false)&&
 (q1p q (λj=>qe3 (q+1) λk=>Nat.blt j k&&q5w l k j)&&
 q1p l.length (λi=>Nat.ble i q|| (match nth l i with|some o=>qpo q o.after.toList&&(match o.guard with|some (j,_)=>Nat.ble (q+1) j|none=>true)|none=>false))))
def qgh{q:Nat} (h:qgg ops.toList q=true):SpX ops q:=by
 unfold qgg at h
 simp only[Bool.and_eq_true]at h
 obtain⟨h1,h2,h3,h4⟩:=h
 have hl:ops.toList.length=ops.size:=Array.length_toList
 have hq:q<ops.size:=by rw[←hl];exact qgt h1
 have at':∀i (hi:i<ops.size),nth ops.toList i=some ops[i]:=λi hi=>by rw[q0f];simp[hi]
 have edge:∀k j (hk:k<ops.size),q5w ops.toList k j=true->∃e∈ops[k].after,Region.binds .any e=true/\e.on=j:=λk j hk e=>by
  unfold q5w at e
  rw[at' k hk]at e
  obtain⟨x,e1,e2⟩:=qft e
  exact⟨x,Array.mem_toList_iff.1 e1,e2⟩
 have late:∀i (hi:i<ops.size),q<i->(∃e∈ops[i].after,Region.binds .any e=true/\q<=e.on)/\∀j b,ops[i].guard=some (j,b)->q+1<=j:=λi hi hqi=>by
  have:=q08 h4 i (by rw[hl];exact hi)
  rw[at' i hi]at this
  simp only[Bool.or_eq_true,Bool.and_eq_true]at this
  rcases this with g|⟨g1,g2⟩
  ·have:=Nat.le_of_ble_eq_true g;omega
  ·obtain⟨x,e1,e2⟩:=qfu g1
   refine⟨⟨x,Array.mem_toList_iff.1 e1,e2⟩,λj b hg=> ?_⟩
   rw[hg]at g2
   exact Nat.le_of_ble_eq_true g2
 refine⟨hq,λi hi=> ?_,λj hj=> ?_,λi hi hqi=>(late i hi hqi).1,λi hi hqi=>(late i hi (by omega)).2⟩
 ·have:=q08 h2 i (by rw[hl];exact hi)
  rw[at' i hi]at this
  simp only[Bool.and_eq_true]at this
  refine⟨λe he hb=>q9a this.1 e (Array.mem_toList_iff.2 he) hb,λj b hg=> ?_⟩
  have g:=this.2
  rw[hg]at g
  exact qgt g
 ·have:=q08 h3 j hj
  obtain⟨k,k1,k2⟩:=q87 this
  rw[Bool.and_eq_true]at k2
  have hk:k<ops.size:=by omega
  exact⟨k,qgt k2.1,by omega,hk,edge k j hk k2.2⟩
def qdb{P:Program} {ops:Array Oper} {q:Nat} (s:SpX ops q) {Q Q':Exit->Act->World->Prop} (hn:∀a w,Q' .normal a w->wpOp P ops Q q (wpAny P .any (q92 ops (q+1)) Q (ops.size- q- 1) (Array.replicate (ops.size- q- 1) false)) a w) (ho:∀e a w,e≠ .normal->Q' e a w->Q e a w):∀(fuel:Nat) (l l':Array Bool) (a:Act) (w:World),Lq ops l->(∀i,q<=i->i<ops.size->∀d,l.getD i d=false)->l'.size=q->(∀i,i<q->∀d,l'.getD i d=l.getD i d)->wpAny P .any (q1g ops q) Q' fuel l' a w->wpAny P .any ops Q (fuel+(ops.size- q)) l a w:=by
  have hs:=q29 s.lt
  have rd:∀{l l':Array Bool},(∀i,i<q->∀d,l'.getD i d=l.getD i d)->∀i,i∈Region.ready .any (q1g ops q) l'↔i<q/\i∈Region.ready .any ops l:=λ{l l'} hll i=>by
    rw[q0q,q0q]
    constructor
    · rintro⟨h1,h2,h3⟩
      have hi:i<q:=by rw[hs]at h1;exact h1
      have hg:(q1g ops q)[i]=ops[i]'(by have:=s.lt;omega):=by
        have:=q12 s.lt hi
        rw[Array.getElem?_eq_getElem h1]at this
        exact Option.some.inj this
      rw[hg]at h3
      refine⟨hi,by have:=s.lt;omega,by rw[←hll i hi];exact h2,λe he hb=> ?_⟩
      have:=(s.back i (by have:=s.lt;omega)).1 e he hb
      rw[←hll e.on (by omega)];exact h3 e he hb
    · rintro⟨hi,h1,h2,h3⟩
      have h1':i<(q1g ops q).size:=by rw[hs];exact hi
      have hg:(q1g ops q)[i]=ops[i]'h1:=by
        have:=q12 s.lt hi
        rw[Array.getElem?_eq_getElem h1']at this
        exact Option.some.inj this
      refine⟨h1',by rw[hll i hi];exact h2,λe he hb=> ?_⟩
      rw[hg]at he
      have:=(s.back i h1).1 e he hb
      rw[hll e.on (by omega)];exact h3 e he hb
  have prog :∀{l:Array Bool},Lq ops l->(∀i,i<q->l.getD i true=true)\/∃i,i<q/\i∈Region.ready .any ops l:=λ{l} hl=>by
    have step:∀m:Nat,m<=q->(∀i,i<m->l.getD i true=true)\/∃i,i<q/\i∈Region.ready .any ops l:=λm=>by
      induction m with
      |zero=>intro _;exact .inl λi h=>absurd h (by omega)
      | succ m ih=>
        intro hm
        rcases ih (by omega)with h|h
        · have hms:m<ops.size:=by have:=s.lt;omega
          cases hb:l.getD m true with
          | true=>
            refine .inl λi hi=> ?_
            by_cases e:i=m
            · rw[e];exact hb
            · exact h i (by omega)
          | false=>
            refine .inr ⟨m,by omega,q0q.2 ⟨hms,hb,λe he hbb=> ?_⟩⟩
            have:=(s.back m hms).1 e he hbb
            rw[q2a (by rw[hl.size];omega) false true]
            exact h e.on this
        · exact .inr h
    exact step q (Nat.le_refl _)
  have only:∀{l:Array Bool},Lq ops l->(∀i,q<=i->i<ops.size->∀d,l.getD i d=false)->∀i,q<=i->i∈Region.ready .any ops l->∀j,j<q->l.getD j true=true:=λ{l} hl hz i hqi hi=>by
    obtain⟨h1,h2,h3⟩:=q0q.1 hi
    have hiq:i=q:=by
      by_cases e:i=q
      · exact e
      · obtain⟨x,hx,hb,ho'⟩:=s.next i h1 (by omega)
        have:=h3 x hx hb
        have hxi:=(s.back i h1).1 x hx hb
        rw[hz x.on ho' (by omega)]at this
        cases this
    subst hiq
    have down:∀d j,i- j<=d->j<i->l.getD j true=true:=λd=>by
      induction d with
      |zero=>intro j h4 h5;omega
      | succ d ih=>
        intro j h4 h5
        obtain⟨k,k1,k2,hk,e,he,hb,hon⟩:=s.succ j h5
        rw[q2a (by rw[hl.size];omega) true false,←hon]
        by_cases hki:k=i
        · subst hki;exact h3 e he hb
        · exact hl.down k hk (ih k (by omega) (by omega)) e he hb
    exactλj hj=>down i j (by omega) hj
  have fin:∀(l:Array Bool) (fuel:Nat) (a:Act) (w:World),ops.size- q<=fuel->Lq ops l->(∀i,q<=i->i<ops.size->∀d,l.getD i d=false)->(∀i,i<q->l.getD i true=true)->Q' .normal a w->wpAny P .any ops Q fuel l a w:=λl fuel a w hf hl hz hd h=>by
    obtain⟨fuel,rfl⟩:∃n,fuel=n+1:=⟨fuel- 1,by have:=s.lt;omega⟩
    have hr:q∈Region.ready .any ops l:=q0q.2 ⟨s.lt,by rw[hz q (Nat.le_refl _) s.lt],λe he hb=>by
      have:=(s.back q s.lt).1 e he hb
      rw[q2a (by rw[hl.size];have:=s.lt;omega) false true];exact hd e.on this⟩
    refine⟨λe=>(by rw[e]at hr;cases hr),λi hi=> ?_⟩
    have:i=q:=by
      obtain⟨h1,h2,h3⟩:=q0q.1 hi
      by_cases e:i=q
      · exact e
      · by_cases hlt:i<q
        · rw[hd i hlt]at h2;cases h2
        · obtain⟨x,hx,hb,ho'⟩:=s.next i h1 (by omega)
          have:=h3 x hx hb
          have hxi:=(s.back i h1).1 x hx hb
          rw[hz x.on ho' (by omega)]at this
          cases this
    subst this
    have hlt:=s.lt
    refine wpOp_mono (λa w h=>qmf s.gd (ops.size- i- 1) fuel (l.setIfInBounds i true) (Array.replicate (ops.size- i- 1) false) a w (by omega) (by rw[Array.size_setIfInBounds];exact hl.size) (λj hj=> ?_) (λk hk d=> ?_) (by simp;omega) h) (hn a w h)
    · rw[q0p (by rw[hl.size];exact hlt)]
      by_cases e:j=i
      · rw[if_pos e]
      · rw[if_neg e];exact hd j (by omega)
    · rw[q0p (by rw[hl.size];exact hlt),if_neg (by omega),hz (i+1+k) (by omega) hk]
      simp[Array.getD_eq_getD_getElem?,show k<ops.size- i- 1 by omega]
  intro fuel
  induction fuel with
  | zero=>
    intro l l' a w hl hz hs' hll h
    refine fin l _ a w (by omega) hl hz ?_ h.2
    rcases prog hl with hd|⟨i,hi,hr⟩
    · exact hd
    · have:=(rd hll i).2 ⟨hi,hr⟩
      rw[h.1]at this;cases this
  | succ fuel ih=>
    intro l l' a w hl hz hs' hll h
    rcases prog hl with hd|⟨i,hi,hr⟩
    · refine fin l _ a w (by omega) hl hz hd (h.1 ?_)
      rw[List.eq_nil_iff_forall_not_mem]
      intro i hi
      obtain⟨hiq,hi2⟩:=(rd hll i).1 hi
      obtain⟨_,h2,_⟩:=q0q.1 hi2
      rw[hd i hiq]at h2;cases h2
    · rw [show fuel+1+(ops.size- q)=(fuel+(ops.size- q))+1 by omega]
      refine⟨λe=>(by rw[e]at hr;cases hr),λk hk=> ?_⟩
      have hkq:k<q:=by
        by_cases hkq:k<q
        · exact hkq
        · obtain⟨_,h2,_⟩:=q0q.1 hr
          rw[only hl hz k (by omega) hk i hi]at h2;cases h2
      have hks:k<ops.size:=by have:=s.lt;omega
      have h1:=h.2 k ((rd hll k).2 ⟨hkq,hk⟩)
      have h2:=wpOp_mono (λa w h=>ih (l.setIfInBounds k true) (l'.setIfInBounds k true) a w (hl.set hk) (λj hj hjs d=>by rw[q0p (by rw[hl.size];exact hks),if_neg (by omega)];exact hz j hj hjs d) (by rw[Array.size_setIfInBounds];exact hs') (λj hj d=>by rw[q0p (l:=l') (by rw[hs'];exact hkq),q0p (l:=l) (by rw[hl.size];exact hks),hll j hj d]) h) h1
      unfold wpOp at h2⊢
      rw[q12 s.lt hkq]at h2
      rw[Array.getElem?_eq_getElem hks]
      simp only at h2⊢
      have hw:Region.wanted ops[k] (yielded (q1g ops q) a.tmps)=Region.wanted ops[k] (yielded ops a.tmps):=by
        unfold Region.wanted
        cases hg:ops[k].guard with
        |none=>rfl
        | some x=>
          obtain⟨j,b⟩:=x
          have hj:=(s.back k hks).2 j b hg
          simp only
          unfold yielded
          rw[q12 s.lt (show j<q by omega),Array.getElem?_eq_getElem (by omega)]
      rw[hw]at h2
      split
      · rename_i hwt
        rw[if_pos hwt]at h2
        exact h2.imp (q8z ho) λh=>⟨h.1,h.2.elim λa h=>h.elim λw h=>⟨a,w,ho _ _ _ (by simp) h⟩⟩
      · rename_i hwt
        rw[if_neg hwt]at h2;exact h2
structure Text(gl:T AV) (P:Program) (n:Nat) (ops:Array Oper) (A:List Nat) (pr:q4u) (rs:List Rc) (Tt:Nat->T AV) (H:Nat->T AO) (X:Nat->Nat):Prop where
 hA:q86 ops.toList 0 []=some A
 st:q38 P ops A pr=true
 dy:qeo P ops A rs (H ops.size)=true
 len:rs.length=ops.size
 step:∀i o c,ops[i]? =some o->rs[i]? =some c->c.o=o/\q5f gl P n ops c (Tt i) (H i) (X i) (Tt (i+1)) (H (i+1)) (X (i+1))
section
variable {P:Program} {n:Nat} {ops:Array Oper} {A:List Nat} {pr:q4u} {rs:List Rc} {Tt:Nat->T AV} {H:Nat->T AO} {X:Nat->Nat}
def Text.rc(x:Text gl P n ops A pr rs Tt H X) {i:Nat} (hi:i<ops.size):∃o c,ops[i]? =some o/\rs[i]? =some c/\c.o=o/\q5f gl P n ops c (Tt i) (H i) (X i) (Tt (i+1)) (H (i+1)) (X (i+1)):=by
 have h1:ops[i]? =some ops[i]:=Array.getElem?_eq_getElem hi
 have h2:rs[i]? =some (rs[i]'(by rw[x.len];exact hi)):=List.getElem?_eq_getElem _
 exact⟨_,_,h1,h2,x.step i _ _ h1 h2⟩
def Text.xle1(x:Text gl P n ops A pr rs Tt H X) {i:Nat} (hi:i<ops.size):X i<=X (i+1):=by
  obtain⟨o,c,h1,h2,h3,h4⟩:=x.rc hi
  obtain⟨_,_,_,_,hg,hw,hu⟩:=h4
  cases hcw:c.w with
  |false=>rw[(hu hcw).2.2];exact Nat.le_refl _
  | true=>
    have:=hw hcw
    cases hk:c.k<;>rw[hk]at this
    · rw[this.2.1];exact Nat.le_refl _
    · rw[this.2.1];exact Nat.le_refl _
    · obtain⟨y,_,_,_,e,_,_⟩:=this;rw[e];exact Nat.le_succ _
    · exact this.1.1
def Text.xle(x:Text gl P n ops A pr rs Tt H X) {i j:Nat} (h:i<=j) (hj:j<=ops.size):X i<=X j:=by
  induction j with
  | zero => have:i=0:=by omega
            subst this;exact Nat.le_refl _
  | succ j ih=>
    by_cases e:i=j+1
    · subst e;exact Nat.le_refl _
    · exact Nat.le_trans (ih (by omega) (by omega)) (x.xle1 (by omega))
def Text.slot(x:Text gl P n ops A pr rs Tt H X):∀i,i<=ops.size->∀τ,(∃j c,j<i/\rs[j]? =some c/\c.o.dst=some τ/\(Tt i).get τ=some c.v)\/((∀j c,j<i->rs[j]? =some c->c.o.dst≠some τ)/\(Tt i).get τ=(Tt 0).get τ)
  |0,_,τ=> .inr ⟨λj c h=>by omega,rfl⟩
  | i + 1,hi,τ=>by
    obtain⟨o,c,h1,h2,h3,h4⟩:=x.rc (i:=i) (by omega)
    obtain⟨_,_,_,hp,_⟩:=h4
    have ih:=Text.slot x i (by omega) τ
    have other:c.o.dst≠some τ->(Tt (i+1)).get τ=(Tt i).get τ:=λhne=>by
      cases hd:c.o.dst with
      |none=>rw[hd]at hp;simp[q6w]at hp;rw[hp]
      | some d=>
        rw[hd]at hp
        rw[(q1u hp).2.2 τ,if_neg (λe=>hne (by rw[hd,e]))]
    by_cases hd:c.o.dst=some τ
    · rw[hd]at hp
      exact .inl ⟨i,c,Nat.lt_succ_self _,h2,hd,by rw[(q1u hp).2.2 τ,if_pos rfl]⟩
    · rcases ih with⟨j,cj,a1,a2,a3,a4⟩|⟨a1,a2⟩
      · exact .inl ⟨j,cj,by omega,a2,a3,by rw[other hd];exact a4⟩
      · refine .inr ⟨λj cj hj hc=> ?_,by rw[other hd];exact a2⟩
        by_cases e:j=i
        · subst e;rw[h2]at hc;cases hc;exact hd
        · exact a1 j cj (by omega) hc
def Text.look(x:Text gl P n ops A pr rs Tt H X) {i:Nat} {o:Oper} {c:Rc} (ho:ops[i]? =some o) (hc:rs[i]? =some c):
  (∀j cj d,rs[j]? =some cj->o.dst=some d->cj.o.dst=some d->j=i)/\
  (∀j cj τ,τ∈slotsOf ops o->rs[j]? =some cj->cj.o.dst=some τ->j=i\/q15 A i j=true\/q15 A j i=true)/\
  (isS o=true->∀j,j<i->flag isS ops.toList j=true\/flag (isA P) ops.toList j=true->q15 A i j=true\/pr=some (j,i)):=by
 have hil:i<ops.toList.length:=by
  have:=(Array.getElem?_eq_some_iff.1 ho).1;simpa using this
 have h:=q08 x.st i hil
 have hn:nth ops.toList i=some o:=by rw[q0f];simpa using ho
 simp only[hn,Bool.and_eq_true]at h
 obtain⟨⟨h1,h2⟩,h3⟩:=h
 have dst:∀j cj τ,rs[j]? =some cj->cj.o.dst=some τ->j<ops.toList.length/\qcv ops.toList j=some τ:=λj cj τ hj hd=>by
  have hjl:j<ops.size:=by
   have:=(List.getElem?_eq_some_iff.1 hj).1;rw[x.len]at this;exact this
  obtain⟨oj,cj',g1,g2,g3,_⟩:=x.rc hjl
  rw[hj]at g2;cases g2
  refine⟨by simpa using hjl,?_⟩
  unfold qcv
  have:nth ops.toList j=some oj:=by rw[q0f];simpa using g1
  rw[this];simp only;rw[←g3];exact hd
 refine⟨λj cj d hj hd hjd=> ?_,λj cj τ hτ hj hjd=> ?_,λhs j hji hf=> ?_⟩
 ·rw[hd]at h1
  obtain⟨g1,g2⟩:=dst j cj d hj hjd
  have:=q08 h1 j g1
  rw[g2]at this
  simp only[eqO,Bool.or_eq_true,Bool.not_eq_true']at this
  rcases this with h|h
  ·exact(Nat.eq_of_beq_eq_true h).symm
  ·simp at h
 ·obtain⟨g1,g2⟩:=dst j cj τ hj hjd
  have:=q08 (List.all_eq_true.1 h2 τ hτ) j g1
  rw[g2]at this
  simp only[eqO,Bool.or_eq_true,Bool.not_eq_true']at this
  rcases this with((h|h)|h)|h
  ·exact .inl (Nat.eq_of_beq_eq_true h).symm
  ·simp at h
  ·exact .inr (.inl h)
  ·exact .inr (.inr h)
 ·rw[hs]at h3
  simp only[Bool.not_true,Bool.false_or]at h3
  have:=q08 h3 j hji
  simp only[Bool.or_eq_true,Bool.not_eq_true',Bool.or_eq_false_iff]at this
  rcases this with(h|h)|h
  ·rcases hf with hf|hf
   ·rw[h.1]at hf;cases hf
   ·rw[h.2]at hf;cases hf
  ·exact .inl h
  ·exact .inr (qex h)
def q0j{f:Oper->Bool} {i:Nat} {o:Oper} (ho:ops[i]? =some o):flag f ops.toList i=f o:=by
 have:nth ops.toList i=some o:=by rw[q0f];simpa using ho
 unfold flag;rw[this]
def Text.reach(x:Text gl P n ops A pr rs Tt H X) {e:Nat}:∀m,e<=m->m<=ops.size->(∀s,e<=s->s<m->flag isS ops.toList s=false)->∀id o,(H m).get id=some o->
    (∃j c,rs[j]? =some c/\e<=j/\j<m/\c.w=true/\c.k= .a/\c.nx=id/\c.ob=some o)\/(H e).get id=some o:=by
  intro m
  induction m with
  | zero => intro h1 _ _ id o h;have:e=0:=by omega
            subst this;exact .inr h
  | succ m ih=>
    intro h1 h2 h3 id o h
    by_cases hem:e=m+1
    · subst hem;exact .inr h
    · obtain⟨op,c,g1,g2,g3,g4⟩:=x.rc (i:=m) (by omega)
      have ih:=ih (by omega) (by omega) λs a b=>h3 s a (by omega)
      have lift:(H m).get id=some o->(∃j c,rs[j]? =some c/\e<=j/\j<m+1/\c.w=true/\c.k= .a/\c.nx=id/\c.ob=some o)\/(H e).get id=some o:=λh=>by
        rcases ih id o h with⟨j,cj,a1,a2,a3,a4⟩|a
        · exact .inl ⟨j,cj,a1,a2,by omega,a4⟩
        · exact .inr a
      obtain⟨_,hnx,_,_,_,hw,hu⟩:=g4
      cases hcw:c.w with
      |false=>rw[(hu hcw).2.1]at h;exact lift h
      | true=>
        have hk:=hw hcw
        cases hck:c.k<;>rw[hck]at hk
        · rw[hk.1]at h;exact lift h
        · rw[hk.1]at h;exact lift h
        · obtain⟨y,k1,_,k3,_,_,_⟩:=hk
          rw[T.get_put _ _ _ _ _ k3]at h
          split at h
          · rename_i hid
            cases h
            exact .inl ⟨m,c,g2,by omega,Nat.lt_succ_self _,hcw,hck,by rw[hnx,hid],k1⟩
          · exact lift h
        · have hS:=hk.2
          have hS:=hS.1
          have:=h3 m (by omega) (Nat.lt_succ_self _)
          rw[q0j g1,←g3,hS]at this;cases this
end
def RR(rs:List Rc) (H:Nat->T AO) (e:Nat) (L:Nat->Prop) (id:Nat) (o:AO):Prop:=
 (∃j c,rs[j]? =some c/\e<=j/\L j/\c.w=true/\c.k= .a/\c.nx=id/\c.ob=some o)\/(H e).get id=some o
structure Inv(gl:T AV) (P:Program) (F:Bool->Nat->Prop) (n:Nat) (ops:Array Oper) (rs:List Rc) (T0:T AV) (H:Nat->T AO) (X:Nat->Nat) (I0:In) (w0:World) (e:Nat) (L:Nat->Prop) (I:In) (a:Act) (w:World):Prop where
 eN:e<=ops.size
 ep:qgv ops.toList e=true
 e1:∀s,s<e->flag isS ops.toList s=true->L s
 e2:∀s,e<=s->flag isS ops.toList s=true->¬L s
 e3:∀j,j<e->flag (isA P) ops.toList j=true->L j
 cl:q2g ops L
 lN:∀i,L i->i<ops.size
 sz:a.tmps.size=n
 df:a.defers=[]
 s1:∀i c τ,rs[i]? =some c->L i->c.o.dst=some τ->VR I c.v (slot a.tmps τ)
 s2:∀τ b,(∀i c,rs[i]? =some c->c.o.dst=some τ->¬L i)->T0.get τ=some b->VR I b (slot a.tmps τ)
 obj:∀id o b t,RR rs H e L id o->I id=some (b,t)->∃ob,w.heap[b]? =some ob/\OR I t o ob
 inj:∀id id' o o' b t t',RR rs H e L id o->RR rs H e L id' o'->I id=some (b,t)->I id'=some (b,t')->id=id'
 fr:∀id o b t,RR rs H e L id o->I id=some (b,t)->F true b->o.rw=false/\F false b
 ex:∀j c,rs[j]? =some c->L j->c.w=true->c.k= .a->∃x,I c.nx=some x
 exf:∀j c b t,rs[j]? =some c->e<=j->L j->c.w=true->c.k= .a->I c.nx=some (b,t)->¬F true b
 dom:∀id x,I id=some x->I0 id=some x\/∃j,L j/\X j<=id/\id<X (j+1)
 le:I0.le I
 frm:∀b,F true b->w.heap[b]? =w0.heap[b]?
 siz:w0.heap.size<=w.heap.size
 sam:Same w0 w
structure SInv(n:Nat) (ops:Array Oper) (rs:List Rc) (T0:T AV) (L:Nat->Prop) (I:In) (a:Act):Prop where
 cl:q2g ops L
 lN:∀i,L i->i<ops.size
 sz:a.tmps.size=n
 df:a.defers=[]
 s1:∀i c τ,rs[i]? =some c->L i->c.o.dst=some τ->VR I c.v (slot a.tmps τ)
 s2:∀τ b,(∀i c,rs[i]? =some c->c.o.dst=some τ->¬L i)->T0.get τ=some b->VR I b (slot a.tmps τ)
def Inv.slots{P:Program} {F n ops rs T0 H X I0 w0 e L I a w} (v:Inv gl P F n ops rs T0 H X I0 w0 e L I a w):SInv n ops rs T0 L I a:=⟨v.cl,v.lN,v.sz,v.df,v.s1,v.s2⟩
section
variable {P:Program} {n:Nat} {ops:Array Oper} {A:List Nat} {pr:q4u} {rs:List Rc} {Tt:Nat->T AV} {H:Nat->T AO} {X:Nat->Nat} {F:Bool->Nat->Prop} {I0:In} {w0:World} {e:Nat} {L:Nat->Prop} {I:In} {a:Act} {w:World}
def Inv.doneX(v:Inv gl P F n ops rs (Tt 0) H X I0 w0 e L I a w) (x:Text gl P n ops A pr rs Tt H X) (fr0:q0g I0 (X 0) (X ops.size)) {i id:Nat} {y:Nat×Nat×Nat} (hi:i<ops.size) (h1:X i<=id) (h2:id<X (i+1)) (h:I id=some y):L i:=by
 rcases v.dom id y h with h3|⟨j,hj,h3,h4⟩
 ·have:=fr0 id (Nat.le_trans (x.xle (Nat.zero_le _) (by omega)) h1) (Nat.lt_of_lt_of_le h2 (x.xle (by omega) (Nat.le_refl _)))
  rw[this]at h3;cases h3
 ·have hjN:=v.lN j hj
  rcases Nat.lt_trichotomy i j with hij|hij|hij
  ·have:=x.xle (i:=i+1) (j:=j) (by omega) (by omega);omega
  ·subst hij;exact hj
  ·have:=x.xle (i:=j+1) (j:=i) (by omega) (by omega);omega
def Inv.simAt(v:Inv gl P F n ops rs (Tt 0) H X I0 w0 e L I a w) (x:Text gl P n ops A pr rs Tt H X) (fr0:q0g I0 (X 0) (X ops.size)) {m:Nat} (h1:e<=m) (h2:m<=ops.size) (h3:∀s,e<=s->s<m->flag isS ops.toList s=false) {id:Nat} {o:AO} {y} (h:(H m).get id=some o) (hI:I id=some y):RR rs H e L id o:=by
 rcases x.reach m h1 h2 h3 id o h with⟨j,c,g1,g2,g3,g4,g5,g6,g7⟩|g
 ·refine .inl ⟨j,c,g1,g2,?_,g4,g5,g6,g7⟩
  obtain⟨oj,cj,k1,k2,k3,k4⟩:=x.rc (i:=j) (by omega)
  rw[g1]at k2;cases k2
  obtain⟨_,hnx,_,_,_,hw,_⟩:=k4
  have hk:=hw g4
  rw[g5]at hk
  obtain⟨_,_,_,_,hX,_,_⟩:=hk
  exact v.doneX x fr0 (by omega) (by omega) (by omega) hI
 ·exact .inr g
def Inv.sim(v:Inv gl P F n ops rs (Tt 0) H X I0 w0 e L I a w) (x:Text gl P n ops A pr rs Tt H X) (fr0:q0g I0 (X 0) (X ops.size)) {m:Nat} (h1:e<=m) (h2:m<=ops.size) (h3:∀s,e<=s->s<m->flag isS ops.toList s=false):Sim F I (H m) w:=
  ⟨λid o b t g hI=>v.obj id o b t (v.simAt x fr0 h1 h2 h3 g hI) hI,
   λid id' o o' b t t' g g' hI hI'=>v.inj id id' o o' b t t' (v.simAt x fr0 h1 h2 h3 g hI) (v.simAt x fr0 h1 h2 h3 g' hI') hI hI',
   λid o b t g hI=>v.fr id o b t (v.simAt x fr0 h1 h2 h3 g hI) hI⟩
def SInv.tr(v:SInv n ops rs (Tt 0) L I a) (x:Text gl P n ops A pr rs Tt H X) {i:Nat} {o:Oper} {c:Rc} (ho:ops[i]? =some o) (hc:rs[i]? =some c) (hL:¬L i) (hr:∀e∈o.after,Region.binds .any e=true->L e.on):TR I c.t a.tmps:=by
 obtain⟨hco,hst⟩:=x.step i o c ho hc
 obtain⟨_,_,hres,_⟩:=hst
 obtain⟨_,l2,_⟩:=x.look ho hc
 have hi:i<ops.size:=(Array.getElem?_eq_some_iff.1 ho).1
 intro τ b hb
 rcases q58 hres τ b hb with h|⟨h1,h2⟩
 ·rw[T.get_e]at h;cases h
 ·rw [hco]at h1
  have later:∀j cj,rs[j]? =some cj->cj.o.dst=some τ->L j->j<i:=λj cj hj hd hLj=>by
   rcases l2 j cj τ h1 hj hd with h|h|h
   ·subst h;exact absurd hLj hL
   ·exact q5s x.hA h
   ·obtain⟨oj,_,k1,_⟩:=x.rc (v.lN j hLj)
    exact absurd (q0b x.hA v.cl k1 (λe he hb=>v.cl j oj k1 hLj e he hb) h) hL
  rcases x.slot i (by omega) τ with⟨j,cj,a1,a2,a3,a4⟩|⟨a1,a2⟩
  ·rw[h2]at a4;cases a4
   rcases l2 j cj τ h1 a2 a3 with h|h|h
   ·omega
   ·exact v.s1 j cj τ a2 (q0b x.hA v.cl ho hr h) a3
   ·have:=q5s x.hA h;omega
  ·rw[a2]at h2
   exact v.s2 τ b (λj cj hj hd hLj=>a1 j cj (later j cj hj hd hLj) hj hd) h2
def SInv.put(v:SInv n ops rs (Tt 0) L I a) (x:Text gl P n ops A pr rs Tt H X) {i:Nat} {o:Oper} {c:Rc} (ho:ops[i]? =some o) (hc:rs[i]? =some c) (hL:¬L i) {I':In} (hle:I.le I') {z:Value} (hz:VR I' c.v z):
    (a.put o.dst z).tmps.size=n/\(a.put o.dst z).defers=[]/\
    (∀j cj τ,rs[j]? =some cj->L j\/j=i->cj.o.dst=some τ->VR I' cj.v (slot (a.put o.dst z).tmps τ))/\
    (∀τ b,(∀j cj,rs[j]? =some cj->cj.o.dst=some τ->¬(L j\/j=i))->(Tt 0).get τ=some b->VR I' b (slot (a.put o.dst z).tmps τ)):=by
  obtain⟨hco,hst⟩:=x.step i o c ho hc
  obtain⟨_,_,_,hp,_⟩:=hst
  obtain⟨l1,_,_⟩:=x.look ho hc
  rw[hco]at hp
  refine⟨by rw[Act.put_size];exact v.sz,by cases o.dst<;>exact v.df,λj cj τ hj hLj hd=> ?_,fun τ b hno hb=> ?_⟩
  · cases hod:o.dst with
    | none=>
      rcases hLj with hLj|rfl
      · exact(v.s1 j cj τ hj hLj hd).mono hle
      · rw[hc]at hj;cases hj;rw[hco,hod]at hd;cases hd
    | some d=>
      rw[hod]at hp
      obtain⟨p1,p2,_⟩:=q1u hp
      rw[q5a v.sz p1 p2]
      by_cases hτ:τ=d
      · subst hτ
        rw[if_pos rfl]
        have:=l1 j cj τ hj hod hd
        subst this
        rw[hc]at hj;cases hj;exact hz
      · rw[if_neg hτ]
        rcases hLj with hLj|rfl
        · exact(v.s1 j cj τ hj hLj hd).mono hle
        · rw[hc]at hj;cases hj;rw[hco,hod]at hd;cases hd;exact absurd rfl hτ
  · have old:VR I b (Eng.slot a.tmps τ):=v.s2 τ b (λj cj hj hd hLj=>hno j cj hj hd (.inl hLj)) hb
    cases hod:o.dst with
    |none=>exact old.mono hle
    | some d=>
      rw[hod]at hp
      obtain⟨p1,p2,_⟩:=q1u hp
      rw[q5a v.sz p1 p2]
      have hτ:τ≠d:=λh=>hno i c hc (by rw[hco,hod,h]) (.inr rfl)
      rw[if_neg hτ]
      exact old.mono hle
def q2g.add(hcl:q2g ops L) {i:Nat} {o:Oper} (ho:ops[i]? =some o) (hr:∀e∈o.after,Region.binds .any e=true->L e.on):q2g ops λj=>L j\/j=i:=λj oj hj hL e he hb=>by
 rcases hL with hL|rfl
 ·exact .inl (hcl j oj hj hL e he hb)
 ·rw[ho]at hj;cases hj;exact .inl (hr e he hb)
end
def KP.act{P:Program} {t h nx o k v ob h' nx'} (hk:KP gl P t h nx o k v ob h' nx'):q7v gl P t h nx o v h' nx':=by
 cases k with
 |q=>obtain⟨rfl,rfl,h1⟩:=hk;exact qfc (by rw[h1];rfl)
 |r=>obtain⟨rfl,rfl,h1,_⟩:=hk;exact qfd (by rw[h1];rfl)
 |a=>obtain⟨x,_,h1,h2,rfl,_⟩:=hk;exact qax (by rw[h1];simp only[made,h2])
 |s=>exact hk.1
def q2t(l:List Oper):∀i,q2h l i<=i/\∀s,q2h l i<=s->s<i->flag isS l s=false
  |0=>⟨Nat.le_refl _,λs _ h=>by omega⟩
  | i +1=>by
    simp only[q2h]
    split
    · exact⟨Nat.le_refl _,λs h1 h2=>by omega⟩
    · rename_i hf
      obtain⟨h1,h2⟩:=q2t l i
      refine⟨by omega,λs h3 h4=> ?_⟩
      by_cases e:s=i
      · subst e;exact hf
      · exact h2 s h3 (by omega)
section
variable {P:Program} {n:Nat} {ops:Array Oper} {A:List Nat} {pr:q4u} {rs:List Rc} {Tt:Nat->T AV} {H:Nat->T AO} {X:Nat->Nat} {F:Bool->Nat->Prop} {I0:In} {w0:World} {e:Nat} {L:Nat->Prop} {I:In} {a:Act} {w:World}
def Text.heapAt(x:Text gl P n ops A pr rs Tt H X) {e:Nat} (he:e<=ops.size):Eng.heapAt rs (H ops.size) e=H e:=by
 unfold Eng.heapAt
 by_cases h:e<ops.size
 ·obtain⟨o,c,h1,h2,h3,h4⟩:=x.rc h
  have:nth rs e=some c:=by rw[q0f];exact h2
  rw[this];exact h4.1
 ·have:e=ops.size:=by omega
  subst this
  have:nth rs ops.size=none:=by rw[q0f,List.getElem?_eq_none (by rw[x.len];exact Nat.le_refl _)]
  rw[this]
def Text.free(x:Text gl P n ops A pr rs Tt H X) {i:Nat} {c:Rc} (hc:rs[i]? =some c) (hw:c.w=true) (hk:c.k= .a) {e:Nat} (he:e<=i) (hep:qgv ops.toList e=true):(H e).get c.nx=none:=by
 have hi:i<ops.size:=by have:=(List.getElem?_eq_some_iff.1 hc).1;rw[x.len]at this;exact this
 have h:=q08 x.dy i (by simpa using hi)
 have hn:nth rs i=some c:=by rw[q0f];exact hc
 simp only[hn,hw,hk]at h
 have:=q08 h e (by omega)
 simp only[hep,Bool.not_true,Bool.false_or]at this
 rw[x.heapAt (by omega)]at this
 split at this
 ·rename_i hg;exact hg
 ·cases this
def Text.again(x:Text gl P n ops A pr rs Tt H X) {i:Nat} {c:Rc} (hc:rs[i]? =some c) (hw:c.w=true) (hk:c.k= .r) {e:Nat} (he:e<=ops.size) (ho:other ops.toList A i e=true):rop P c.t (H e) c.o=some c.v:=by
 have hi:i<ops.size:=by have:=(List.getElem?_eq_some_iff.1 hc).1;rw[x.len]at this;exact this
 have h:=q08 x.dy i (by simpa using hi)
 have hn:nth rs i=some c:=by rw[q0f];exact hc
 simp only[hn,hw,hk]at h
 have hm:e∈others ops.toList A i:=List.mem_filter.2 ⟨List.mem_range.2 (by simp;omega),ho⟩
 have:=List.all_eq_true.1 h e hm
 rw[x.heapAt he]at this
 split at this
 ·rename_i v hv;rw[hv,qan this]
 ·cases this
def Inv.stay(v:Inv gl P F n ops rs (Tt 0) H X I0 w0 e L I a w) (x:Text gl P n ops A pr rs Tt H X) {i:Nat} {o:Oper} {c:Rc} (ho:ops[i]? =some o) (hc:rs[i]? =some c) (hL:¬L i) (hr:∀e∈o.after,Region.binds .any e=true->L e.on) (hS:flag isS ops.toList i=false) (hk:¬(c.w=true/\c.k= .a)) {z:Value} (hz:VR I c.v z):
  Inv gl P F n ops rs (Tt 0) H X I0 w0 e (λj=>L j\/j=i) I (a.put o.dst z) w:=by
 obtain⟨p1,p2,p3,p4⟩:=v.slots.put x ho hc hL (In.le_refl I) hz
 have sub:∀id o,RR rs H e (λj=>L j\/j=i) id o->RR rs H e L id o:=λid o h=>by
  rcases h with⟨j,cj,a1,a2,a3,a4,a5,a6⟩|h
  ·rcases a3 with a3|rfl
   ·exact .inl ⟨j,cj,a1,a2,a3,a4,a5,a6⟩
   ·rw[hc]at a1;cases a1;exact absurd ⟨a4,a5⟩ hk
  ·exact .inr h
 exact{
  eN:=v.eN,ep:=v.ep,e1:=λs h1 h2=> .inl (v.e1 s h1 h2)
  e2:=λs h1 h2 h3=>by
   rcases h3 with h3|rfl
   ·exact v.e2 s h1 h2 h3
   ·rw[hS]at h2;cases h2
  e3:=λj h1 h2=> .inl (v.e3 j h1 h2)
  cl:=v.cl.add ho hr
  lN:=λj h=>h.elim (v.lN j) λh=>by subst h;exact(Array.getElem?_eq_some_iff.1 ho).1
  sz:=p1,df:=p2,s1:=λj cj τ h1 h2 h3=>p3 j cj τ h1 h2 h3,s2:=p4
  obj:=λid o b t h=>v.obj id o b t (sub _ _ h)
  inj:=λid id' o o' b t t' h h'=>v.inj id id' o o' b t t' (sub _ _ h) (sub _ _ h')
  fr:=λid o b t h=>v.fr id o b t (sub _ _ h)
  ex:=λj cj h1 h2 h3 h4=>by
   rcases h2 with h2|rfl
   ·exact v.ex j cj h1 h2 h3 h4
   ·rw[hc]at h1;cases h1;exact absurd ⟨h3,h4⟩ hk
  exf:=λj cj b t h1 h2 h3 h4 h5 h6=>by
   rcases h3 with h3|rfl
   ·exact v.exf j cj b t h1 h2 h3 h4 h5 h6
   ·rw[hc]at h1;cases h1;exact absurd ⟨h4,h5⟩ hk
  dom:=λid y h=>(v.dom id y h).imp (λh=>h) λ⟨j,h1,h2⟩=>⟨j, .inl h1,h2⟩
  le:=v.le,frm:=v.frm,siz:=v.siz,sam:=v.sam}
def Inv.make(v:Inv gl P F n ops rs (Tt 0) H X I0 w0 e L I a w) (x:Text gl P n ops A pr rs Tt H X) (fr0:q0g I0 (X 0) (X ops.size)) (low:∀b,F true b->b<w0.heap.size) {i:Nat} {o:Oper} {c:Rc} (ho:ops[i]? =some o) (hc:rs[i]? =some c) (hL:¬L i) (hr:∀e∈o.after,Region.binds .any e=true->L e.on) (hS:flag isS ops.toList i=false) (hw:c.w=true) (hk:c.k= .a) {ob:AO} (hob:c.ob=some ob) (hA:isA P o=true) (hX:X (i+1)=X i+1) (hnx:c.nx=X i)
  {z:Value} {obj:Obj} {tot:Nat×Nat} {w':World} (hheap:w'.heap=w.heap.push obj) (hsame:Same w w') (hz:VR (ext I (X i) (w.heap.size,tot)) c.v z) (hor:OR (ext I (X i) (w.heap.size,tot)) tot ob obj) (hfree:I (X i)=none):
  Inv gl P F n ops rs (Tt 0) H X I0 w0 e (λj=>L j\/j=i) (ext I (X i) (w.heap.size,tot)) (a.put o.dst z) w':=by
 have hle:=q1m (w.heap.size,tot) hfree
 obtain⟨p1,p2,p3,p4⟩:=v.slots.put x ho hc hL hle hz
 have hei:e<=i:=by
  rcases Nat.lt_or_ge i e with h|h
  ·exact absurd (v.e3 i h (by rw[q0j ho];exact hA)) hL
  ·exact h
 have old:∀b,b<w.heap.size->w'.heap[b]? =w.heap[b]? :=λb hb=>by rw[hheap,Array.getElem?_push,if_neg (by omega)]
 have hnew:∀id y,id≠X i->ext I (X i) (w.heap.size,tot) id=some y->I id=some y:=λid y hne h=>by simpa[ext,hne]using h
 have part:∀id o',RR rs H e (λj=>L j\/j=i) id o'->(id≠X i/\RR rs H e L id o')\/(id=X i/\o'=ob):=λid o' h=>by
  rcases h with⟨j,cj,a1,a2,a3,a4,a5,a6,a7⟩|h
  ·rcases a3 with a3|rfl
   ·refine .inl ⟨λhe=> ?_, .inl ⟨j,cj,a1,a2,a3,a4,a5,a6,a7⟩⟩
    obtain⟨y,hy⟩:=v.ex j cj a1 a3 a4 a5
    rw[a6,he,hfree]at hy;cases hy
   ·rw[hc]at a1;cases a1
    rw[hob]at a7;cases a7
    exact .inr ⟨by rw[←a6,hnx],rfl⟩
  ·refine .inl ⟨λhe=> ?_, .inr h⟩
   have:=x.free hc hw hk hei v.ep
   rw[hnx,←he,h]at this;cases this
 have lowb:∀id o' b t,RR rs H e L id o'->I id=some (b,t)->b<w.heap.size:=λid o' b t h hI=>by
  obtain⟨ob',h1,_⟩:=v.obj id o' b t h hI
  exact(Array.getElem?_eq_some_iff.1 h1).1
 exact {
  eN:=v.eN,ep:=v.ep,e1:=λs h1 h2=> .inl (v.e1 s h1 h2)
  e2:=λs h1 h2 h3=>by
   rcases h3 with h3|rfl
   ·exact v.e2 s h1 h2 h3
   ·rw[hS]at h2;cases h2
  e3:=λj h1 h2=> .inl (v.e3 j h1 h2)
  cl:=v.cl.add ho hr
  lN:=λj h=>h.elim (v.lN j) λh=>by subst h;exact(Array.getElem?_eq_some_iff.1 ho).1
  sz:=p1,df:=p2,s1:=λj cj τ h1 h2 h3=>p3 j cj τ h1 h2 h3,s2:=p4
  obj :=λid o' b t h hI=>by
   rcases part id o' h with⟨h1,h2⟩|⟨rfl,rfl⟩
   ·have hI:=hnew id _ h1 hI
    obtain⟨ob',g1,g2⟩:=v.obj id o' b t h2 hI
    exact⟨ob',(old b (lowb _ _ _ _ h2 hI)).trans g1,g2.mono hle⟩
   ·rw[q07]at hI;cases hI
    exact⟨obj,by rw[hheap];simp,hor⟩
  inj :=λid id' o1 o2 b t t' h h' hI hI'=>by
   rcases part id o1 h with⟨h1,h2⟩|⟨rfl,rfl⟩<;>rcases part id' o2 h' with⟨h1',h2'⟩|⟨e2,e3⟩
   ·exact v.inj id id' o1 o2 b t t' h2 h2' (hnew _ _ h1 hI) (hnew _ _ h1' hI')
   ·subst e2
    rw[q07]at hI';cases hI'
    have:=lowb _ _ _ _ h2 (hnew _ _ h1 hI);omega
   ·rw[q07]at hI;cases hI
    have:=lowb _ _ _ _ h2' (hnew _ _ h1' hI');omega
   ·exact e2.symm
  fr:=λid o' b t h hI hf=>by
   rcases part id o' h with⟨h1,h2⟩|⟨rfl,rfl⟩
   ·exact v.fr id o' b t h2 (hnew _ _ h1 hI) hf
   ·rw[q07]at hI;cases hI
    have:=low _ hf;have:=v.siz;omega
  ex:=λj cj h1 h2 h3 h4=>by
   rcases h2 with h2|rfl
   ·obtain⟨y,hy⟩:=v.ex j cj h1 h2 h3 h4;exact⟨y,hle _ _ hy⟩
   ·rw[hc]at h1;cases h1;exact⟨_,by rw[hnx];exact q07 _ _ _⟩
  exf :=λj cj b t h1 h2 h3 h4 h5 h6 hf=>by
   rcases h3 with h3|rfl
   ·obtain⟨y,hy⟩:=v.ex j cj h1 h3 h4 h5
    have:=hle _ _ hy
    rw[h6]at this;cases this
    exact v.exf j cj b t h1 h2 h3 h4 h5 hy hf
   ·rw[hc]at h1;cases h1
    rw[hnx,q07]at h6;cases h6
    have:=low _ hf;have:=v.siz;omega
  dom:=λid y h=>by
   by_cases hid:id=X i
   ·exact .inr ⟨i, .inr rfl,by omega,by omega⟩
   ·exact(v.dom id y (hnew id y hid h)).imp (λh=>h) λ⟨j,h1,h2⟩=>⟨j, .inl h1,h2⟩
  le:=In.le_trans v.le hle
  frm:=λb hb=>(old b (by have:=low b hb;have:=v.siz;omega)).trans (v.frm b hb)
  siz:=by rw[hheap];have:=v.siz;simp;omega
  sam:=v.sam.trans hsame}
end
section
variable {P:Program} {n:Nat} {ops:Array Oper} {A:List Nat} {pr:q4u} {rs:List Rc} {Tt:Nat->T AV} {H:Nat->T AO} {X:Nat->Nat} {F:Bool->Nat->Prop} {I0:In} {w0:World} {e:Nat} {L:Nat->Prop} {I:In} {a:Act} {w:World}
def q6x(F:Bool->Nat->Prop) (rs:List Rc) (i:Nat) (L:Nat->Prop) (I:In):Bool->Nat->Prop
 |true,b=>F true b\/∃j c t,rs[j]? =some c/\i<j/\L j/\c.w=true/\c.k= .a/\I c.nx=some (b,t)
 |false,b=>F false b
def Inv.turn(v:Inv gl P F n ops rs (Tt 0) H X I0 w0 e L I a w) (x:Text gl P n ops A pr rs Tt H X) (fr0:q0g I0 (X 0) (X ops.size)) (low:∀b,F true b->b<w0.heap.size) (zf:∀b,F false b->F true b) {i:Nat} {o:Oper} {c:Rc} (ho:ops[i]? =some o) (hc:rs[i]? =some c) (hL:¬L i) (hr:∀e∈o.after,Region.binds .any e=true->L e.on) (hS:flag isS ops.toList i=true) (hpr:∀p,pr=some (p,i)->L p):
  e<=i/\Sim (q6x F rs i L I) I (H i) w/\(∀b,q6x F rs i L I true b->b<w.heap.size)/\q0g I (X i) (X (i+1))/\
  ∀z I' w',VR I' c.v z->Grow (q6x F rs i L I) I (X i) w I' (X (i+1)) (H (i+1)) w'->Inv gl P F n ops rs (Tt 0) H X I0 w0 (i+1) (λj=>L j\/j=i) I' (a.put o.dst z) w':=by
 obtain⟨hco,hst⟩:=x.step i o c ho hc
 obtain⟨_,hnx,_,_,_,hkw,_⟩:=hst
 obtain⟨_,_,l3⟩:=x.look ho hc
 have hi:i<ops.size:=(Array.getElem?_eq_some_iff.1 ho).1
 have hso:isS o=true:=by rw[q0j ho]at hS;exact hS
 have ahead:∀j,j<i->flag isS ops.toList j=true\/flag (isA P) ops.toList j=true->L j:=λj h1 h2=>(l3 hso j h1 h2).elim (q0b x.hA v.cl ho hr) (hpr j)
 have hei:e<=i:=by
  rcases Nat.lt_or_ge i e with h|h
  ·exact absurd (v.e1 i h hS) hL
  ·exact h
 have none':∀s,e<=s->s<i->flag isS ops.toList s=false:=λs h1 h2=>by
  cases hf:flag isS ops.toList s with
  |false=>rfl
  |true=>exact absurd (ahead s h2 (.inl hf)) (v.e2 s h1 hf)
 have apart:∀j cj t b id o' y,rs[j]? =some cj->i<j->L j->cj.w=true->cj.k= .a->I cj.nx=some (b,t)->(H i).get id=some o'->I id=some (b,y)->False:=by
  intro j cj t b id o' y h1 h2 h3 h4 h5 h6 h7 h8
  obtain⟨oj,cj',g1,g2,g3,g4⟩:=x.rc (v.lN j h3)
  rw[h1]at g2;cases g2
  obtain⟨_,gnx,_,_,_,gw,_⟩:=g4
  have gk:=gw h4
  rw[h5]at gk
  obtain⟨xx,gob,_,_,gX,_,_⟩:=gk
  have hid:id=cj.nx:=v.inj id cj.nx o' xx b y t (v.simAt x fr0 hei (by omega) none' h7 h8) (.inl ⟨j,cj,h1,by omega,h3,h4,h5,rfl,gob⟩) h8 h6
  subst hid
  rcases x.reach i hei (by omega) none' _ _ h7 with⟨j',c',q1,q2,q3,q4,q5,q6,q7⟩|h9
  ·obtain⟨oj',cj2,r1,r2,r3,r4⟩:=x.rc (i:=j') (by omega)
   rw[q1]at r2;cases r2
   obtain⟨_,rnx,_,_,_,rw',_⟩:=r4
   have rk:=rw' q4
   rw[q5]at rk
   obtain⟨_,_,_,_,rX,_,_⟩:=rk
   have:=x.xle (i:=j'+1) (j:=j) (by omega) (by have:=v.lN j h3;omega)
   omega
  ·have:=x.free h1 h4 h5 (by omega:e<=j) v.ep
   rw[this]at h9;cases h9
 refine⟨hei,?_,?_,?_,?_⟩
 ·have s:=v.sim x fr0 hei (by omega) none'
  refine⟨s.obj,s.inj,λid o' b t h1 h2 hf=> ?_⟩
  rcases hf with hf|⟨j,cj,t',q1,q2,q3,q4,q5,q6⟩
  ·exact s.fr id o' b t h1 h2 hf
  ·exact(apart j cj t' b id o' t q1 q2 q3 q4 q5 q6 h1 h2).elim
 ·intro b hb
  rcases hb with hb|⟨j,cj,t',q1,q2,q3,q4,q5,q6⟩
  ·have:=low b hb;have:=v.siz;omega
  ·obtain⟨oj,cj',g1,g2,g3,g4⟩:=x.rc (v.lN j q3)
   rw[q1]at g2;cases g2
   obtain⟨_,gnx,_,_,_,gw,_⟩:=g4
   have gk:=gw q4
   rw[q5]at gk
   obtain⟨xx,gob,_⟩:=gk
   obtain⟨ob',k1,_⟩:=v.obj _ _ _ _ (.inl ⟨j,cj,q1,by omega,q3,q4,q5,rfl,gob⟩) q6
   exact(Array.getElem?_eq_some_iff.1 k1).1
 ·intro id h1 h2
  cases hI:I id with
  |none=>rfl
  |some y=>exact absurd (v.doneX x fr0 hi h1 h2 hI) hL
 ·intro z I' w' hz g
  obtain⟨p1,p2,p3,p4⟩:=v.slots.put x ho hc hL g.le hz
  have stays:∀j cj b t,rs[j]? =some cj->i+1<=j->L j\/j=i->cj.w=true->cj.k= .a->I' cj.nx=some (b,t)->L j/\I cj.nx=some (b,t)/\q6x F rs i L I true b:=by
   intro j cj b t h1 h2 h3 h4 h5 h6
   have h3:L j:=by
    rcases h3 with h3|h3
    ·exact h3
    ·omega
   obtain⟨y,hy⟩:=v.ex j cj h1 h3 h4 h5
   have:=g.le _ _ hy
   rw[h6]at this;cases this
   exact⟨h3,hy, .inr ⟨j,cj,t,h1,by omega,h3,h4,h5,hy⟩⟩
  have ahd:∀j cj o',rs[j]? =some cj->i+1<=j->L j->cj.w=true->cj.k= .a->cj.ob=some o'->RR rs H e L cj.nx o':=λj cj o' h1 h2 h3 h4 h5 h6=> .inl ⟨j,cj,h1,by omega,h3,h4,h5,rfl,h6⟩
  have noF:∀j cj b t,rs[j]? =some cj->i+1<=j->L j->cj.w=true->cj.k= .a->I cj.nx=some (b,t)->¬F true b:=λj cj b t h1 h2 h3 h4 h5 h6=>v.exf j cj b t h1 (by omega) h3 h4 h5 h6
  exact {
   eN:=by omega
   ep:=by simp only[qgv];exact hS
   e1:=λs h1 h2=>by
    by_cases es:s=i
    ·exact .inr es
    ·exact .inl (ahead s (by omega) (.inl h2))
   e2:=λs h1 h2 h3=>by
    rcases h3 with h3|h3
    ·exact v.e2 s (by omega) h2 h3
    ·omega
   e3:=λj h1 h2=>by
    by_cases es:j=i
    ·exact .inr es
    ·exact .inl (ahead j (by omega) (.inr h2))
   cl:=v.cl.add ho hr
   lN:=λj h=>h.elim (v.lN j) λh=>by subst h;exact hi
   sz:=p1,df:=p2,s1:=λj cj τ h1 h2 h3=>p3 j cj τ h1 h2 h3,s2:=p4
   obj :=λid o' b t h hI=>by
    rcases h with⟨j,cj,a1,a2,a3,a4,a5,a6,a7⟩|h
    ·subst a6
     obtain⟨q1,q2,q3⟩:=stays j cj b t a1 a2 a3 a4 a5 hI
     obtain⟨ob',k1,k2⟩:=v.obj _ _ _ _ (ahd j cj o' a1 a2 q1 a4 a5 a7) q2
     exact⟨ob',(g.fr b q3).trans k1,k2.mono g.le⟩
    ·exact g.sim.obj id o' b t h hI
   inj :=λid id' o1 o2 b t t' h h' hI hI'=>by
    rcases h with⟨j,cj,a1,a2,a3,a4,a5,a6,a7⟩|h<;>rcases h' with⟨j',cj',b1,b2,b3,b4,b5,b6,b7⟩|h'
    ·subst a6 b6
     obtain⟨q1,q2,_⟩:=stays j cj b t a1 a2 a3 a4 a5 hI
     obtain⟨q1',q2',_⟩:=stays j' cj' b t' b1 b2 b3 b4 b5 hI'
     exact v.inj _ _ o1 o2 b t t' (ahd j cj o1 a1 a2 q1 a4 a5 a7) (ahd j' cj' o2 b1 b2 q1' b4 b5 b7) q2 q2'
    ·subst a6
     obtain⟨q1,q2,q3⟩:=stays j cj b t a1 a2 a3 a4 a5 hI
     have:=(g.sim.fr id' o2 b t' h' hI' q3).2
     exact absurd (zf b this) (noF j cj b t a1 a2 q1 a4 a5 q2)
    ·subst b6
     obtain⟨q1',q2',q3'⟩:=stays j' cj' b t' b1 b2 b3 b4 b5 hI'
     have:=(g.sim.fr id o1 b t h hI q3').2
     exact absurd (zf b this) (noF j' cj' b t' b1 b2 q1' b4 b5 q2')
    ·exact g.sim.inj id id' o1 o2 b t t' h h' hI hI'
   fr:=λid o' b t h hI hf=>by
    rcases h with⟨j,cj,a1,a2,a3,a4,a5,a6,a7⟩|h
    ·subst a6
     obtain⟨q1,q2,q3⟩:=stays j cj b t a1 a2 a3 a4 a5 hI
     exact absurd hf (noF j cj b t a1 a2 q1 a4 a5 q2)
    ·exact g.sim.fr id o' b t h hI (.inl hf)
   ex:=λj cj h1 h2 h3 h4=>by
    rcases h2 with h2|rfl
    ·obtain⟨y,hy⟩:=v.ex j cj h1 h2 h3 h4;exact⟨y,g.le _ _ hy⟩
    ·rw[hc]at h1;cases h1
     have:=hkw h3
     rw[h4]at this
     obtain⟨_,_,_,_,_,_,hns⟩:=this
     rw[hco,hso]at hns;cases hns
   exf:=λj cj b t h1 h2 h3 h4 h5 h6=>by
    obtain⟨q1,q2,q3⟩:=stays j cj b t h1 h2 h3 h4 h5 h6
    exact noF j cj b t h1 h2 q1 h4 h5 q2
   dom:=λid y h=>by
    rcases g.new id y h with h|h
    ·exact(v.dom id y h).imp (λh=>h) λ⟨j,h1,h2⟩=>⟨j, .inl h1,h2⟩
    ·exact .inr ⟨i, .inr rfl,h⟩
   le:=In.le_trans v.le g.le
   frm:=λb hb=>(g.fr b (.inl hb)).trans (v.frm b hb)
   siz:=Nat.le_trans v.siz g.size
   sam:=v.sam.trans g.same}
end
section
variable {P:Program} {n:Nat} {ops:Array Oper} {A:List Nat} {pr:q4u} {rs:List Rc} {Tt:Nat->T AV} {H:Nat->T AO} {X:Nat->Nat} {F:Bool->Nat->Prop} {I0:In} {w0:World} {e:Nat} {L:Nat->Prop} {I:In} {a:Act} {w:World}
variable {t:T AV} {o:Oper} {st:TypeId}
def q45{P:Program} {h h':T AO} {nx nx':Nat} {r:AV} {x y:Operand} (ho:o.op= .store st x y) (e:sop P t h nx o=some (r,h',nx')):
  r=q0c/\nx'=nx/\∃id off,ev t x=some (.ptr id off)/\∀k,k≠id->h'.get k=h.get k:=by
 simp only[sop,ho]at e
 split at e
 ·rename_i id off v hx hy
  split at e
  ·rename_i h2 hp
   cases e
   refine⟨rfl,rfl,id,off,hx,λk hk=> ?_⟩
   unfold q5n at hp
   simp only at hp
   split at hp
   ·split at hp
    ·unfold q77 at hp
     split at hp
     ·split at hp
      ·rw[T.get_put _ _ _ _ _ hp,if_neg hk]
      ·cases hp
     ·cases hp
    ·cases hp
   ·cases hp
  ·cases e
 ·cases e
structure PairOK(gl:T AV) (P:Program) (ops:Array Oper) (A:List Nat) (pr:q4u) (rs:List Rc) (H:Nat->T AO) (X:Nat->Nat) (p q:Nat) (ci cj:Rc) (B B':T AO):Prop where
 pr:pr=some (p,q)
 lt:p<q
 ltN:q<ops.size
 sp:flag isS ops.toList p=true
 sq:flag isS ops.toList q=true
 np:flag (isA P) ops.toList p=false
 nq:flag (isA P) ops.toList q=false
 st:∀k,k<ops.size->k≠p->k≠q->flag isS ops.toList k=true\/flag (isA P) ops.toList k=true\/flag isR ops.toList k=true->q15 A p k=true/\q15 A q k=true
 hp:rs[p]? =some ci
 hq:rs[q]? =some cj
 wp:ci.w=true
 wq:cj.w=true
 vp:ci.v=q0c
 vq:cj.v=q0c
 jr:sop P cj.t (H p) (X q) cj.o=some (q0c,B,X q)
 ir:sop P ci.t B (X p) ci.o=some (q0c,B',X p)
 xp:X (p+1)=X p
 xq:X (q+1)=X q
 eq:∀id,B'.get id=(H (q+1)).get id
def q7q{gl:T AV} {P:Program} {h h':T AO} {nx nx':Nat} {k:Kd} {v:AV} {ob:Option AO} {x y:Operand} (ho:o.op= .store st x y) (hk:KP gl P t h nx o k v ob h' nx'):sop P t h nx o=some (v,h',nx'):=by
 cases k with
 |q=>obtain⟨_,_,h1⟩:=hk;simp[qop,ho]at h1
 |r=>obtain⟨_,_,h1,_⟩:=hk;simp[rop,ho]at h1
 |a=>obtain⟨z,_,h1,_⟩:=hk;simp[aop,ho]at h1
 |s=>exact hk.2.2 _ _ _ ho
def q7i{l:List Oper} {i:Nat} (h:q4a l i=true):∃o st x y,l[i]? =some o/\o.op= .store st x y:=by
 unfold q4a at h
 split at h
 ·rename_i o ho
  split at h
  ·rename_i st x y hop;exact⟨o,st,x,y,by rw[←q0f];exact ho,hop⟩
  ·cases h
 ·cases h
def Text.still(x:Text gl P n ops A pr rs Tt H X) {i:Nat}:∀m,i<=m->m<=ops.size->(∀s,i<=s->s<m->flag isS ops.toList s=false/\flag (isA P) ops.toList s=false)->H m=H i/\X m=X i:=by
  intro m
  induction m with
  | zero => intro h1 _ _;have:i=0:=by omega
            subst this;exact⟨rfl,rfl⟩
  | succ m ih=>
    intro h1 h2 h3
    by_cases hm:i=m+1
    · subst hm;exact⟨rfl,rfl⟩
    · obtain⟨k1,k2⟩:=ih (by omega) (by omega) λs a b=>h3 s a (by omega)
      obtain⟨o,c,g1,g2,g3,g4⟩:=x.rc (i:=m) (by omega)
      obtain⟨_,_,_,_,_,hw,hu⟩:=g4
      obtain⟨f1,f2⟩:=h3 m (by omega) (Nat.lt_succ_self _)
      rw[q0j g1]at f1 f2
      cases hcw:c.w with
      | false=>
        obtain⟨_,u2,u3⟩:=hu hcw
        rw[u2,u3];exact⟨k1,k2⟩
      | true=>
        have hk:=hw hcw
        cases hck:c.k<;>rw[hck]at hk
        · rw[hk.1,hk.2.1];exact⟨k1,k2⟩
        · rw[hk.1,hk.2.1];exact⟨k1,k2⟩
        · obtain⟨_,_,_,_,_,k5,_⟩:=hk
          rw[g3,f2]at k5;cases k5
        · have:=hk.2.1
          rw[g3,f1]at this;cases this
def Text.pair (x:Text gl P n ops A pr rs Tt H X) {p q:Nat} (hpr:pr=some (p,q)) (hst:q1t P ops A p q=true) (hdy:q4h P pr rs (H ops.size)=true):∃ci cj B B',PairOK gl P ops A pr rs H X p q ci cj B B':=by
 unfold q1t at hst
 simp only[Bool.and_eq_true]at hst
 obtain⟨⟨⟨⟨s1,s2⟩,s3⟩,s4⟩,s5⟩:=hst
 have hlt:p<q:=by simpa[Nat.blt_eq]using s3
 have hqN:q<ops.size:=by have:=s4;rw[blt_eq]at this;simpa using this
 have hall:∀k,k<ops.size->k≠p->k≠q->flag isS ops.toList k=true\/flag (isA P) ops.toList k=true\/flag isR ops.toList k=true->q15 A p k=true/\q15 A q k=true:=by
  intro k hk h1 h2 h3
  have:=q08 s5 k (by simpa using hk)
  simp only[Bool.or_eq_true,Bool.not_eq_true',Bool.and_eq_true,Bool.or_eq_false_iff]at this
  rcases this with((h|h)|h)|h
  ·exact absurd (Nat.eq_of_beq_eq_true h) h1
  ·exact absurd (Nat.eq_of_beq_eq_true h) h2
  ·rcases h3 with h3|h3|h3
   ·rw[h.1.1]at h3;cases h3
   ·rw[h.1.2]at h3;cases h3
   ·rw[h.2]at h3;cases h3
  ·exact h
 obtain⟨op,st,px,py,o1,o2⟩:=q7i s1
 obtain⟨oq,st',qx,qy,o3,o4⟩:=q7i s2
 have op1:ops[p]? =some op:=by simpa using o1
 have oq1:ops[q]? =some oq:=by simpa using o3
 have fS:∀{i o st x y},ops[i]? =some o->o.op= .store st x y->flag isS ops.toList i=true/\flag (isA P) ops.toList i=false:=λhi ho=>by
  rw[q0j hi,q0j hi];simp[isS,isA,ho]
 obtain⟨fp,ap⟩:=fS op1 o2
 obtain⟨fq,aq⟩:=fS oq1 o4
 subst hpr
 unfold q4h at hdy
 simp only at hdy
 split at hdy
 ·rename_i ci hci
  split at hdy
  ·rename_i cj hcj
   split at hdy
   ·rename_i vj B nj hj
    split at hdy
    ·rename_i vi B' ni hi
     split at hdy
     ·rename_i di hdi
      split at hdy
      ·rename_i dj hdj
       simp only[Bool.and_eq_true]at hdy
       obtain⟨⟨⟨d1,d2⟩,d3⟩,d4⟩:=hdy
       rw[q0f]at hci hcj
       obtain⟨e1,e2⟩:=x.step p op ci op1 hci
       obtain⟨g1,g2⟩:=x.step q oq cj oq1 hcj
       obtain⟨eh,ex,_,_,_,ew,_⟩:=e2
       obtain⟨gh,gx,_,_,_,gw,_⟩:=g2
       have hio:ci.o.op= .store st px py:=by rw[e1];exact o2
       have hjo:cj.o.op= .store st' qx qy:=by rw[g1];exact o4
       obtain⟨i1,i2,idi,offi,i3,i4⟩:=q45 hio (q7q hio (ew d1))
       obtain⟨j1,j2,idj,offj,j3,j4⟩:=q45 hjo (q7q hjo (gw d2))
       rw[eh,gx]at hj
       rw[ex]at hi
       obtain⟨b1,b2,idb,offb,b3,b4⟩:=q45 hjo hj
       obtain⟨c1,c2,idc,offc,c3,c4⟩:=q45 hio hi
       have hidi:idi=di/\idc=di:=by
        unfold q8v at hdi
        rw[hio]at hdi
        simp only[i3]at hdi
        rw[i3]at c3;cases c3;cases hdi;exact⟨rfl,rfl⟩
       have hidj:idj=dj/\idb=dj:=by
        unfold q8v at hdj
        rw[hjo]at hdj
        simp only[j3]at hdj
        rw[j3]at b3;cases b3;cases hdj;exact⟨rfl,rfl⟩
       obtain⟨rfl,rfl⟩:=hidi
       obtain⟨rfl,rfl⟩:=hidj
       have quiet:∀lo hi',(∀s,lo<=s->s<hi'->s≠p/\s≠q/\¬s<p)->hi'<=ops.size->∀s,lo<=s->s<hi'->flag isS ops.toList s=false/\flag (isA P) ops.toList s=false:=by
        intro lo hi' h0 h1 s h2 h3
        obtain⟨k1,k2,k3⟩:=h0 s h2 h3
        have no:¬(flag isS ops.toList s=true\/flag (isA P) ops.toList s=true):=λhf=>by
         have:=(hall s (by omega) k1 k2 (hf.elim .inl λh=> .inr (.inl h))).1
         exact k3 (q5s x.hA this)
        constructor
        ·cases h:flag isS ops.toList s with
         |false=>rfl
         |true=>exact absurd (.inl h) no
        ·cases h:flag (isA P) ops.toList s with
         |false=>rfl
         |true=>exact absurd (.inr h) no
       obtain⟨m1,m2⟩:=x.still (i:=p+1) q (by omega) (by omega) (quiet (p+1) q (λs h1 h2=>⟨by omega,by omega,by omega⟩) (by omega))
       obtain⟨t1,t2⟩:=x.still (i:=q+1) ops.size (by omega) (Nat.le_refl _) (quiet (q+1) ops.size (λs h1 h2=>⟨by omega,by omega,by omega⟩) (Nat.le_refl _))
       rw[t1]at d3 d4
       refine⟨ci,cj,B,B',⟨rfl,hlt,hqN,fp,fq,ap,aq,hall,hci,hcj,d1,d2,i1,j1,by rw[hj,b1,b2],by rw[hi,c1,c2],i2,j2,λid=> ?_⟩⟩
       by_cases k1:id=idc
       ·subst k1;exact qes d3
       ·by_cases k2:id=idb
        ·subst k2;exact qes d4
        ·rw[c4 id k1,b4 id k2,j4 id k2,m1,i4 id k1]
      ·cases hdy
     ·cases hdy
    ·cases hdy
   ·cases hdy
  ·cases hdy
 ·cases hdy
structure Inv2(gl:T AV) (P:Program) (F:Bool->Nat->Prop) (n:Nat) (ops:Array Oper) (rs:List Rc) (T0:T AV) (X:Nat->Nat) (I0:In) (w0:World) (p q:Nat) (B:T AO) (L:Nat->Prop) (I:In) (a:Act) (w:World):Prop where
 sl:SInv n ops rs T0 L I a
 hp:¬L p
 hq:L q
 sim:Sim F I B w
 ex:∀j c,rs[j]? =some c->L j->c.w=true->c.k= .a->∃x,I c.nx=some x
 dom:∀id x,I id=some x->I0 id=some x\/∃j,L j/\X j<=id/\id<X (j+1)
 le:I0.le I
 frm:∀b,F true b->w.heap[b]? =w0.heap[b]?
 siz:w0.heap.size<=w.heap.size
 sam:Same w0 w
def Sim.same{F:Bool->Nat->Prop} {I:In} {h h':T AO} {w:World} (s:Sim F I h w) (e:∀id,h'.get id=h.get id):Sim F I h' w:=
 ⟨λid o b t h1 h2=>s.obj id o b t (by rw[←e];exact h1) h2,λid id' o o' b t t' h1 h2=>s.inj id id' o o' b t t' (by rw[←e];exact h1) (by rw[←e];exact h2),λid o b t h1=>s.fr id o b t (by rw[←e];exact h1)⟩
variable {p q:Nat} {ci cj:Rc} {B B':T AO}
def PairOK.done(k:PairOK gl P ops A pr rs H X p q ci cj B B') (x:Text gl P n ops A pr rs Tt H X) (hL:q2g ops L) {i:Nat} {o:Oper} (ho:ops[i]? =some o) (hr:∀e∈o.after,Region.binds .any e=true->L e.on) (hi:i=p\/i=q) {s:Nat} (hs:s<ops.size) (h1:s≠p) (h2:s≠q) (hf:flag isS ops.toList s=true\/flag (isA P) ops.toList s=true\/flag isR ops.toList s=true):L s:=by
 obtain⟨b1,b2⟩:=k.st s hs h1 h2 hf
 rcases hi with rfl|rfl
 ·exact q0b x.hA hL ho hr b1
 ·exact q0b x.hA hL ho hr b2
def PairOK.noMake(k:PairOK gl P ops A pr rs H X p q ci cj B B') (x:Text gl P n ops A pr rs Tt H X) {i:Nat} {c:Rc} (hi:i=p\/i=q) (hc:rs[i]? =some c) (hw:c.w=true) (hk:c.k= .a):False:=by
 have hj:i<ops.size:=by have:=(List.getElem?_eq_some_iff.1 hc).1;rw[x.len]at this;exact this
 obtain⟨oj,cj',g1,g2,g3,g4⟩:=x.rc hj
 rw[hc]at g2;cases g2
 obtain⟨_,_,_,_,_,gw,_⟩:=g4
 have gk:=gw hw
 rw[hk]at gk
 obtain⟨_,_,_,_,_,ga,_⟩:=gk
 rw[g3,←q0j (f:=isA P) g1]at ga
 rcases hi with rfl|rfl
 ·rw[k.np]at ga;cases ga
 ·rw[k.nq]at ga;cases ga
def Inv.later(v:Inv gl P F n ops rs (Tt 0) H X I0 w0 e L I a w) (k:PairOK gl P ops A pr rs H X p q ci cj B B') (x:Text gl P n ops A pr rs Tt H X) (fr0:q0g I0 (X 0) (X ops.size)) (hnp:¬L p) {o:Oper} (ho:ops[q]? =some o) (hL:¬L q) (hr:∀e∈o.after,Region.binds .any e=true->L e.on):
  Sim F I (H p) w/\∀z I' w',VR I' cj.v z->Grow F I (X q) w I' (X q) B w'->Inv2 gl P F n ops rs (Tt 0) X I0 w0 p q B (λj=>L j\/j=q) I' (a.put o.dst z) w':=by
 have hep:e<=p:=by
  rcases Nat.lt_or_ge p e with h|h
  ·exact absurd (v.e1 p h k.sp) hnp
  ·exact h
 have noS:∀s,e<=s->s<p->flag isS ops.toList s=false:=λs h1 h2=>by
  cases hf:flag isS ops.toList s with
  |false=>rfl
  |true=>exact absurd (k.done x v.cl ho hr (.inr rfl) (by have:=k.lt;have:=k.ltN;omega) (by omega) (by have:=k.lt;omega) (.inl hf)) (v.e2 s h1 hf)
 refine⟨v.sim x fr0 hep (by have:=k.lt;have:=k.ltN;omega) noS,λz I' w' hz g=> ?_⟩
 obtain⟨p1,p2,p3,p4⟩:=v.slots.put x ho k.hq hL g.le hz
 exact{
  sl:=⟨v.cl.add ho hr,λj h=>h.elim (v.lN j) λh=>by subst h;exact k.ltN,p1,p2,λj cj τ h1 h2 h3=>p3 j cj τ h1 h2 h3,p4⟩
  hp:=λh=>h.elim hnp λh=>by have:=k.lt;omega
  hq:= .inr rfl
  sim:=g.sim
  ex:=λj c h1 h2 h3 h4=>by
   rcases h2 with h2|rfl
   ·obtain⟨y,hy⟩:=v.ex j c h1 h2 h3 h4;exact⟨y,g.le _ _ hy⟩
   ·exact(k.noMake x (.inr rfl) h1 h3 h4).elim
  dom:=λid y h=>by
   rcases g.new id y h with h|⟨h1,h2⟩
   ·exact(v.dom id y h).imp (λh=>h) λ⟨j,h1,h2⟩=>⟨j, .inl h1,h2⟩
   ·omega
  le:=In.le_trans v.le g.le
  frm:=λb hb=>(g.fr b hb).trans (v.frm b hb)
  siz:=Nat.le_trans v.siz g.size
  sam:=v.sam.trans g.same}
def Inv2.stay(v:Inv2 gl P F n ops rs (Tt 0) X I0 w0 p q B L I a w) (x:Text gl P n ops A pr rs Tt H X) {i:Nat} {o:Oper} {c:Rc} (ho:ops[i]? =some o) (hc:rs[i]? =some c) (hL:¬L i) (hr:∀e∈o.after,Region.binds .any e=true->L e.on) (hip:i≠p) (hk:¬(c.w=true/\c.k= .a)) {z:Value} (hz:VR I c.v z):
  Inv2 gl P F n ops rs (Tt 0) X I0 w0 p q B (λj=>L j\/j=i) I (a.put o.dst z) w:=by
 obtain⟨p1,p2,p3,p4⟩:=v.sl.put x ho hc hL (In.le_refl I) hz
 exact{
  sl:=⟨v.sl.cl.add ho hr,λj h=>h.elim (v.sl.lN j) λh=>by subst h;exact(Array.getElem?_eq_some_iff.1 ho).1,p1,p2,λj cj τ h1 h2 h3=>p3 j cj τ h1 h2 h3,p4⟩
  hp:=λh=>h.elim v.hp λh=>hip h.symm
  hq:= .inl v.hq,sim:=v.sim
  ex:=λj cj h1 h2 h3 h4=>by
   rcases h2 with h2|rfl
   ·exact v.ex j cj h1 h2 h3 h4
   ·rw[hc]at h1;cases h1;exact absurd ⟨h3,h4⟩ hk
  dom:=λid y h=>(v.dom id y h).imp (λh=>h) λ⟨j,h1,h2⟩=>⟨j, .inl h1,h2⟩
  le:=v.le,frm:=v.frm,siz:=v.siz,sam:=v.sam}
def Inv2.earlier(v:Inv2 gl P F n ops rs (Tt 0) X I0 w0 p q B L I a w) (k:PairOK gl P ops A pr rs H X p q ci cj B B') (x:Text gl P n ops A pr rs Tt H X) {o:Oper} (ho:ops[p]? =some o) (hr:∀e∈o.after,Region.binds .any e=true->L e.on) {z:Value} {I':In} {w':World} (hz:VR I' ci.v z) (g:Grow F I (X p) w I' (X p) B' w'):
  Inv gl P F n ops rs (Tt 0) H X I0 w0 (q+1) (λj=>L j\/j=p) I' (a.put o.dst z) w':=by
 obtain⟨p1,p2,p3,p4⟩:=v.sl.put x ho k.hp v.hp g.le hz
 have hlt:=k.lt
 have hqN:=k.ltN
 have all:∀s,s<ops.size->s≠p->s≠q->flag isS ops.toList s=true\/flag (isA P) ops.toList s=true->L s:=λs h1 h2 h3 hf=>
  k.done x v.sl.cl ho hr (.inl rfl) h1 h2 h3 (hf.elim .inl λh=> .inr (.inl h))
 have ahead:∀s,s<ops.size->s≠p->s≠q->flag isS ops.toList s=true\/flag (isA P) ops.toList s=true->s<p:=λs h1 h2 h3 hf=>
  q5s x.hA (k.st s h1 h2 h3 (hf.elim .inl λh=> .inr (.inl h))).1
 have sim:Sim F I' (H (q+1)) w':=g.sim.same λid=>(k.eq id).symm
 have noA:∀j c,rs[j]? =some c->q+1<=j->c.w=true->c.k= .a->False:=λj c h1 h2 h3 h4=>by
  have hj:j<ops.size:=by have:=(List.getElem?_eq_some_iff.1 h1).1;rw[x.len]at this;exact this
  obtain⟨oj,cj',g1,g2,g3,g4⟩:=x.rc hj
  rw[h1]at g2;cases g2
  obtain⟨_,_,_,_,_,gw,_⟩:=g4
  have gk:=gw h3
  rw[h4]at gk
  obtain⟨_,_,_,_,_,ga,_⟩:=gk
  have:=ahead j hj (by omega) (by omega) (.inr (by rw[q0j g1,←g3];exact ga))
  omega
 have mem:∀id o',RR rs H (q+1) (λj=>L j\/j=p) id o'->(H (q+1)).get id=some o':=λid o' h=>by
  rcases h with⟨j,c,a1,a2,a3,a4,a5,_⟩|h
  ·exact(noA j c a1 a2 a4 a5).elim
  ·exact h
 exact {
  eN:=hqN
  ep:=k.sq
  e1:=λs h1 h2=>by
   by_cases e1:s=p
   ·exact .inr e1
   ·by_cases e2:s=q
    ·subst e2;exact .inl v.hq
    ·exact .inl (all s (by omega) e1 e2 (.inl h2))
  e2:=λs h1 h2 h3=>by
   by_cases hs:s<ops.size
   ·have:=ahead s hs (by omega) (by omega) (.inl h2);omega
   ·rcases h3 with h3|h3
    ·exact hs (v.sl.lN s h3)
    ·omega
  e3:=λs h1 h2=>by
   by_cases e1:s=p
   ·exact .inr e1
   ·by_cases e2:s=q
    ·subst e2;exact .inl v.hq
    ·exact .inl (all s (by omega) e1 e2 (.inr h2))
  cl:=v.sl.cl.add ho hr
  lN:=λj h=>h.elim (v.sl.lN j) λh=>by subst h;omega
  sz:=p1,df:=p2,s1:=λj cj τ h1 h2 h3=>p3 j cj τ h1 h2 h3,s2:=p4
  obj:=λid o' b t h hI=>sim.obj id o' b t (mem id o' h) hI
  inj:=λid id' o1 o2 b t t' h h' hI hI'=>sim.inj id id' o1 o2 b t t' (mem _ _ h) (mem _ _ h') hI hI'
  fr:=λid o' b t h hI hf=>sim.fr id o' b t (mem _ _ h) hI hf
  ex:=λj c h1 h2 h3 h4=>by
   rcases h2 with h2|rfl
   ·obtain⟨y,hy⟩:=v.ex j c h1 h2 h3 h4;exact⟨y,g.le _ _ hy⟩
   ·exact(k.noMake x (.inl rfl) h1 h3 h4).elim
  exf:=λj c b t h1 h2 h3 h4 h5 h6=>(noA j c h1 h2 h4 h5).elim
  dom:=λid y h=>by
   rcases g.new id y h with h|⟨h1,h2⟩
   ·exact(v.dom id y h).imp (λh=>h) λ⟨j,h1,h2⟩=>⟨j, .inl h1,h2⟩
   ·omega
  le:=In.le_trans v.le g.le
  frm:=λb hb=>(g.fr b hb).trans (v.frm b hb)
  siz:=Nat.le_trans v.siz g.size
  sam:=v.sam.trans g.same}
end
def q4i {P : Program} {n:Nat} {ops:Array Oper} {A:List Nat} {pr:q4u} {rs:List Rc} {Tt:Nat->T AV} {H:Nat->T AO} {X:Nat->Nat} (x:Text gl P n ops A pr rs Tt H X) {F:Bool->Nat->Prop} {I0:In} {w0:World} (fr0:q0g I0 (X 0) (X ops.size)) (low:∀b,F true b->b<w0.heap.size) (zf:∀b,F false b->F true b) (hG:GOK gl I0) (hpo:∀p q,pr=some (p,q)->∃ci cj B B',PairOK gl P ops A pr rs H X p q ci cj B B') {Q:Exit->Act->World->Prop}
    (hQ:∀a' I' w',St gl F I' (Tt ops.size) (H ops.size) n a' w'->Grow F I0 (X 0) w0 I' (X ops.size) (H ops.size) w'->Q .normal a' w'):
    ∀(fuel:Nat) (listed:Array Bool) (I:In) (a:Act) (w:World),listed.size=ops.size->cnt ops.size (λi=>listed.getD i false)+fuel=ops.size->((∃e,Inv gl P F n ops rs (Tt 0) H X I0 w0 e (λi=>listed.getD i false=true) I a w)\/∃p q ci cj B B',PairOK gl P ops A pr rs H X p q ci cj B B'/\Inv2 gl P F n ops rs (Tt 0) X I0 w0 p q B (λi=>listed.getD i false=true) I a w)->wpAny P .any ops Q fuel listed a w:=by
  intro fuel
  have fin:∀(listed:Array Bool) (e:Nat) (I:In) (a:Act) (w:World),(∀i,i<ops.size->listed.getD i false=true)->Inv gl P F n ops rs (Tt 0) H X I0 w0 e (λi=>listed.getD i false=true) I a w->Q .normal a w:=by
    intro listed e I a w hall v
    have noS:∀s,e<=s->s<ops.size->flag isS ops.toList s=false:=λs h1 h2=>by
      cases hf:flag isS ops.toList s with
      |false=>rfl
      |true=>exact absurd (hall s h2) (v.e2 s h1 hf)
    refine hQ a I w ⟨fun τ b hb=> ?_,v.sz,v.df,v.sim x fr0 v.eN (Nat.le_refl _) noS,λb hb=>Nat.lt_of_lt_of_le (low b hb) v.siz,hG.mono v.le,zf⟩ ⟨v.le,λid y h=> ?_,v.sim x fr0 v.eN (Nat.le_refl _) noS,v.frm,v.siz,v.sam⟩
    · rcases x.slot ops.size (Nat.le_refl _) τ with⟨j,cj,a1,a2,a3,a4⟩|⟨a1,a2⟩
      · rw[hb]at a4;cases a4
        exact v.s1 j cj τ a2 (hall j a1) a3
      · rw[a2]at hb
        refine v.s2 τ b (λj cj hj hd _=> ?_) hb
        have:j<ops.size:=by have:=(List.getElem?_eq_some_iff.1 hj).1;rw[x.len]at this;exact this
        exact a1 j cj this hj hd
    · rcases v.dom id y h with h|⟨j,h1,h2,h3⟩
      · exact .inl h
      · have hj:=v.lN j h1
        exact .inr ⟨Nat.le_trans (x.xle (Nat.zero_le _) (by omega)) h2,Nat.lt_of_lt_of_le h3 (x.xle (by omega) (Nat.le_refl _))⟩
  have stuck:∀(listed:Array Bool),listed.size=ops.size->Region.ready .any ops listed=[]->∀i,i<ops.size->listed.getD i false=true:=by
    intro listed hsz hr i
    induction i using Nat.strongRecOn with
    | _ i ih=>
      intro hi
      cases hl:listed.getD i false with
      |true=>rfl
      | false =>
        exfalso
        obtain⟨o,c,h1,h2,h3,h4⟩:=x.rc hi
        have hrd:i∈Region.ready .any ops listed:=by
          rw[mem_ready]
          refine⟨?_,o,h1,λe' he hb=> ?_⟩
          · rw[Array.getD_eq_getD_getElem?]at hl⊢
            rw[Array.getElem?_eq_getElem (by omega)]at hl⊢;exact hl
          · obtain⟨m,g1,g2⟩:=(q3c ops.toList 0 [] A rfl x.hA).2.2 i o (by simpa using h1)
            have:e'.on<i:=by
              have hanc:=x.hA
              exact qer hanc h1 he hb
            exact ih e'.on this (by omega)
        rw[hr]at hrd;cases hrd
  have lN2:∀{listed:Array Bool} {I:In} {a:Act} {w:World} {p q:Nat} {ci cj:Rc} {B B':T AO},PairOK gl P ops A pr rs H X p q ci cj B B'->Inv2 gl P F n ops rs (Tt 0) X I0 w0 p q B (λi=>listed.getD i false=true) I a w->(∀i,i<ops.size->listed.getD i false=true)->False:=λk v hall=>v.hp (hall _ (by have:=k.lt;have:=k.ltN;omega))
  induction fuel with
  | zero=>
    intro listed I a w hsz hc v
    have hall:=qak ops.size _ (by omega)
    rcases v with⟨e,v⟩|⟨p,q,ci,cj,B,B',k,v⟩
    · refine⟨?_,fin listed e I a w hall v⟩
      rw[List.eq_nil_iff_forall_not_mem]
      intro i hi
      obtain⟨g1,o,g2,_⟩:=mem_ready.1 hi
      have hlt:i<ops.size:=(Array.getElem?_eq_some_iff.1 g2).1
      have:=hall i hlt
      rw[Array.getD_eq_getD_getElem?,Array.getElem?_eq_getElem (by omega)]at g1 this
      simp only[Option.getD_some]at g1 this
      rw[g1]at this;cases this
    · exact(lN2 k v hall).elim
  | succ fuel ih=>
    intro listed I a w hsz hc v
    refine⟨λhr=> ?_,λi hi=> ?_⟩
    · rcases v with⟨e,v⟩|⟨p,q,ci,cj,B,B',k,v⟩
      · exact fin listed e I a w (stuck listed hsz hr) v
      · exact(lN2 k v (stuck listed hsz hr)).elim
    obtain⟨g1,o,ho,hr⟩:=mem_ready.1 hi
    have hlt:i<ops.size:=(Array.getElem?_eq_some_iff.1 ho).1
    obtain⟨o',c,h1,h2,h3,h4⟩:=x.rc hlt
    rw[ho]at h1;cases h1
    have hLf:listed.getD i false=false:=by
      rw[Array.getD_eq_getD_getElem?,Array.getElem?_eq_getElem (by omega)]at g1⊢;exact g1
    have hL:¬listed.getD i false=true:=by rw[hLf];simp
    have hL':(λj=>(listed.setIfInBounds i true).getD j false=true)=λj=>listed.getD j false=true\/j=i:=by
      funext j
      apply propext
      by_cases hji:j=i
      · subst hji
        rw[Array.getD_eq_getD_getElem?,Array.getElem?_setIfInBounds_self_of_lt (by omega)];simp
      · rw[Array.getD_eq_getD_getElem?,Array.getElem?_setIfInBounds_ne (by omega),←Array.getD_eq_getD_getElem?];simp[hji]
    have hcnt:cnt ops.size (λj=>(listed.setIfInBounds i true).getD j false)+fuel=ops.size:=by
      have:=qal ops.size (λj=>listed.getD j false) (λj=>(listed.setIfInBounds i true).getD j false) i hlt hLf (by
        simp only[Array.getD_eq_getD_getElem?];rw[Array.getElem?_setIfInBounds_self_of_lt (by omega)];rfl) (λj hj=>by
        simp only[Array.getD_eq_getD_getElem?];rw[Array.getElem?_setIfInBounds_ne (by omega)])
      omega
    have go:∀e' I' a' w',Inv gl P F n ops rs (Tt 0) H X I0 w0 e' (λj=>listed.getD j false=true\/j=i) I' a' w'->wpAny P .any ops Q fuel (listed.setIfInBounds i true) a' w':=λe' I' a' w' v'=>
      ih (listed.setIfInBounds i true) I' a' w' (by simp[hsz]) hcnt (.inl ⟨e',by rw[hL'];exact v'⟩)
    have go2:∀p q ci cj B B' I' a' w',PairOK gl P ops A pr rs H X p q ci cj B B'->Inv2 gl P F n ops rs (Tt 0) X I0 w0 p q B (λj=>listed.getD j false=true\/j=i) I' a' w'->wpAny P .any ops Q fuel (listed.setIfInBounds i true) a' w':=λp q ci cj B B' I' a' w' k' v'=>
      ih (listed.setIfInBounds i true) I' a' w' (by simp[hsz]) hcnt (.inr ⟨p,q,ci,cj,B,B',k',by rw[hL'];exact v'⟩)
    obtain⟨_,hnx,_,_,hgd,hkw,hun⟩:=h4
    rcases v with⟨e,v⟩|⟨p,q,ci,cj,B,B',k,v⟩
    case inr=>
      have htr:=v.sl.tr x ho h2 hL hr
      have hwant:=q3z hgd htr
      rw[h3]at hwant
      unfold wpOp
      simp only[ho,hwant]
      by_cases hip:i=p
      · subst hip
        have hcc:c=ci:=by have:=k.hp;rw[h2]at this;exact Option.some.inj this
        subst hcc
        simp only[k.wp,if_true]
        refine .inl ?_
        have hact:=q6z (gl:=gl) k.ir
        rw[h3]at hact
        exact hact.2 _ I n a w ⟨htr,v.sl.sz,v.sl.df,v.sim,λb hb=>Nat.lt_of_lt_of_le (low b hb) v.siz,hG.mono v.le,zf⟩ (λj j1 j2=>by omega) _ Q λz I' w' hz hgr=>go _ _ _ _ (v.earlier k x ho hr (by rw[k.vp];exact hz) hgr)
      · have hiq:i≠q:=λh=>by subst h;exact hL v.hq
        have notmem:¬(flag isS ops.toList i=true\/flag (isA P) ops.toList i=true\/flag isR ops.toList i=true):=λhf=>by
          obtain⟨b1,b2⟩:=k.st i hlt hip hiq hf
          obtain⟨oq,_,q1,_⟩:=x.rc k.ltN
          exact hL (q0b x.hA v.sl.cl q1 (λe he hb=>v.sl.cl q oq q1 v.hq e he hb) b2)
        cases hcw:c.w with
        | false=>
          simp only[Bool.false_eq_true,if_false]
          obtain⟨u1,u2,u3⟩:=hun hcw
          exact go2 _ _ _ _ _ _ _ _ _ k (v.stay x ho h2 hL hr hip (λhh=>by rw[hcw]at hh;cases hh.1) (by rw[u1];exact q0d I))
        | true=>
          simp only[if_true]
          refine .inl ?_
          have hk:=hkw hcw
          cases hck:c.k with
          | q=>
            rw[hck]at hk
            obtain⟨k1,k2,k3⟩:=hk
            rw[h3]at k3
            obtain⟨z,q1,q2⟩:=qc9 k3 htr
            unfold Oper.wp
            rw[q1 w]
            exact go2 _ _ _ _ _ _ _ _ _ k (v.stay x ho h2 hL hr hip (λhh=>by rw[hck]at hh;cases hh.2) q2)
          | r=>
            rw[hck]at hk
            have:=hk.2.2.2
            rw[h3,←q0j (f:=isR) ho]at this
            exact absurd (.inr (.inr this)) notmem
          | a=>
            rw[hck]at hk
            obtain⟨ob,k1,k2,k3,k4,k5,k6⟩:=hk
            rw[h3,←q0j (f:=isA P) ho]at k5
            exact absurd (.inr (.inl k5)) notmem
          | s=>
            rw[hck]at hk
            have:=hk.2.1
            rw[h3,←q0j (f:=isS) ho]at this
            exact absurd (.inl this) notmem
    have htr:=v.slots.tr x ho h2 hL hr
    have hwant:=q3z hgd htr
    rw[h3]at hwant
    unfold wpOp
    simp only[ho,hwant]
    cases hS:flag isS ops.toList i with
    | true=>
      by_cases hlater:∃p,pr=some (p,i)/\¬listed.getD p false=true
      · obtain⟨p,hpr,hnp⟩:=hlater
        obtain⟨ci,cj,B,B',k⟩:=hpo p i hpr
        have hcc:c=cj:=by have:=k.hq;rw[h2]at this;exact Option.some.inj this
        subst hcc
        obtain⟨s1,s2⟩:=v.later k x fr0 hnp ho hL hr
        simp only[k.wq,if_true]
        refine .inl ?_
        have hact:=q6z (gl:=gl) k.jr
        rw[h3]at hact
        exact hact.2 _ I n a w ⟨htr,v.sz,v.df,s1,λb hb=>Nat.lt_of_lt_of_le (low b hb) v.siz,hG.mono v.le,zf⟩ (λj j1 j2=>by omega) _ Q λz I' w' hz hgr=>go2 _ _ _ _ _ _ _ _ _ k (s2 z I' w' (by rw[k.vq];exact hz) hgr)
      have hpr:∀p,pr=some (p,i)->listed.getD p false=true:=λp hp=>by
        by_cases h:listed.getD p false=true
        · exact h
        · exact absurd ⟨p,hp,h⟩ hlater
      obtain⟨t1,t2,t3,t4,t5⟩:=v.turn x fr0 low zf ho h2 hL hr hS hpr
      cases hcw:c.w with
      | false=>
        simp only[Bool.false_eq_true,if_false]
        obtain⟨u1,u2,u3⟩:=hun hcw
        refine go _ _ _ _ (t5 undef I w (by rw[u1];exact q0d I) ?_)
        rw[u2,u3]
        exact t2.grow (X i)
      | true=>
        simp only[if_true]
        refine .inl ?_
        have hact:=(hkw hcw).act
        rw[h3]at hact
        exact hact.2 _ I n a w ⟨htr,v.sz,v.df,t2,t3,hG.mono v.le,λb hb=> .inl (zf b hb)⟩ t4 _ Q λz I' w' hz hgr=>go _ _ _ _ (t5 z I' w' hz hgr)
    | false =>
      cases hcw:c.w with
      | false=>
        simp only[Bool.false_eq_true,if_false]
        obtain⟨u1,u2,u3⟩:=hun hcw
        exact go _ _ _ _ (v.stay x ho h2 hL hr hS (λhh=>by rw[hcw]at hh;cases hh.1) (by rw[u1];exact q0d I))
      | true=>
        simp only[if_true]
        refine .inl ?_
        have hk:=hkw hcw
        cases hck:c.k with
        | q=>
          rw[hck]at hk
          obtain⟨k1,k2,k3⟩:=hk
          rw[h3]at k3
          obtain⟨z,q1,q2⟩:=qc9 k3 htr
          unfold Oper.wp
          rw[q1 w]
          exact go _ _ _ _ (v.stay x ho h2 hL hr hS (λhh=>by rw[hck]at hh;cases hh.2) q2)
        | r =>
          rw[hck]at hk
          obtain⟨k1,k2,k3,_⟩:=hk
          have hrun : ∃z,(execOp a.eval o).run P w= .ok (.value z) w/\VR I c.v z:=by
            obtain⟨le1,le2⟩:=q2t ops.toList i
            by_cases hep:e=q2h ops.toList i
            · rw[h3]at k3
              exact q9s k3 htr (v.sim x fr0 (m:=i) (by rw[hep];exact le1) (by omega) (λs a1 a2=>le2 s (by rw[←hep];exact a1) a2))
            · have hother:other ops.toList A i e=true:=by
                unfold other
                simp only[Bool.and_eq_true,Bool.not_eq_true']
                refine⟨⟨⟨v.ep,?_⟩,?_⟩,?_⟩
                · cases hb:Nat.beq e (q2h ops.toList i)with
                  |false=>rfl
                  |true=>exact absurd (Nat.eq_of_beq_eq_true hb) hep
                · cases e with
                  |zero=>rfl
                  | succ e'=>
                    simp only
                    cases hb:q15 A e' i with
                    |false=>rfl
                    | true=>
                      have hf:flag isS ops.toList e'=true:=v.ep
                      have hLe:=v.e1 e' (Nat.lt_succ_self _) hf
                      obtain⟨oe,_,q1,_⟩:=x.rc (v.lN e' hLe)
                      exact absurd (q0b x.hA v.cl q1 (λe'' he hb=>v.cl e' oe q1 hLe e'' he hb) hb) hL
                · apply q83
                  intro s hs
                  simp only[Bool.or_eq_true,Bool.not_eq_true']
                  by_cases hse:s<e
                  · exact .inl (.inl (by rw[blt_eq];exact decide_eq_true hse))
                  · cases hf:flag isS ops.toList s with
                    |false=>exact .inl (.inr rfl)
                    | true=>
                      refine .inr ?_
                      cases hb:q15 A i s with
                      |false=>rfl
                      |true=>exact absurd (q0b x.hA v.cl ho hr hb) (v.e2 s (by omega) hf)
              have hag:=x.again h2 hcw hck v.eN hother
              rw[h3]at hag
              exact q9s hag htr (v.sim x fr0 (m:=e) (Nat.le_refl _) v.eN (λs a1 a2=>by omega))
          obtain⟨z,q1,q2⟩:=hrun
          unfold Oper.wp
          rw[q1]
          exact go _ _ _ _ (v.stay x ho h2 hL hr hS (λhh=>by rw[hck]at hh;cases hh.2) q2)
        | a =>
          rw[hck]at hk
          obtain⟨ob,k1,k2,k3,k4,k5,k6⟩:=hk
          rw[h3]at k2 k5
          obtain⟨z,obj,tot,w',q1,q2,q3,q4⟩:=qe4 k2 htr w
          have hfree:I (X i)=none:=by
            cases hI:I (X i)with
            |none=>rfl
            |some y=>exact absurd (v.doneX x fr0 hlt (Nat.le_refl _) (by omega) hI) hL
          obtain⟨r1,r2⟩:=q4 (ext I (X i) (w.heap.size,tot)) (q1m _ hfree) (q07 _ _ _)
          unfold Oper.wp
          rw[q1]
          exact go _ _ _ _ (v.make x fr0 low ho h2 hL hr hS hcw hck k1 k5 k4 hnx q2 q3 r1 r2 hfree)
        | s=>
          rw[hck]at hk
          have:=hk.2.1
          rw[h3,←q0j (f:=isS) ho,hS]at this;cases this
def qpy(gl:T AV) (P:Program) (n:Nat) (reg:qgr):Prop:=∀ops t h nx t' h' nx',reg ops t h nx=some (t',h',nx')->
  nx<=nx'/\∀(F:Bool->Nat->Prop) (I:In) (a:Act) (w:World),St gl F I t h n a w->q0g I nx nx'->∀(Q:Exit->Act->World->Prop),
   (∀a' I' w',St gl F I' t' h' n a' w'->Grow F I nx w I' nx' h' w'->Q .normal a' w')->wpAny P .any ops Q ops.size (Array.replicate ops.size false) a {w with drawn:=w.drawn+1}
def qie {P : Program} {call:q03} {ext:q14} (hc:q11 gl P call) (he:q4t P ext) (n:Nat):qpy gl P n (qm0 P call ext n):=by
 intro ops t h nx t' h' nx' e
 unfold qm0 at e
 split at e
 ·rename_i A hA
  split at e
  ·rename_i pr hpr
   split at e
   ·rename_i rs t1 h1 nx1 hrun
    split at e
    ·rename_i hdy
     cases e
     rw[Bool.and_eq_true]at hdy
     obtain⟨hdy,hpd⟩:=hdy
     have hst:q38 P ops A pr=true/\∀p q,pr=some (p,q)->q1t P ops A p q=true:=by
      unfold qif at hpr
      split at hpr
      ·rename_i hs;cases hpr;exact⟨hs,λp q h=>by cases h⟩
      ·split at hpr
       ·rename_i p q _
        split at hpr
        ·rename_i hs
         cases hpr
         rw[Bool.and_eq_true]at hs
         exact⟨hs.1,λp' q' h=>by cases h;exact hs.2⟩
        ·cases hpr
       ·cases hpr
     obtain⟨hst,hps⟩:=hst
     obtain⟨Tt,H,X,a1,a2,a3,a4,a5,a6,a7,a8⟩:=qga (gl:=gl) hc he ops.toList hrun
     have hsz:ops.toList.length=ops.size:=by simp
     rw[hsz]at a4 a5 a6 a7
     have x:Text gl P n ops A pr rs Tt H X:=⟨hA,hst,by rw[a5];exact hdy,a7,λi o c h2 h3=>a8 i o c (by simpa using h2) h3⟩
     have hle:=x.xle (Nat.zero_le _) (Nat.le_refl ops.size)
     rw[a3,a6]at hle
     refine⟨hle,λF I a w st fr Q hQ=> ?_⟩
     refine q4i x (F:=F) (I0:=I) (w0:=w) (by rw[a3,a6];exact fr) st.low st.zf st.gok (λp q hp=>x.pair hp (hps p q hp) (by rw[a5];exact hpd)) (λa' I' w' s g=>hQ a' I' w' (by rw[←a4,←a5];exact s) (by rw[←a3,←a6,←a5];exact g)) ops.size (Array.replicate ops.size false) I a _ (by simp) ?_ (.inl ⟨0,?_⟩)
     ·have:cnt ops.size (λi=>(Array.replicate ops.size false).getD i false)=0:=by
       have h0:∀m,cnt m (λ_=>false)=0:=by
        intro m;induction m with
        |zero=>rfl
        |succ m ih=>simp[cnt,ih]
       rw[←h0 ops.size]
       refine q50 _ _ _ λj hj=> ?_
       simp[Array.getD_eq_getD_getElem?,hj]
      omega
     ·have none':∀i,¬(Array.replicate ops.size false).getD i false=true:=λi=>by
       rw[Array.getD_eq_getD_getElem?]
       by_cases hi:i<ops.size
       ·simp[hi]
       ·simp[hi]
      have init:∀id o,RR rs H 0 (λi=>(Array.replicate ops.size false).getD i false=true) id o->h.get id=some o:=λid o hR=>by
       rcases hR with⟨j,c,_,_,hL,_⟩|hR
       ·exact absurd hL (none' j)
       ·rw[a2]at hR;exact hR
      exact{
       eN:=Nat.zero_le _,ep:=rfl,e1:=λs h=>by omega,e2:=λs _ _ hL=>none' s hL,e3:=λj h=>by omega
       cl:=λi o _ hL=>absurd hL (none' i),lN:=λi hL=>absurd hL (none' i)
       sz:=st.size,df:=st.defers,s1:=λi c τ _ hL=>absurd hL (none' i)
       s2:=fun τ b _ hb=>st.tr τ b (by rw[←a1];exact hb)
       obj:=λid o b t hR hI=>st.sim.obj id o b t (init id o hR) hI
       inj:=λid id' o o' b t t' hR hR'=>st.sim.inj id id' o o' b t t' (init id o hR) (init id' o' hR')
       fr:=λid o b t hR=>st.sim.fr id o b t (init id o hR)
       ex:=λj c _ hL=>absurd hL (none' j),exf:=λj c b t _ _ hL=>absurd hL (none' j)
       dom:=λid y h=> .inl h,le:=In.le_refl I,frm:=λ_ _=>rfl,siz:=Nat.le_refl _,sam:=⟨rfl,rfl,rfl⟩}
    ·cases e
   ·cases e
  ·cases e
 ·cases e
def qm1{P:Program} (hm:P.follows .mixedOrders=true) {call:q03} {ext:q14} (hc:q11 gl P call) (he:q4t P ext) (n:Nat):qmw gl P n (qm0 P call ext n):=by
 intro ops t h nx t' h' nx' e
 obtain⟨k1,k2⟩:=qie hc he n ops t h nx t' h' nx' e
 exact⟨k1,λF I a w st fr Q hQ id=>wp_region_any hm (k2 F I a w st fr Q hQ)⟩
def q3w{P:Program} {call:q03} {ext:q14} {reg:qgr} {n:Nat}:∀(f:Nat) (c:Code) (t:T AV) (h:T AO) (nx:Nat) (r:AX×T AV×T AO×Nat),exec P call ext reg n f c t h nx=some r->∀g,f<=g->exec P call ext reg n g c t h nx=some r:=by
  intro f
  induction f with
  |zero=>intro c t h nx r e;cases e
  | succ f ih=>
    intro c t h nx r e g hg
    cases g with
    |zero=>omega
    | succ g=>
      have hg':f<=g:=by omega
      cases c with
      | seq x y=>
        simp only[exec]at e⊢
        split at e
        · rename_i t1 h1 nx1 e1
          rw[ih _ _ _ _ _ e1 g hg']
          exact ih _ _ _ _ _ e g hg'
        · rename_i hne
          rw[ih _ _ _ _ _ e g hg']
          obtain⟨x,t1,h1,nx1⟩:=r
          cases x with
          |nrm=>exact(hne _ _ _ e).elim
          |_=>rfl
      | cond x a b=>
        simp only[exec]at e⊢
        split at e
        · exact ih _ _ _ _ _ e g hg'
        · exact ih _ _ _ _ _ e g hg'
        · cases e
      | block id c=>
        simp only[exec]at e⊢
        split at e
        · rename_i j r1 e1
          rw[ih _ _ _ _ _ e1 g hg']
          exact e
        · rename_i hne
          rw[ih _ _ _ _ _ e g hg']
          obtain⟨x,r1⟩:=r
          cases x with
          |ex j=>exact(hne _ _ e).elim
          |_=>rfl
      | loop c=>
        simp only[exec]at e⊢
        split at e
        · rename_i t1 h1 nx1 e1
          rw[ih _ _ _ _ _ e1 g hg']
          exact ih _ _ _ _ _ e g hg'
        · rename_i hne
          rw[ih _ _ _ _ _ e g hg']
          obtain⟨x,t1,h1,nx1⟩:=r
          cases x with
          |nrm=>exact(hne _ _ _ e).elim
          |_=>rfl
      |_=>exact e
def Ex(P:Program) (call:q03) (ext:q14) (reg:qgr) (n:Nat) (c:Code) (t:T AV) (h:T AO) (nx:Nat) (r:AX×T AV×T AO×Nat):Prop:=∃f,exec P call ext reg n f c t h nx=some r
def blk(id:Nat):AX->AX
 | .ex j=>if j=id then .nrm else .ex j
 |z=>z
section
variable {P:Program} {call:q03} {ext:q14} {reg:qgr} {n:Nat} {t:T AV} {h:T AO} {nx:Nat} {r:AX×T AV×T AO×Nat}
def Ex.seq{x y t' h' nx'} (a:Ex P call ext reg n x t h nx (.nrm,t',h',nx')) (b:Ex P call ext reg n y t' h' nx' r):Ex P call ext reg n (.seq x y) t h nx r:=by
 obtain⟨f,a⟩:=a
 obtain⟨g,b⟩:=b
 refine⟨f+g+1,?_⟩
 simp only[exec]
 rw[q3w _ _ _ _ _ _ a (f+g) (by omega)]
 exact q3w _ _ _ _ _ _ b _ (by omega)
def Ex.seq_out{x y z r'} (a:Ex P call ext reg n x t h nx (z,r')) (hz:z≠ .nrm):Ex P call ext reg n (.seq x y) t h nx (z,r'):=by
 obtain⟨f,a⟩:=a
 refine⟨f+1,?_⟩
 simp only[exec]
 rw[a]
 obtain⟨_,_,_⟩:=r'
 cases z<;>first|exact(hz rfl).elim|rfl
def Ex.block{id c z r'} (a:Ex P call ext reg n c t h nx (z,r')):Ex P call ext reg n (.block id c) t h nx (blk id z,r'):=by
  obtain⟨f,a⟩:=a
  refine⟨f+1,?_⟩
  simp only[exec]
  rw[a]
  cases z with
  | ex j=>
    by_cases hj:j=id
    · subst hj;simp[blk]
    · simp[hj,blk]
  |_=>rfl
def Ex.loop{c t' h' nx'} (a:Ex P call ext reg n c t h nx (.nrm,t',h',nx')) (b:Ex P call ext reg n (.loop c) t' h' nx' r):Ex P call ext reg n (.loop c) t h nx r:=by
 obtain⟨f,a⟩:=a
 obtain⟨g,b⟩:=b
 refine⟨f+g+1,?_⟩
 simp only[exec]
 rw[q3w _ _ _ _ _ _ a (f+g) (by omega)]
 exact q3w _ _ _ _ _ _ b _ (by omega)
def Ex.loop_out{c z r'} (a:Ex P call ext reg n c t h nx (z,r')) (hz:z≠ .nrm):Ex P call ext reg n (.loop c) t h nx (z,r'):=by
 obtain⟨f,a⟩:=a
 refine⟨f+1,?_⟩
 simp only[exec]
 rw[a]
 obtain⟨_,_,_⟩:=r'
 cases z<;>first|exact(hz rfl).elim|rfl
def Ex.cond_true{x a c} (e:ev t x=some (.bool true)) (k:Ex P call ext reg n a t h nx r):Ex P call ext reg n (.cond x a c) t h nx r:=by
 obtain⟨f,k⟩:=k
 exact⟨f+1,by simp only[exec,e];exact k⟩
def Ex.cond_false{x a c} (e:ev t x=some (.bool false)) (k:Ex P call ext reg n c t h nx r):Ex P call ext reg n (.cond x a c) t h nx r:=by
 obtain⟨f,k⟩:=k
 exact⟨f+1,by simp only[exec,e];exact k⟩
end
def yes:Option (AV×T AO×Nat)->Bool
 |some (.bool true,_,_)=>true
 |_=>false
def qrx:∀{r:Option (AV×T AO×Nat)},yes r=true->∃h nx,r=some (.bool true,h,nx)
 |some (.bool true,h,nx),_=>⟨h,nx,rfl⟩
def qqv(P:Program):Bool:=P.funcs.toList.all λfn=> !(fn.name== "runtime.NumGoroutine")
def qpm{P:Program} (e:qqv P=true) (f:Nat) (fn:Func) (h:P.funcs[f]? =some fn):(fn.name== "runtime.NumGoroutine")=false:=by
 have:=List.all_eq_true.1 e fn (by
  rw[←Array.getElem?_toList]at h
  exact List.mem_of_getElem? h)
 simpa using this
end
end Go.Proofs.YtdaokgdnjaaofaaDoor.Eng
