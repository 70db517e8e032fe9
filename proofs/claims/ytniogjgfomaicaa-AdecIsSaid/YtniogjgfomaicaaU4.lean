/-
  The machine with unknown values: questions reckoned out of the code. No condition but what its theorems ask.
-/
import Derived.Test.YtniogjgfomaicaaU1
import Derived.Laws.AppendOwn
import Derived.Lib.UnsafeStr
namespace Go.Proofs.Ytniogjgfomaicaa.Eng
open Go.RowKit
set_option linter.defProp false
set_option linter.unusedVariables false
set_option linter.unusedSimpArgs false
variable {gl:T AV}
noncomputable section
def q7h(h:T AO) (id off:Nat) (x:List AV):Option (T AO):=
 match h.get id with
 |some (.cells e (some fz) g l)=>if fz<=off/\off+x.length<=l.length/\x.all atom=true then T.put 64 id (some (.cells e (some fz) g (spl l off x))) h else none
 |_=>none
variable {F:Bool->Nat->Prop} {I:In} {w:World}
def q4l{P:Program} {h h':T AO} (hs:Sim F I h w) {id off b s t:Nat} {x:List AV} {us:List Value} (e:q7h h id off x=some h') (hi:I id=some (b,s,t)) (hx:VRs I x us) (nx:Nat):
    ∃w',(storeCells ⟨b,s+off,none⟩ us).run P w= .ok () w'/\Grow F I nx w I nx h' w':=by
  unfold q7h at e
  split at e
  · rename_i el fz g l hg
    split at e
    · rename_i hc
      obtain⟨c1,c2,c3⟩:=hc
      obtain⟨ob,hb,ho⟩:=hs.obj _ _ _ _ hg hi
      cases ho with
      | @cells _ _ _ _ _ pre vs rest fr hv hg' hp ht hf hE=>
        rcases hE with hE|⟨hE,_⟩
        case inr=>cases hE
        have hE:=hE.symm
        subst hE
        have hxl:=hx.len
        have hvl:=hv.len
        simp only at hp ht hf
        have hlen:(vs++rest).length=t:=ht
        rw[List.length_append]at hlen
        obtain⟨w',h1,h2,h3,h4,h5⟩:=q17 (P:=P) (o:=s+off) us 0 (pre++(vs++rest)) w hb (by simp only[List.length_append];omega) (λj a1 a2=>by
          have:=hf fz rfl (j- s) (by omega) (by omega)
          rw[show s+(j- s)=j by omega]at this;exact this) (q26 hx c3)
        refine⟨w',h1,hs.upd hg rfl hi e h2 ?_ h3 h4 h5 nx⟩
        rw[Nat.add_zero,←hp,q5h us pre (vs++rest) off,q3l us vs rest off (by omega)]
        exact .cells (t:=(pre.length,t)) (q93 hx off hv) hg' rfl (by simp only[List.length_append,q92];omega) (by rw[hp];exact hf) (.inl rfl)
    · cases e
  · cases e
def qfl(P:Program) (F:Bool->Nat->Prop) (I:In) (nx:Nat) (w:World) (s:Sem Next) (v:AV) (h':T AO) (nx':Nat):Prop:=
 ∃n z I' w',s.run P w= .ok n w'/\(n= .value z\/n= .skip/\z=undef)/\VR I' v z/\Grow F I nx w I' nx' h' w'
def q0w:AV:= .tup []
def q0k(I:In):VR I q0w undef:= .tup .nil
def q9a(P:Program) (h:T AO) (t:TypeId) (id off:Nat) (a:AV):Option (T AO):=
 let x:=q2s a
 match P.info? t with
 |some i=>if x.length=i.size then q7h h id off x else none
 |none=>none
def q7g{P:Program} {h h':T AO} (hs:Sim F I h w) {t:TypeId} {id off b s k:Nat} {a:AV} {v:Value} (e:q9a P h t id off a=some h') (hi:I id=some (b,s,k)) (ha:VR I a v) (nx:Nat):
  ∃w',(storeVar t ⟨b,s+off,none⟩ v).run P w= .ok () w'/\Grow F I nx w I nx h' w':=by
 unfold q9a at e
 simp only at e
 split at e
 ·rename_i i hi'
  split at e
  ·rename_i hl
   have hc:=q32 ha
   obtain⟨w',h1,h2⟩:=q4l (P:=P) hs e hi hc nx
   have hsz:v.cells.size=i.size:=by rw[←Array.length_toList,←hc.len];exact hl
   exact⟨w',by simp[storeVar,run_sizeOf hi',hsz,h1,Result.andThen],h2⟩
  ·cases e
 ·cases e
def q5f(es:List q6g) (i:Nat) (k:Value) (v:AV):List q6g:=
  match es with
  | []=>[]
  | e::l=>match i with
    |0=>(k,v,e.2.2)::l
    |i+1=>e::q5f l i k v
def q7n:List q6g->Nat->Option q6g
  | [],_=>none
  | e::l,i=>match i with
    |0=>some e
    |i+1=>q7n l i
def q63{es ms} (h:MR I es ms):∀i e,q7n es i=some e->∃v,ms[i]? =some (⟨e.1,v,e.2.2⟩:MapEntry)/\VR I e.2.1 v:=by
  induction h with
  |nil=>intro i e h;cases h
  | cons hv ht ih=>
    intro i e h
    cases i with
    |zero=>simp[q7n]at h;subst h;exact⟨_,rfl,hv⟩
    |succ i=>exact ih i e h
def q6a{es ms} (h:MR I es ms):∀i (k:Value) (v:AV) (u:Value),VR I v u->MR I (q5f es i k v) (ms.modify i λe=>{e with key:=k,val:=u}):=by
  induction h with
  |nil=>intro i k v u hv;simp[q5f];exact .nil
  | cons hv ht ih=>
    intro i k v u hvu
    cases i with
    |zero=>simp[q5f];exact .cons hvu ht
    |succ i=>simp[q5f];exact .cons hv (ih i k v u hvu)
def MR.snoc{es ms} (h:MR I es ms) {k v n u} (hv:VR I v u):MR I (es++[(k,v,n)]) (ms++[⟨k,u,n⟩]):=by
 induction h with
 |nil=>exact .cons hv .nil
 |cons h t ih=>exact .cons h ih
def q6p(P:Program) (h:T AO) (t:TypeId) (id:Nat) (k v:AV):Option (T AO):=
  match P.underlying t,qgo h id,qc5 k with
  | some (.map kt _),some (es,c),some kv=>
    match q2j P (Instr.checkKey false 10000 kt kv),qcc P kt kv es with
    | some (),some (some (i,_))=>match q7n es i with
      |some e=>if Instr.sameBits 10000 e.1 kv then T.put 64 id (some (.map (q5f es i kv v) c)) h else none
      |none=>none
    |some (),some none=>T.put 64 id (some (.map (es++[(kv,v,c)]) (c+1))) h
    |_,_=>none
  |_,_,_=>none
def q0f{P:Program} {b:Nat} {o:Obj} {ms:Array MapEntry} {c:Nat} (h:w.heap[b]? =some (.map ms c)):(setObj b o).run P w= .ok () (q09 w b o):=by
 simp[setObj,Sem.run,h,q09]
def qa5{P:Program} {h h':T AO} (hs:Sim F I h w) {t:TypeId} {id b:Nat} {n:Nat×Nat} {k v:AV} {u z:Value} (e:q6p P h t id k v=some h') (hi:I id=some (b,n)) (hk:VR I k u) (hv:VR I v z) (nx:Nat):
    ∃w',(Instr.mapUpdate t (.map (some b)) u z).run P w= .ok () w'/\Grow F I nx w I nx h' w':=by
  unfold q6p at e
  split at e
  · rename_i kt et es c kv ht hm hkv
    have:=q4o hkv hk
    subst this
    obtain⟨ms,h1,h2,h3,h4⟩:=q4h (P:=P) hs hm hi
    have upd:∀(es':List q6g) (ms':List MapEntry) (c':Nat),MR I es' ms'->T.put 64 id (some (.map es' c')) h=some h'->Grow F I nx w I nx h' (q09 w b (.map ⟨ms'⟩ c')):=λes' ms' c' hm' hp=>
      hs.upd h4 rfl hi hp (q0r h2) (.map hm') (λc hc=>q0b hc) q0h q0g nx
    split at e
    · rename_i i q hck hf
      split at e
      · rename_i en hen
        split at e
        · rename_i hsb
          obtain⟨r',g1,g2⟩:=q2f h1 hf
          cases g2 with
          | some hva=>
            obtain⟨ev,g3,g4⟩:=q63 h1 _ _ hen
            refine⟨_,?_,upd _ _ _ (q6a h1 i u v z hv) e⟩
            have g3':(⟨ms⟩:Array MapEntry)[i]? =some ⟨en.1,ev,en.2.2⟩:=by simpa using g3
            simp[Instr.mapUpdate,run_underlying ht,Result.andThen,h3,q0v P _ _ hck w,g1 w,Instr.keyThatStays,g3,hsb,q0f h2]
        · cases e
      · cases e
    · rename_i hck hf
      obtain⟨r',g1,g2⟩:=q2f h1 hf
      cases g2
      refine⟨_,?_,upd _ _ _ (h1.snoc hv) e⟩
      simp[Instr.mapUpdate,run_underlying ht,Result.andThen,h3,q0v P _ _ hck w,g1 w,q0f h2]
    · cases e
  · cases e
def qdm{α:Type}:∀(xs l:List α) (k:Nat),k+xs.length<=l.length->spl l k xs=l.take k++xs++l.drop (k+xs.length)
  | [],l,k,h=>by simp[spl]
  | x::xs,l,k,h=>by
    simp only[List.length_cons]at h
    rw[spl,qdm xs (l.set k x) (k+1) (by rw[List.length_set];omega)]
    have hk:k<l.length:=by omega
    rw[List.take_succ_eq_append_getElem (by rw[List.length_set];exact hk),List.getElem_set_self,List.take_set_of_le (Nat.le_refl _),List.drop_set_of_lt (by omega)]
    simp only[List.length_cons,List.append_assoc,List.cons_append,List.nil_append]
    congr 4
    omega
variable {F:Bool->Nat->Prop} {I:In} {h:T AO} {w:World}
def q2z{P:Program} (hs:Sim F I h w) {id off n b s t o:Nat} {l:List AV} (e:q8m h id off n=some l) (hi:I id=some (b,s,t)) (ho:o=s+off\/n=0):
  ∃ys:List Value,VRs I l ys/\ys.length=n/\∀w':World,w'.heap=w.heap->(loadCells ⟨b,o,none⟩ n).run P w'= .ok ⟨ys⟩ w':=by
 obtain⟨ys,g1,g2,g3,c,el,fr,hb,g4⟩:=qbn hs e hi
 refine⟨ys,g1,g2,λw' hw=> ?_⟩
 have:=q66 (P:=P) (w:=w') (b:=b) (o:=o) (c:=c) (e:=el) (fr:=fr) (by rw[hw];exact hb) ys (λj v hj=>by
  rcases ho with ho|ho
  ·subst ho;exact g4 j v hj
  ·have:=(List.getElem?_eq_some_iff.1 hj).1;omega)
 rw[g2]at this
 exact this
def qkd(h:T AO) (esz:Nat) (x:AV):Option (Nat×List AV):=
  match x with
  | .nsl=>some (0,[])
  | .sl id off n _| .gsl id off n _=>match q8m h id off (n*esz)with
    |some l=>some (n,l)
    |none=>none
  | .str l=>if esz=1 then some (l.length,l.map λb=> .int .u8 (.ofNat (b % 256)))else none
  |_=>none
def qbq{P:Program} (hs:Sim F I h w) {esz n:Nat} {x:AV} {l:List AV} {v:Value} (e:qkd h esz x=some (n,l)) (hx:VR I x v):
  ∃us,(∀w':World,w'.heap=w.heap->(Builtin.lenOf v).run P w'= .ok n w'/\(Builtin.firstCells esz n v).run P w'= .ok ⟨us⟩ w')/\VRs I l us/\us.length=n*esz:=by
 have key:∀{id off n b s t c o:Nat} {l:List AV},q8m h id off (n*esz)=some l->I id=some (b,s,t)->(o=s+off\/n=0)->∃us,(∀w':World,w'.heap=w.heap->(Builtin.lenOf (.slice (some ⟨b,o,none⟩) n c)).run P w'= .ok n w'/\(Builtin.firstCells esz n (.slice (some ⟨b,o,none⟩) n c)).run P w'= .ok ⟨us⟩ w')/\VRs I l us/\us.length=n*esz:=by
  intro id off n b s t c o l h1 hi ho
  obtain⟨ys,g1,g2,g3⟩:=q2z (P:=P) hs h1 hi (ho.imp (λh=>h) λh=>by rw[h,Nat.zero_mul])
  exact⟨ys,λw' hw=>⟨rfl,g3 w' hw⟩,g1,g2⟩
 unfold qkd at e
 split at e
 ·cases e;cases hx
  exact⟨[],λw' _=>⟨rfl,rfl⟩, .nil,by simp⟩
 ·split at e
  ·rename_i hl;cases e;cases hx with|sl hI=>exact key hl hI (.inl rfl)
  ·cases e
 ·split at e
  ·rename_i hl;cases e;cases hx with|gsl hI g1 g2 g3=>exact key hl hI (g3.imp (λh=>h) λh=>by omega)
  ·cases e
 ·split at e
  ·rename_i l0 h1
   cases e;subst h1;cases hx
   refine⟨_,λw' _=>⟨by simp[Builtin.lenOf,q0l],?_⟩,q4m I l0,by simp⟩
   simp only[Builtin.firstCells,q56,Sem.run_pure]
   congr 1
   apply Array.toList_inj.1
   simp[mkS]
  ·cases e
 ·cases e
def q3h(P:Program):List TypeId->Bool
  | _::t::_=>match P.underlying t with
    |some (.slice _)|some .string=>true
    |_=>false
  |_=>false
def q3s{P:Program} {t0 t1:TypeId} (h:q3h P [t0,t1]=true):(∃e,P.underlying t1=some (.slice e))\/P.underlying t1=some .string:=by
 simp only[q3h]at h
 split at h
 ·rename_i e h1;exact .inl ⟨e,h1⟩
 ·rename_i h1;exact .inr h1
 ·cases h
variable {i:TypeInfo} {base:Option Addr} {v:Value}
def q0o{P:Program} {t0 t1 ty e:TypeId} {sLen sCap n:Nat} {us:List Value} (h0:P.underlying t0=some (.slice e)) (hz:q3h P [t0,t1]=true) (hi:P.info? e=some i)
  (hl:(Builtin.lenOf v).run P w= .ok n w) (hf:(Builtin.firstCells i.size n v).run P w= .ok ⟨us⟩ w) (hr:sLen+n<=sCap):
  (Builtin.append_ ⟨[t0,t1]⟩ ty ⟨[.slice base sLen sCap,v]⟩).run P w=(match base with|some a=>(storeCells (a.add (sLen*i.size)) us).run P w|none=> .ok () w).andThen (λ_ w=> .ok (.slice base (sLen+n) sCap) w):=by
 simp only[Builtin.append_,List.getElem?_toArray,List.getElem?_cons_zero,List.getElem?_cons_succ,Sem.run_bind,run_underlying h0,Result.andThen,run_sizeOf hi]
 rcases q3s hz with⟨e',hu⟩|hu
 ·simp[run_underlying hu,Result.andThen,hl,hr,hf]
  cases base<;>simp[Result.andThen]
 ·simp[run_underlying hu,Result.andThen,hl,hr,hf]
  cases base<;>simp[Result.andThen]
def q4k{P:Program} {t0 t1 ty e:TypeId} {z:Value} {sLen sCap n:Nat} {us os:List Value} (h0:P.underlying t0=some (.slice e)) (hz:q3h P [t0,t1]=true) (hi:P.info? e=some i) (hzv:i.zero=some z)
  (hl:(Builtin.lenOf v).run P w= .ok n w) (hf:∀w':World,w'.heap=w.heap->(Builtin.firstCells i.size n v).run P w'= .ok ⟨us⟩ w') (ho:∀w':World,w'.heap=w.heap->(Builtin.firstCells i.size sLen (.slice base sLen sCap)).run P w'= .ok ⟨os⟩ w') (hr:¬sLen+n<=sCap) (hb:0<i.bytes) (hbig:(sLen+n)*i.bytes<=140737488355328):
  (Builtin.append_ ⟨[t0,t1]⟩ ty ⟨[.slice base sLen sCap,v]⟩).run P w= .ok (.slice (some ⟨w.heap.size,0,none⟩) (sLen+n) (grownCap w (sLen+n) sCap e)) (w.drew.alloc (.cells (⟨os⟩++(⟨us⟩++Builtin.zeroCells z.cells (grownCap w (sLen+n) sCap e- (sLen+n)))) e)):=by
 have hne:¬i.bytes=0:=by omega
 have hfit:=growslice_fits (bytes:=i.bytes) (Nat.lt_of_not_le hr) hbig
 have hti:(typeInfo e).run P w= .ok i w:=by simp[typeInfo,program,Sem.run,hi,bind,Sem.bind,pure]
 have hti':(typeInfo e).run P w.drew= .ok i w.drew:=by simp[typeInfo,program,Sem.run,hi,bind,Sem.bind,pure]
 have hzr:(zeroValue e).run P w.drew= .ok z w.drew:=by simp[zeroValue,typeInfo,program,Sem.run,hi,bind,Sem.bind,pure,hzv]
 have hnb:¬Builtin.nextslicecap (sLen+n) sCap*i.bytes>2 ^ 48:=by omega
 have hroomrun:∀k,(askRoom k).run P w.drew= .ok () w.drew:=λk=>by unfold askRoom;split<;>rfl
 have ho':=ho w.drew rfl
 have hf':=hf w.drew rfl
 simp only[Builtin.append_,List.getElem?_toArray,List.getElem?_cons_zero,List.getElem?_cons_succ,Sem.run_bind,run_underlying h0,Result.andThen,run_sizeOf hi]
 rcases q3s hz with⟨e',hu⟩|hu
 ·simp[run_underlying hu,Result.andThen,hl,hr,hti,hti',hne,hnb,Question.forced,hroomrun,ho',hf',hzr,newRow,newObj,Sem.run,grownCap]
  rfl
 ·simp[run_underlying hu,Result.andThen,hl,hr,hti,hti',hne,hnb,Question.forced,hroomrun,ho',hf',hzr,newRow,newObj,Sem.run,grownCap]
  rfl
def q6i (P:Program) (h:T AO) (nx:Nat) (ts:List TypeId) (d x:AV):Option (AV×T AO×Nat):=
  match ts with
  | [t0,t1]=>
    match P.underlying t0,q3h P [t0,t1]with
    | some (.slice e),true=>match P.info? e with
      | some i => match qkd h i.size x,q21 P e with
        | some (n,l),some z=>if z.length=i.size/\0<i.size/\0<i.bytes then
          match d with
          | .nsl=>if n=0 then some (.nsl,h,nx)else if n*i.bytes<=140737488355328 then
              (match T.put 64 nx (some (.cells e (some 0) true l)) h with|some h'=>some (.gsl nx 0 n i.size,h',nx+1)|none=>none)else none
          | .sl id off len cap=>
            if len+n<=cap then(match q7h h id (off+len*i.size) l with|some h'=>some (.sl id off (len+n) cap,h',nx)|none=>none)
            else if(len+n)*i.bytes<=140737488355328 then
              (match q8m h id off (len*i.size)with
              |some o=>match T.put 64 nx (some (.cells e (some 0) true (o++l))) h with|some h'=>some (.gsl nx 0 (len+n) i.size,h',nx+1)|none=>none
              |none=>none)else none
          | .gsl id off len esz=>if esz=i.size then
              (if n=0 then some (.gsl id off len esz,h,nx)else if(len+n)*i.bytes<=140737488355328 then
              (match h.get id,q8m h id off (len*i.size)with
              | some (.cells e' (some fz) true l0),some o=>if e'=e/\fz<=off+len*i.size/\l.all atom=true/\off<=l0.length then
                  match T.put 64 id none h with
                  |some h1=>match T.put 64 nx (some (.cells e (some (fz- off)) true (o++l))) h1 with|some h'=>some (.gsl nx 0 (len+n) i.size,h',nx+1)|none=>none
                  |none=>none
                else none
              |_,_=>none)else none)else none
          |_=>none
          else none
        |_,_=>none
      |none=>none
    |_,_=>none
  |_=>none
def Sim.push'{F I h w} (s:Sim F I h w) {nx t o h'} (hi:I nx=none) (hF:∀b,F true b->b<w.heap.size) (hp:T.put 64 nx (some o) h=some h') {ob:Obj} (ho:OR (ext I nx (w.heap.size,t)) t o ob):
  Grow F I nx w (ext I nx (w.heap.size,t)) (nx+1) h' (w.drew.alloc ob):=s.push hi hF hp rfl ho ⟨rfl,rfl,rfl⟩
def Sim.drop{F I h w} (s:Sim F I h w) {id h1} (hp:T.put 64 id none h=some h1):Sim F I h1 w:=by
 have hg:=T.get_put _ _ _ _ _ hp
 have sub:∀k o,h1.get k=some o->h.get k=some o:=λk o hk=>by
  rw[hg]at hk;split at hk
  ·cases hk
  ·exact hk
 exact⟨λk o b t a c=>s.obj k o b t (sub _ _ a) c,λk k' o o' b t t' a c=>s.inj k k' o o' b t t' (sub _ _ a) (sub _ _ c),λk o b t a c=>s.fr k o b t (sub _ _ a) c⟩
def q5j{P:Program} {e:TypeId} {z:List AV} (hi:P.info? e=some i) (h:q21 P e=some z):∃zv,i.zero=some zv/\zv.cells.size=z.length:=by
 unfold q21 at h
 rw[hi]at h
 simp only at h
 split at h
 ·rename_i zv hz
  exact⟨zv,hz,by rw[←Array.length_toList,←(ofVals_rel (λ_=>none) _ _ h).len]⟩
 ·cases h
def qa3 {P : Program} {h h':T AO} (hs:Sim F I h w) (hF:∀b,F true b->b<w.heap.size) {nx nx':Nat} {ts:List TypeId} {ty:TypeId} {d x r:AV} {u v:Value} (e:q6i P h nx ts d x=some (r,h',nx')) (hfr:∀i,nx<=i->i<nx'->I i=none) (hd:VR I d u) (hx:VR I x v):
    ∃z I' w',(Builtin.append_ ⟨ts⟩ ty ⟨[u,v]⟩).run P w= .ok z w'/\VR I' r z/\Grow F I nx w I' nx' h' w':=by
  unfold q6i at e
  split at e
  · rename_i t0 t1
    split at e
    · rename_i el h0 hz0
      split at e
      · rename_i i hi
        split at e
        · rename_i n l z hsrc hz
          split at e
          · rename_i hc
            obtain⟨c1,c2,c3⟩:=hc
            obtain⟨us,s1,s2,s3⟩:=qbq (P:=P) hs hsrc hx
            obtain⟨zv,z1,z2⟩:=q5j hi hz
            rw[c1]at z2
            have zc:∀k,(Builtin.zeroCells zv.cells k).size=k*i.size:=λk=>by rw[size_zeroCells,z2]
            have grow:∀(base:Option Addr) (sLen sCap:Nat) (o:List AV) (os:List Value) (h1:T AO) (fz:Nat),Sim F I h1 w->(∀w':World,w'.heap=w.heap->(Builtin.firstCells i.size sLen (.slice base sLen sCap)).run P w'= .ok ⟨os⟩ w')->VRs I o os->os.length=sLen*i.size->¬sLen+n<=sCap->(sLen+n)*i.bytes<=140737488355328->I nx=none->T.put 64 nx (some (.cells el (some fz) true (o++l))) h1=some h'->
                ∃z I' w',(Builtin.append_ ⟨[t0,t1]⟩ ty ⟨[.slice base sLen sCap,v]⟩).run P w= .ok z w'/\VR I' (.gsl nx 0 (sLen+n) i.size) z/\Grow F I nx w I' (nx+1) h' w':=by
              intro base sLen sCap o os h1 fz hs1 ho hor hol hr hbig hI hp
              have hrun:=q4k (P:=P) (ty:=ty) h0 hz0 hi z1 (s1 w rfl).1 (λw' hw=>(s1 w' hw).2) ho hr c3 hbig
              have hle:=q1l (w.heap.size,0,grownCap w (sLen+n) sCap el*i.size) hI
              have hcap:=grownCap_ge w (sLen+n) sCap el
              have hcells:(⟨os⟩++(⟨us⟩++Builtin.zeroCells zv.cells (grownCap w (sLen+n) sCap el- (sLen+n))):Array Value)=⟨(os++us)++(Builtin.zeroCells zv.cells (grownCap w (sLen+n) sCap el- (sLen+n))).toList⟩:=by
                apply Array.toList_inj.1;simp
              have hor2:OR (ext I nx (w.heap.size,0,grownCap w (sLen+n) sCap el*i.size)) (0,grownCap w (sLen+n) sCap el*i.size) (.cells el (some fz) true (o++l)) (.cells (⟨os⟩++(⟨us⟩++Builtin.zeroCells zv.cells (grownCap w (sLen+n) sCap el- (sLen+n)))) el):=by
                rw[hcells]
                refine .cells (pre:=[]) ((hor.append s2).mono hle) (λh=>by cases h) rfl ?_ (λ_ _ o _ _=>by simp) (.inl rfl)
                have hzl:(Builtin.zeroCells zv.cells (grownCap w (sLen+n) sCap el- (sLen+n))).toList.length=(grownCap w (sLen+n) sCap el- (sLen+n))*i.size:=by rw[Array.length_toList,zc]
                show(os++us++_).length=grownCap w (sLen+n) sCap el*i.size
                rw[List.length_append,List.length_append,hzl,hol,s3,←Nat.add_mul,←Nat.add_mul]
                congr 1;omega
              have hg:=hs1.push' hI hF hp hor2
              refine⟨_,_,_,hrun, .gsl (q06 _ _ _) hcap (by omega) (.inl rfl),hg⟩
            split at e
            · cases hd
              split at e
              · rename_i hn
                cases e;subst hn
                refine⟨_,I,w,q0o (P:=P) h0 hz0 hi (s1 w rfl).1 (s1 w rfl).2 (Nat.le_refl _),?_,hs.grow nx⟩
                exact .nsl
              · rename_i hn
                split at e
                · rename_i hb
                  split at e
                  · rename_i h2 hp
                    cases e
                    have:=grow none 0 0 [] [] h 0 hs (λw' _=>rfl) .nil (by simp) (by omega) (by simpa using hb) (hfr nx (Nat.le_refl _) (Nat.lt_succ_self _)) hp
                    simpa using this
                  · cases e
                · cases e
            · rename_i id off len cap
              cases hd with
              | @sl _ _ _ _ b s t hI=>
                split at e
                · rename_i hroom
                  split at e
                  · rename_i h2 hw
                    cases e
                    obtain⟨w',g1,g2⟩:=q4l (P:=P) hs hw hI s2 nx
                    refine⟨_,I,w',?_, .sl hI,g2⟩
                    rw[q0o (P:=P) h0 hz0 hi (s1 w rfl).1 (s1 w rfl).2 hroom]
                    simp only[q03]
                    rw[show s+off+len*i.size=s+(off+len*i.size)by omega,g1]
                    rfl
                  · cases e
                · rename_i hroom
                  split at e
                  · rename_i hb
                    split at e
                    · rename_i o ho
                      split at e
                      · rename_i h2 hp
                        cases e
                        obtain⟨os,k1,k2,k3⟩:=q2z (P:=P) hs ho hI (.inl rfl)
                        exact grow _ len cap o os h 0 hs k3 k1 k2 hroom hb (hfr nx (Nat.le_refl _) (Nat.lt_succ_self _)) hp
                      · cases e
                    · cases e
                  · cases e
            · rename_i id off len esz
              cases hd with
              | @gsl _ _ _ _ b s t c oo hI g1 g2 g3=>
                split at e
                · rename_i hesz
                  subst hesz
                  split at e
                  · rename_i hn
                    cases e;subst hn
                    have hus:us=[]:=by
                      have:us.length=0:=by rw[s3];simp
                      exact List.length_eq_zero_iff.1 this
                    subst hus
                    refine⟨_,I,w,?_, .gsl hI g1 g2 g3,hs.grow nx⟩
                    rw[q0o (P:=P) h0 hz0 hi (s1 w rfl).1 (s1 w rfl).2 (by omega)]
                    simp[storeCells,Result.andThen]
                  · rename_i hn
                    split at e
                    · rename_i hb
                      split at e
                      · rename_i el' fz l0 o hg ho
                        split at e
                        · rename_i hcc
                          obtain⟨rfl,hfz,hat,hol⟩:=hcc
                          split at e
                          · rename_i h1 hp1
                            split at e
                            · rename_i h2 hp
                              cases e
                              have hI0:=hfr nx (Nat.le_refl _) (Nat.lt_succ_self _)
                              by_cases hroom:len+n<=c
                              ·
                                have hoo:oo=s+off:=g3.resolve_right (by omega)
                                subst hoo
                                obtain⟨ob,hb',hob⟩:=hs.obj _ _ _ _ hg hI
                                cases hob with
                                | @cells _ _ _ _ _ pre vs rest fr hv hg' hpl ht hf hE=>
                                  rcases hE with hE|⟨hE,_⟩
                                  case inr=>cases hE
                                  have hE:=hE.symm
                                  subst hE
                                  simp only at hpl ht hf
                                  have ho':takeN l0 off (len*i.size)=some o:=by
                                    unfold q8m at ho;rw[hg]at ho;exact ho
                                  have hlo:((l0.drop off).take (len*i.size)).length=len*i.size/\o=(l0.drop off).take (len*i.size):=by
                                    unfold takeN at ho';simp only at ho'
                                    split at ho'
                                    · rename_i h3;cases ho';exact⟨h3,rfl⟩
                                    · cases ho'
                                  have hl0:off+len*i.size<=l0.length:=by
                                    have:=hlo.1;rw[List.length_take,List.length_drop]at this;omega
                                  have hvl:=hv.len
                                  have htl:vs.length+rest.length=t:=by rw[←List.length_append];exact ht
                                  have hsp:(len+n)*i.size<=c*i.size:=Nat.mul_le_mul_right _ hroom
                                  rw[Nat.add_mul]at hsp
                                  obtain⟨w',q1,q2,q3,q4,q5⟩:=q17 (P:=P) (o:=s+(off+len*i.size)) us 0 (pre++(vs++rest)) w hb' (by simp only[List.length_append];rw[s3];omega) (λj a1 a2=>by
                                    have:=hf fz rfl (j- s) (by omega) (by rw[s3]at a2;omega)
                                    rw[show s+(j- s)=j by omega]at this;exact this) (q26 s2 hat)
                                  rw[Nat.add_zero,←hpl,q5h us pre (vs++rest) (off+len*i.size),qdm us (vs++rest) (off+len*i.size) (by rw[List.length_append,s3];omega),List.take_append_of_le_length (by omega)]at q2
                                  have hsplit:vs.take (off+len*i.size)=vs.take off++(vs.drop off).take (len*i.size):=List.take_add
                                  rw[hsplit]at q2
                                  have hor:OR (ext I nx (b,s+off,t- off)) (s+off,t- off) (.cells el' (some (fz- off)) true (o++l)) (.cells ⟨pre++(vs.take off++(vs.drop off).take (len*i.size)++us++(vs++rest).drop (off+len*i.size+us.length))⟩ el' fr):=by
                                    have he:(⟨pre++(vs.take off++(vs.drop off).take (len*i.size)++us++(vs++rest).drop (off+len*i.size+us.length))⟩:Array Value)=⟨(pre++vs.take off)++(((vs.drop off).take (len*i.size)++us)++(vs++rest).drop (off+len*i.size+us.length))⟩:=by
                                      simp only[List.append_assoc]
                                    rw[he]
                                    refine .cells ?_ (λh=>by cases h) ?_ ?_ ?_ (.inl rfl)
                                    · rw[hlo.2]
                                      exact(((hv.drop _).take _).append s2).mono (q1l _ hI0)
                                    · simp only[List.length_append,List.length_take];omega
                                    · simp only[List.length_append,List.length_take,List.length_drop]
                                      rw[s3]
                                      omega
                                    · intro f hf' o' h1' h2'
                                      cases hf'
                                      simp only at h2'⊢
                                      have:=hf fz rfl (off+o') (by omega) (by omega)
                                      rw[show s+off+o'=s+(off+o')by omega];exact this
                                  refine⟨_,_,w',?_, .gsl (q06 I nx (b,s+off,t- off)) hroom (by omega) (.inl rfl),hs.over hg rfl hI hI0 hp1 hp q2 hor q3 q4 q5⟩
                                  rw[q0o (P:=P) h0 hz0 hi (s1 w rfl).1 (s1 w rfl).2 hroom]
                                  simp only[q03]
                                  rw[show s+off+len*i.size=s+(off+len*i.size)by omega,q1]
                                  rfl
                              · obtain⟨os,k1,k2,k3⟩:=q2z (P:=P) (o:=oo) hs ho hI (by
                                  rcases g3 with g3|g3
                                  · exact .inl g3
                                  · exact .inr (by have:len=0:=by omega
                                                   rw[this,Nat.zero_mul]))
                                exact grow _ len c o os h1 (fz- off) (hs.drop hp1) k3 k1 k2 hroom hb hI0 hp
                            · cases e
                          · cases e
                        · cases e
                      · cases e
                    · cases e
                · cases e
            · cases e
          · cases e
        · cases e
      · cases e
    · cases e
  · cases e
def q4g(P:Program) (h:T AO) (t:TypeId) (id:Nat) (k:AV):Option (AV×T AO):=
  match P.underlying t,qgo h id,qc5 k with
  | some (.map kt et),some (es,c),some kv=>
    match q2j P (Instr.checkKey false 10000 kt kv),qcc P kt kv es with
    | some (),some (some (i,v))=>match q7n es i with
      |some e=>if Instr.sameBits 10000 e.1 kv then(match T.put 64 id (some (.map (q5f es i kv e.2.1) c)) h with|some h'=>some (.tup [v, .int .i64 (.ofNat e.2.2)],h')|none=>none)else none
      |none=>none
    | some (),some none=>match P.info? et with
      | some i=>match i.zero with
        | some z=>match q0s z with
          |some a=>(match T.put 64 id (some (.map (es++[(kv,a,c)]) (c+1))) h with|some h'=>some (.tup [a, .int .i64 (.ofNat c)],h')|none=>none)
          |none=>none
        |none=>none
      |none=>none
    |_,_=>none
  |_,_,_=>none
def qag(ms:List MapEntry) (i:Nat) (k v:Value) (n:Nat) (h:ms[i]? =some ⟨k,v,n⟩) (k':Value):(ms.modify i λe=>{e with key:=k'})=ms.modify i λe=>{e with key:=k',val:=v}:=by
  induction ms generalizing i with
  |nil=>simp
  | cons m ms ih=>
    cases i with
    |zero=>simp at h;subst h;simp
    |succ i=>simp at h;simp[ih i h]
variable {F:Bool->Nat->Prop} {I:In} {w:World}
def q7e{P:Program} {h h':T AO} (hs:Sim F I h w) {t:TypeId} {id b:Nat} {n:Nat×Nat} {k r:AV} {u:Value} (e:q4g P h t id k=some (r,h')) (hi:I id=some (b,n)) (hk:VR I k u) (nx:Nat):
    ∃z w',(Instr.mapEntry t (.map (some b)) u).run P w= .ok z w'/\VR I r z/\Grow F I nx w I nx h' w':=by
  unfold q4g at e
  split at e
  · rename_i kt et es c kv ht hm hkv
    have:=q4o hkv hk
    subst this
    obtain⟨ms,h1,h2,h3,h4⟩:=q4h (P:=P) hs hm hi
    have upd:∀(es':List q6g) (ms':List MapEntry) (c':Nat),MR I es' ms'->T.put 64 id (some (.map es' c')) h=some h'->Grow F I nx w I nx h' (q09 w b (.map ⟨ms'⟩ c')):=λes' ms' c' hm' hp=>
      hs.upd h4 rfl hi hp (q0r h2) (.map hm') (λc hc=>q0b hc) q0h q0g nx
    split at e
    · rename_i i q hck hf
      split at e
      · rename_i en hen
        split at e
        · rename_i hsb
          split at e
          · rename_i h'' hp
            cases e
            obtain⟨r',g1,g2⟩:=q2f h1 hf
            cases g2 with
            | some hva=>
              obtain⟨ev,g3,g4⟩:=q63 h1 _ _ hen
              refine⟨_,_,?_, .tup (.cons hva (.cons (.int _ _) .nil)),upd _ _ _ (q6a h1 i u en.2.1 ev g4) hp⟩
              rw[←qag ms i _ _ _ g3 u]
              simp[Instr.mapEntry,run_underlying ht,Result.andThen,h3,q0v P _ _ hck w,g1 w,Instr.keyThatStays,g3,hsb,q0f h2,goInt]
          · cases e
        · cases e
      · cases e
    · rename_i hck hf
      split at e
      · rename_i ti hti
        split at e
        · rename_i z hz
          split at e
          · rename_i a ha
            split at e
            · rename_i h'' hp
              cases e
              obtain⟨r',g1,g2⟩:=q2f h1 hf
              cases g2
              have hzr:(zeroValue et).run P w= .ok z w:=by simp[zeroValue,typeInfo,program,Sem.run,hti,bind,Sem.bind,pure,hz]
              have hza:=q2a I _ _ ha
              refine⟨_,_,?_, .tup (.cons hza (.cons (.int _ _) .nil)),upd _ _ _ (h1.snoc hza) hp⟩
              simp[Instr.mapEntry,run_underlying ht,Result.andThen,h3,q0v P _ _ hck w,g1 w,q0f h2,hzr,goInt]
            · cases e
          · cases e
        · cases e
      · cases e
    · cases e
  · cases e
def q3z:List q6g->Nat->Nat->Option Nat
 | [],_,_=>none
 |e::l,n,i=>if e.2.2=n then some i else q3z l n (i+1)
def q6b(es:List q6g) (i:Nat) (v:AV):List q6g:=
  match es with
  | []=>[]
  | e::l=>match i with
    |0=>(e.1,v,e.2.2)::l
    |i+1=>e::q6b l i v
def qao{es ms} (h:MR I es ms):∀i (v:AV) (u:Value),VR I v u->MR I (q6b es i v) (ms.modify i λe=>{e with val:=u}):=by
  induction h with
  |nil=>intro i v u hv;simp[q6b];exact .nil
  | cons hv ht ih=>
    intro i v u hvu
    cases i with
    |zero=>simp[q6b];exact .cons hvu ht
    |succ i=>simp[q6b];exact .cons hv (ih i v u hvu)
def q7m{es ms} (h:MR I es ms) (n:Nat):∀k i,q3z es n k=some i->∃j,i=k+j/\ms.findIdx? (λe=>(e.born:Int)==(n:Int))=some j:=by
  induction h with
  |nil=>intro k i h;cases h
  | @cons ke a m l v ms hv ht ih=>
    intro k i h
    simp only[q3z]at h
    split at h
    · rename_i hm
      cases h
      refine⟨0,rfl,?_⟩
      simp[List.findIdx?_cons,hm]
    · rename_i hm
      obtain⟨j,h1,h2⟩:=ih (k+1) i h
      refine⟨j+1,by omega,?_⟩
      have:((m:Int)==(n:Int))=false:=by simp;omega
      simp[List.findIdx?_cons,this,h2]
def q2o(h:T AO) (id:Nat) (s v:AV):Option (T AO):=
  match qgo h id,s with
  | some (es,c), .int _ (.ofNat n)=>match q3z es n 0 with
    |some i=>T.put 64 id (some (.map (q6b es i v) c)) h
    |none=>none
  |_,_=>none
def q5o{P:Program} {h h':T AO} (hs:Sim F I h w) {t:TypeId} {id b:Nat} {n:Nat×Nat} {s v:AV} {u z:Value} (e:q2o h id s v=some h') (hi:I id=some (b,n)) (hk:VR I s u) (hv:VR I v z) (nx:Nat):
  ∃w',(Instr.entryStore t (.map (some b)) u z).run P w= .ok () w'/\Grow F I nx w I nx h' w':=by
 unfold q2o at e
 split at e
 ·rename_i es c k m hm
  split at e
  ·rename_i i hf
   obtain⟨ms,h1,h2,h3,h4⟩:=q4h (P:=P) hs hm hi
   obtain⟨j,g1,g2⟩:=q7m h1 m 0 i hf
   rw[Nat.zero_add]at g1;subst g1
   cases hk
   refine⟨_,?_,hs.upd h4 rfl hi e (q0r h2) (.map (qao h1 i v z hv)) (λc hc=>q0b hc) q0h q0g nx⟩
   simp[Instr.entryStore,Result.andThen,h3,asInt,asIntOf,g2,q0f h2]
  ·cases e
 ·cases e
def qad{P:Program} {e:TypeId} (hc:P.cellsOf e=1) (count off n:Nat) (hn:off+n<=count):liesAt P P.depth e count off e n=true:=by
 have hd:P.depth=(2*(P.types.size+Made.depth)+1)+1:=rfl
 rw[hd]
 simp only[liesAt,Bool.or_eq_true]
 left
 rw[hd]
 simp[rowAt,hc,hn,sameLayout,Nat.mod_one]
def qf9{P:Program} (w:World) (pt it ty e:TypeId) (hp:P.underlying pt=some (.pointer e)) (hc:P.cellsOf e=1) (b o cells:Nat) (hsh:w.shape? b=some (e,cells)) (r:List Nat) (h0:r≠[]) (hn:o+r.length<=cells) (h63:r.length<=9223372036854775807)
    (hcell:∀j x,r[j]? =some x->x<256/\w.cell? ⟨b,o+j,none⟩=some (.int .u8 (.ofNat x))):
    (Builtin.unsafeString_ #[pt,it] ty #[.pointer (some ⟨b,o,none⟩), .int .i64 (.ofNat r.length)]).run P w= .ok (.string (mkS r)) (w.freeze ⟨b,o,none⟩ r.length):=by
  have hl:r.length≠0:=by simpa using h0
  have hlen:(r.map UInt8.ofNat).length=r.length:=by simp
  have hlb:=Lib.run_loadBytes (P:=P) w (r.map UInt8.ofNat) ⟨b,o,none⟩ .empty (λj x hj=>by
    rw[List.getElem?_map]at hj
    cases hr:r[j]? with
    |none=>rw[hr]at hj;cases hj
    | some y=>
      rw[hr]at hj;cases hj
      obtain⟨h1,h2⟩:=hcell j y hr
      rw[q03,h2,UInt8.toNat_ofNat',Nat.mod_eq_of_lt h1];rfl)
  rw[hlen]at hlb
  have hlies:=qad (P:=P) hc (cells / P.cellsOf e) o r.length (by rw[hc];simpa using hn)
  have h63':¬(9223372036854775807:Int)<(r.length:Int):=by omega
  have hdef:Builtin.unsafeString_ #[pt,it] ty #[.pointer (some ⟨b,o,none⟩), .int .i64 (.ofNat r.length)]=
      (do
        let n ←asInt (.int .i64 (.ofNat r.length))
        if n<0 then runtimePanic (.error "unsafe.String: len out of range")
        if n>IntKind.i64.max then unsupported (.unsafePointer "String: a length above the largest int")
        if n=0 then pure (.string .empty)
        else if ←variablesAt ⟨b,o,none⟩ (←elemOf pt) n.toNat then do
          let s ←loadBytes ⟨b,o,none⟩ .empty n.toNat
          freeze ⟨b,o,none⟩ n.toNat
          pure (.string s)
        else unsupported (.unsafePointer "String: not so many bytes at ptr")):=rfl
  rw[hdef]
  have hmax:IntKind.i64.max=9223372036854775807:=rfl
  have hneg:¬(r.length:Int)<0:=by omega
  have hmk:(⟨#[]++(List.map UInt8.ofNat r).toArray⟩:ByteArray)=mkS r:=by
    apply ByteArray.ext;simp[mkS]
  simp[asInt,asIntOf,hmax,h63',hneg,hl,variablesAt,hsh,elemOf,run_underlying hp,hlies,hlb]
  simp[mkS]
def qgu(P:Program) (h:T AO) (ts:List TypeId) (l:List AV):Option (AV×T AO):=
  match ts with
  | [pt, _] =>match l with
    | [.nilp, .int .i64 (.ofNat 0)]=>some (.str [],h)
    | [.ptr id off, .int .i64 (.ofNat n)]=>match h.get id with
      | some (.cells e (some _) g l0)=>match P.underlying pt with
        | some (.pointer u)=>if u=e/\P.cellsOf e=1/\0<n/\n<=9223372036854775807 then
            (match takeN l0 off n with
            | some x=>match bytesOf x with
              | some r=>match T.put 64 id (some (.cells e none g l0)) h with
                |some h'=>some (.str r,h')
                |none=>none
              |none=>none
            |none=>none)else none
        |_=>none
      |_=>none
    |_=>none
  |_=>none
variable {F:Bool->Nat->Prop} {w:World}
def qec {P : Program} {I:In} {h h':T AO} (hs:Sim F I h w) {ts:List TypeId} {ty:TypeId} {l:List AV} {vs:List Value} {r:AV} (e:qgu P h ts l=some (r,h')) (hl:VRs I l vs) (nx:Nat):
    ∃z w',(Builtin.unsafeString_ ⟨ts⟩ ty ⟨vs⟩).run P w= .ok z w'/\VR I r z/\Grow F I nx w I nx h' w':=by
  unfold qgu at e
  split at e
  · rename_i pt it
    split at e
    · cases e
      cases hl with|cons h1 h2=>cases h2 with|cons h2 h3=>
      cases h3;cases h1;cases h2
      refine⟨_,w,Lib.run_unsafeString_none w pt it ty none,?_,hs.grow nx⟩
      exact .str []
    · rename_i id off n
      split at e
      · rename_i el fz g l0 hg
        split at e
        · rename_i u hp
          split at e
          · rename_i hc
            obtain⟨rfl,c2,c3,c4⟩:=hc
            split at e
            · rename_i x hx
              split at e
              · rename_i rr hr
                split at e
                · rename_i h2 hput
                  cases e
                  cases hl with|cons h1 h2=>cases h2 with|cons h2 h3=>
                  cases h3;cases h2
                  cases h1 with
                  | @ptr _ _ b s t hI=>
                    obtain⟨ob,hb,ho⟩:=hs.obj _ _ _ _ hg hI
                    cases ho with
                    | @cells _ _ _ _ _ pre vs rest fr hv hg' hpl ht hf hE=>
                      rcases hE with hE|⟨hE,_⟩
                      case inr=>cases hE
                      have hE:=hE.symm
                      subst hE
                      simp only at hpl ht hf
                      obtain⟨ys,y1,y2,y3⟩:=q76 (rest:=rest) hv hpl hx
                      have hrl:rr.length=n:=by rw[q2r hr,y1.len,y2]
                      have hsh:w.shape? b=some (u,(pre++(vs++rest)).length):=by
                        simp[World.shape?,hb]
                      have hsz:s+off+n<=(pre++(vs++rest)).length:=by
                        have hne:0<ys.length:=by omega
                        have:=y3 (ys.length- 1) ys[ys.length- 1] (List.getElem?_eq_getElem (by omega))
                        simp only[List.getElem?_toArray]at this
                        have:=(List.getElem?_eq_some_iff.1 this).1
                        omega
                      have hrun:=qf9 (P:=P) w pt it ty u hp c2 b (s+off) _ hsh rr (λe0=>by rw[e0]at hrl;simp at hrl;omega) (by omega) (by omega) (λj x hj=>by
                        obtain⟨k1,k2⟩:=q2q hr y1 j x hj
                        exact⟨k1,by rw[cell_of hb];exact y3 j _ k2⟩)
                      rw[hrl]at hrun
                      refine⟨_,_,hrun, .str rr,?_⟩
                      have hn0:¬n=0:=by omega
                      have f1:∀c,c≠b->(w.freeze ⟨b,s+off,none⟩ n).heap[c]? =w.heap[c]? :=λc hc=>by
                        unfold World.freeze;rw[if_neg hn0];simp only[Array.getElem?_modify];rw[if_neg (λe=>hc e.symm)]
                      have f2:∃fr',(w.freeze ⟨b,s+off,none⟩ n).heap[b]? =some (.cells ⟨pre++(vs++rest)⟩ u fr'):=by
                        unfold World.freeze;rw[if_neg hn0];simp only[Array.getElem?_modify,if_true,hb,Option.map_some];exact⟨_,rfl⟩
                      have f3:(w.freeze ⟨b,s+off,none⟩ n).heap.size=w.heap.size:=by
                        unfold World.freeze;rw[if_neg hn0];simp
                      have f4:Same w (w.freeze ⟨b,s+off,none⟩ n):=by
                        unfold World.freeze;rw[if_neg hn0];exact⟨rfl,rfl,rfl⟩
                      obtain⟨fr',f2⟩:=f2
                      exact hs.upd hg rfl hI hput f2 (.cells hv hg' hpl ht (λf hf=>by cases hf) (.inl rfl)) f1 f3 f4 nx
                · cases e
              · cases e
            · cases e
          · cases e
        · cases e
      · cases e
    · cases e
  · cases e
def qgt (P:Program) (h:T AO) (s:TypeId) (a:AV):Option (AV×T AO):=
  match a with
  | .nsl=>none
  | .sl id _ _ _| .gsl id _ _ _=>match h.get id with
    | some (.cells e (some _) g l0)=>match P.underlying s with
      | some (.slice el)=>match P.underlying el with
        | some (.int .u8)=>match T.put 64 id (some (.cells e none g l0)) h with
          |some h'=>some (a,h')
          |none=>none
        |_=>none
      |_=>none
    |_=>none
  |_=>none
def qev{P:Program} {b o:Nat} {cs:Array Value} {e:TypeId} {fr:Nat×Nat} (hb:w.heap[b]? =some (.cells cs e fr)):(markStringish ⟨b,o,none⟩).run P w= .ok () (w.freeze ⟨b,cs.size,none⟩ 1):=by
 have hsh:w.shape? b=some (e,cs.size):=by simp[World.shape?,hb]
 unfold markStringish
 simp[hsh,freeze,Sem.run,Result.andThen]
def qea {P:Program} {I:In} {h h':T AO} (hs:Sim F I h w) {s:TypeId} {a r:AV} {u:Value} (e:qgt P h s a=some (r,h')) (ha:VR I a u) (nx:Nat):
    ∃z w',(convert s s u).run P w= .ok z w'/\VR I r z/\Grow F I nx w I nx h' w':=by
  have key:∀(id b s0 t0 len c o:Nat) (el:TypeId) (e0:TypeId) (f0:Nat) (g:Bool) (l0:List AV),h.get id=some (.cells e0 (some f0) g l0)->P.underlying s=some (.slice el)->P.underlying el=some (.int .u8)->T.put 64 id (some (.cells e0 none g l0)) h=some h'->I id=some (b,s0,t0)->
      ∃w',(convert s s (.slice (some ⟨b,o,none⟩) len c)).run P w= .ok (.slice (some ⟨b,o,none⟩) len c) w'/\Grow F I nx w I nx h' w':=by
    intro id b s0 t0 len c o el e0 f0 g l0 hg hsu hel hput hI
    obtain⟨ob,hb,ho⟩:=hs.obj _ _ _ _ hg hI
    cases ho with
    | @cells _ _ _ _ _ pre vs rest fr hv hg' hpl ht hf hE=>
      rcases hE with hE|⟨hE,_⟩
      case inr=>cases hE
      have hE:=hE.symm
      subst hE
      simp only at hpl ht hf
      have hm:=qev (P:=P) (o:=o) hb
      refine⟨_,?_,hs.upd hg rfl hI hput (w':=w.freeze ⟨b,(⟨pre++(vs++rest)⟩:Array Value).size,none⟩ 1) (ob':= .cells ⟨pre++(vs++rest)⟩ e0 (if fr.1==fr.2 then((⟨pre++(vs++rest)⟩:Array Value).size,(⟨pre++(vs++rest)⟩:Array Value).size+1)else(min fr.1 (⟨pre++(vs++rest)⟩:Array Value).size,max fr.2 ((⟨pre++(vs++rest)⟩:Array Value).size+1)))) ?_ ?_ ?_ ?_ ?_ nx⟩
      · unfold convert
        simp only[Sem.run_bind,run_underlying hsu,Result.andThen]
        simp[run_underlying hel,hm,Result.andThen]
      · unfold World.freeze;rw[if_neg (by omega)];simp only[Array.getElem?_modify,if_true,hb,Option.map_some]
      · exact .cells hv hg' hpl ht (λf hf=>by cases hf) (.inl rfl)
      · intro k hk;unfold World.freeze;rw[if_neg (by omega)];simp only[Array.getElem?_modify];rw[if_neg (λe=>hk e.symm)]
      · unfold World.freeze;rw[if_neg (by omega)];simp
      · unfold World.freeze;rw[if_neg (by omega)];exact⟨rfl,rfl,rfl⟩
  unfold qgt at e
  split at e
  · cases e
  · split at e
    · rename_i hg
      split at e
      · rename_i hsu
        split at e
        · rename_i hel
          split at e
          · rename_i hp
            cases e
            cases ha with
            | sl hI=>
              obtain⟨w',k1,k2⟩:=key _ _ _ _ _ _ _ _ _ _ _ _ hg hsu hel hp hI
              exact⟨_,w',k1, .sl hI,k2⟩
          · cases e
        · cases e
      · cases e
    · cases e
  · split at e
    · rename_i hg
      split at e
      · rename_i hsu
        split at e
        · rename_i hel
          split at e
          · rename_i hp
            cases e
            cases ha with
            | gsl hI g1 g2 g3=>
              obtain⟨w',k1,k2⟩:=key _ _ _ _ _ _ _ _ _ _ _ _ hg hsu hel hp hI
              exact⟨_,w',k1, .gsl hI g1 g2 g3,k2⟩
          · cases e
        · cases e
      · cases e
    · cases e
  · cases e
def q5p{P:Program} {w:World} {t0 t1 ty e:TypeId} {i:TypeInfo} {z:Value} {k:IntKind} {n:Nat} (h0:P.underlying t0=some (.slice e)) (h1:P.underlying t1=some (.int k)) (hi:P.info? e=some i) (hzv:i.zero=some z)
  (hn:0<n) (hs:0<i.size) (hb:0<i.bytes) (hbig:n*i.bytes<=140737488355328):
  (Builtin.append_ ⟨[t0,t1]⟩ ty ⟨[.slice none 0 0, .int .i64 (.ofNat n)]⟩).run P w= .ok (.slice (some ⟨w.heap.size,0,none⟩) n (grownCap w n 0 e)) (w.drew.alloc (.cells (Builtin.zeroCells z.cells n++Builtin.zeroCells z.cells (grownCap w n 0 e- n)) e)):=by
 have hne:¬i.bytes=0:=by omega
 have hti:(typeInfo e).run P w= .ok i w:=by simp[typeInfo,program,Sem.run,hi,bind,Sem.bind,pure]
 have hti':(typeInfo e).run P w.drew= .ok i w.drew:=by simp[typeInfo,program,Sem.run,hi,bind,Sem.bind,pure]
 have hzr:(zeroValue e).run P w.drew= .ok z w.drew:=by simp[zeroValue,typeInfo,program,Sem.run,hi,bind,Sem.bind,pure,hzv]
 have hn2:n<=140737488355328:=Nat.le_trans (Nat.le_mul_of_pos_right n hb) hbig
 have hw:IntKind.i64.wrap (n:Int)=(n:Int):=by
  unfold IntKind.wrap;simp[IntKind.bits,IntKind.signed];omega
 have hneg:¬(n:Int)<0:=by omega
 have hl:¬281474976710656<(n:Int)*(i.bytes:Int):=by
  have:(n:Int)*(i.bytes:Int)=((n*i.bytes:Nat):Int):=by simp
  rw[this];omega
 have hcap:Builtin.nextslicecap n 0=n:=by unfold Builtin.nextslicecap;rw[if_pos (by omega)]
 have hnb:¬Builtin.nextslicecap n 0*i.bytes>2 ^ 48:=by rw[hcap];omega
 have hroomrun:∀k,(askRoom k).run P w.drew= .ok () w.drew:=λk=>by unfold askRoom;split<;>rfl
 have hns:¬n*i.size=0:=by have:=Nat.mul_pos hn hs;omega
 have hle:¬n<=0:=by omega
 have hn0:¬n=0:=by omega
 have his:¬i.size=0:=by omega
 have hnb':¬281474976710656<n*i.bytes:=by omega
 have hmax:¬((9223372036854775807:Int)<(n:Int)):=by omega
 simp only[Builtin.append_,List.getElem?_toArray,List.getElem?_cons_zero,List.getElem?_cons_succ,Sem.run_bind,run_underlying h0,Result.andThen,run_sizeOf hi,run_underlying h1]
 simp[Result.andThen,asInt,asIntOf,hn0,his,hcap,hnb',hw,hneg,hl,hti,hti',hne,hnb,hns,hle,hmax,Question.forced,hroomrun,hzr,newRow,newObj,Sem.run,grownCap,Builtin.firstCells]
 rfl
def q2x(P:Program) (h:T AO) (nx:Nat) (ts:List TypeId) (d x:AV):Option (AV×T AO×Nat):=
  match ts with
  | [t0,t1]=>match P.underlying t0,P.underlying t1 with
    | some (.slice e),some (.int _)=>match P.info? e with
      | some i=>match q21 P e,d,x with
        |some z, .nsl, .int .i64 (.ofNat n)=>if z.length=i.size/\0<i.size/\0<i.bytes/\0<n/\n*i.bytes<=140737488355328 then
            (match T.put 64 nx (some (.cells e (some 0) true (qfk z n))) h with|some h'=>some (.gsl nx 0 n i.size,h',nx+1)|none=>none)else none
        |_,_,_=>none
      |none=>none
    |_,_=>none
  |_=>none
variable {ts:List TypeId}
def q8c{P:Program} {h h':T AO} {nx nx':Nat} {d x r:AV} (e:q2x P h nx ts d x=some (r,h',nx')):nx<=nx':=by
 unfold q2x at e
 repeat' split at e
 all_goals (try (cases e;done))
 all_goals (simp only[Option.some.injEq,Prod.mk.injEq]at e;omega)
variable {F:Bool->Nat->Prop} {I:In} {w:World}
def q8d {P:Program} {h h':T AO} (hs:Sim F I h w) (hF:∀b,F true b->b<w.heap.size) {nx nx':Nat} {ts:List TypeId} {ty:TypeId} {d x r:AV} {u v:Value} (e:q2x P h nx ts d x=some (r,h',nx')) (hfr:∀i,nx<=i->i<nx'->I i=none) (hd:VR I d u) (hx:VR I x v):
  ∃z I' w',(Builtin.append_ ⟨ts⟩ ty ⟨[u,v]⟩).run P w= .ok z w'/\VR I' r z/\Grow F I nx w I' nx' h' w':=by
 unfold q2x at e
 split at e
 ·rename_i t0 t1
  split at e
  ·rename_i el k h0 h1
   split at e
   ·rename_i i hi
    split at e
    ·rename_i z n hz
     split at e
     ·rename_i hc
      obtain⟨c1,c2,c3,c4,c5⟩:=hc
      split at e
      ·rename_i h2 hp
       cases e
       cases hd;cases hx
       obtain⟨zv,z1,z2⟩:=q5j hi hz
       obtain⟨zv',z3,z4⟩:=q1p hz (ext I nx (w.heap.size,0,grownCap w n 0 el*i.size))
       rw[c1]at z2
       have hzz:zv'=zv:=by
        have a1:=z3 w
        have a2:(zeroValue el).run P w= .ok zv w:=by simp[zeroValue,typeInfo,program,Sem.run,hi,bind,Sem.bind,pure,z1]
        rw[a2]at a1;cases a1;rfl
       subst hzz
       have zc:∀k,(Builtin.zeroCells zv'.cells k).size=k*i.size:=λk=>by rw[size_zeroCells,z2]
       have hrun:=q5p (P:=P) (w:=w) (ty:=ty) h0 h1 hi z1 c4 c2 c3 c5
       have hcap:=grownCap_ge w n 0 el
       have hor:OR (ext I nx (w.heap.size,0,grownCap w n 0 el*i.size)) (0,grownCap w n 0 el*i.size) (.cells el (some 0) true (qfk z n)) (.cells (Builtin.zeroCells zv'.cells n++Builtin.zeroCells zv'.cells (grownCap w n 0 el- n)) el):=by
        have hcells:(Builtin.zeroCells zv'.cells n++Builtin.zeroCells zv'.cells (grownCap w n 0 el- n))=⟨[]++(q11 zv'.cells.toList n++(Builtin.zeroCells zv'.cells (grownCap w n 0 el- n)).toList)⟩:=by
         apply Array.toList_inj.1
         have:=q1q zv'.cells n
         unfold Builtin.zeroCells
         rw[this];simp
        rw[hcells]
        refine .cells (pre:=[]) (q4c z4 n) (λh=>by cases h) rfl ?_ (λ_ _ o _ _=>by simp) (.inl rfl)
        have hzl:(Builtin.zeroCells zv'.cells (grownCap w n 0 el- n)).toList.length=(grownCap w n 0 el- n)*i.size:=by rw[Array.length_toList,zc]
        have hzr:(q11 zv'.cells.toList n).length=n*i.size:=by
         have a1:=congrArg Array.size (q1q zv'.cells n)
         have a2:=zc n
         unfold Builtin.zeroCells at a2
         rw[a1]at a2
         exact a2
        show(q11 zv'.cells.toList n++_).length=grownCap w n 0 el*i.size
        rw[List.length_append,hzl,hzr,←Nat.add_mul]
        congr 1;omega
       have hg:=hs.push' (hfr nx (Nat.le_refl _) (Nat.lt_succ_self _)) hF hp hor
       exact⟨_,_,_,hrun, .gsl (q06 _ _ _) hcap (by omega) (.inl rfl),hg⟩
      ·cases e
     ·cases e
    ·cases e
   ·cases e
  ·cases e
 ·cases e
def q2d(P:Program) (h:T AO) (nx:Nat) (ts:List TypeId) (d x:AV):Option (AV×T AO×Nat):=
 match q6i P h nx ts d x with
 |some r=>some r
 |none=>q2x P h nx ts d x
def q2n{P:Program} {h h':T AO} {nx nx':Nat} {d x r:AV} (e:q2d P h nx ts d x=some (r,h',nx')):nx<=nx':=by
 unfold q2d at e
 split at e
 ·rename_i q hq
  cases e
  unfold q6i at hq
  repeat' split at hq
  all_goals (try (cases hq;done))
  all_goals (simp only[Option.some.injEq,Prod.mk.injEq]at hq;omega)
 ·exact q8c e
def q4d{P:Program} {h h':T AO} (hs:Sim F I h w) (hF:∀b,F true b->b<w.heap.size) {nx nx':Nat} {ts:List TypeId} {ty:TypeId} {d x r:AV} {u v:Value} (e:q2d P h nx ts d x=some (r,h',nx')) (hfr:∀i,nx<=i->i<nx'->I i=none) (hd:VR I d u) (hx:VR I x v):
  ∃z I' w',(Builtin.append_ ⟨ts⟩ ty ⟨[u,v]⟩).run P w= .ok z w'/\VR I' r z/\Grow F I nx w I' nx' h' w':=by
 unfold q2d at e
 split at e
 ·rename_i q hq
  cases e
  exact qa3 hs hF hq hfr hd hx
 ·exact q8d hs hF e hfr hd hx
def qgj (P:Program) (h:T AO) (ts:List TypeId) (d x:AV):Option (AV×T AO):=
  match ts with
  | t0 :: _=>match P.underlying t0 with
    | some (.slice e)=>match P.info? e with
      | some i=>match qkd h i.size x with
        | some (n,l)=>match d with
          | .sl id off len _=>if n<=len then(match q7h h id off l with|some h'=>some (.int .i64 (.ofNat n),h')|none=>none)else none
          | .gsl _ _ _ _=>if n=0 then some (.int .i64 (.ofNat 0),h)else none
          |_=>none
        |none=>none
      |none=>none
    |_=>none
  | []=>none
def qe7 {P : Program} {h h':T AO} (hs:Sim F I h w) {ts:List TypeId} {ty:TypeId} {d x r:AV} {u v:Value} (e:qgj P h ts d x=some (r,h')) (hd:VR I d u) (hx:VR I x v) (nx:Nat):
    ∃z w',(Builtin.copy_ ⟨ts⟩ ty ⟨[u,v]⟩).run P w= .ok z w'/\VR I r z/\Grow F I nx w I nx h' w':=by
  unfold qgj at e
  split at e
  · rename_i t0 ts
    split at e
    · rename_i el hu
      split at e
      · rename_i i hi
        split at e
        · rename_i n l hl
          obtain⟨us,g1,g2,g3⟩:=qbq (P:=P) hs hl hx
          obtain⟨g4,g5⟩:=g1 w rfl
          split at e
          · rename_i id off len cap
            split at e
            · rename_i hle
              split at e
              · rename_i h2 hw
                cases e
                cases hd with
                | sl hI=>
                  obtain⟨w',h1,h3⟩:=q4l (P:=P) hs hw hI g2 nx
                  refine⟨_,w',?_, .int .i64 (.ofNat n),h3⟩
                  unfold Builtin.copy_
                  simp[run_underlying hu,run_sizeOf hi,Result.andThen,g4,Nat.min_eq_left hle,g5,h1,goInt]
              · cases e
            · cases e
          · split at e
            · rename_i hn
              cases e
              subst hn
              have hus:us=[]:=by
                have:us.length=0:=by rw[g3];simp
                exact List.length_eq_zero_iff.1 this
              subst hus
              cases hd with
              | gsl hI k1 k2 k3=>
                refine⟨_,w,?_, .int .i64 (.ofNat 0),hs.grow nx⟩
                unfold Builtin.copy_
                simp[run_underlying hu,run_sizeOf hi,Result.andThen,g4,g5,goInt,storeCells]
            · cases e
          · cases e
        · cases e
      · cases e
    · cases e
  · cases e
def sop (P:Program) (t:T AV) (h:T AO) (nx:Nat) (o:Oper):Option (AV×T AO×Nat):=
  match o.op with
  | .store ty x y=>match ev t x,ev t y with
    |some (.ptr id off),some a=>(match q9a P h ty id off a with|some h'=>some (q0w,h',nx)|none=>none)
    |_,_=>none
  | .mapUpdate ty m k x| .insert ty m k x=>match ev t m,ev t k,ev t x with
    |some (.map id),some a,some b=>(match q6p P h ty id a b with|some h'=>some (q0w,h',nx)|none=>none)
    |_,_,_=>none
  | .mapEntry ty m k=>match ev t m,ev t k with
    |some (.map id),some a=>(match q4g P h ty id a with|some (v,h')=>some (v,h',nx)|none=>none)
    |_,_=>none
  | .entryStore ty m s x=>match ev t m,ev t s,ev t x with
    |some (.map id),some a,some b=>(match q2o h id a b with|some h'=>some (q0w,h',nx)|none=>none)
    |_,_,_=>none
  | .convert s d x=>match Nat.beq s d with
    | true=>match ev t x with
      |some a=>(match qgt P h s a with|some (v,h')=>some (v,h',nx)|none=>none)
      |none=>none
    |false=>none
  | .call c=>match c.callee with
    | .builtin .append=>match evs t c.args.toList with
      |some [d,x]=>q2d P h nx c.argTypes.toList d x
      |_=>none
    | .builtin .copy=>match evs t c.args.toList with
      | some [d,x]=>match qgj P h c.argTypes.toList d x with
        |some (v,h')=>some (v,h',nx)
        |none=>none
      |_=>none
    | .builtin .unsafeString=>match evs t c.args.toList with
      | some l=>match qgu P h c.argTypes.toList l with
        |some (v,h')=>some (v,h',nx)
        |none=>none
      |none=>none
    |_=>none
  |_=>none
def qim{a b:AV} {vs:List Value} (h:VRs I [a,b] vs):∃v u,vs=[v,u]/\VR I a v/\VR I b u:=by
 cases h with|cons h t=>obtain⟨u,rfl,h2⟩:=qdu t;exact⟨_,_,rfl,h,h2⟩
def qgd{P:Program} {t:T AV} {h h':T AO} {a:Act} {o:Oper} {nx nx':Nat} {r:AV} (e:sop P t h nx o=some (r,h',nx')) (ht:TR I t a.tmps) (hs:Sim F I h w) (hF:∀b,F true b->b<w.heap.size) (hfr:∀i,nx<=i->i<nx'->I i=none):
    nx<=nx'/\qfl P F I nx w (execOp a.eval o) r h' nx':=by
  obtain⟨dst,op,ty,pos,after,guard⟩:=o
  have mapUp:∀(lt:TypeId) (m k x:Operand),(match ev t m,ev t k,ev t x with
    |some (.map id),some a,some b=>(match q6p P h lt id a b with|some h'=>some (q0w,h',nx)|none=>none)
    |_,_,_=>none)=some (r,h',nx')->nx<=nx'/\qfl P F I nx w (do Instr.mapUpdate lt (a.eval m) (a.eval k) (a.eval x);pure Next.skip) r h' nx':=λlt m k x e=>by
    split at e
    · rename_i hm hk hx
      split at e
      · rename_i h2 hp
        cases e
        have h1:=q00 ht hm
        generalize hv:a.eval m=v at h1
        cases h1 with
        | map hI=>
          obtain⟨w',g1,g2⟩:=qa5 (P:=P) hs hp hI (q00 ht hk) (q00 ht hx) nx
          exact⟨Nat.le_refl _,_,_,I,w',by simp[g1,Result.andThen], .inr ⟨rfl,rfl⟩,q0k I,g2⟩
      · cases e
    · cases e
  cases op with
  | store st x y=>
    simp only[sop]at e
    split at e
    · rename_i id off v hx hy
      split at e
      · rename_i h2 hp
        cases e
        have h1:=q00 ht hx
        generalize hv:a.eval x=xv at h1
        cases h1 with
        | ptr hI=>
          obtain⟨w',g1,g2⟩:=q7g (P:=P) hs hp hI (q00 ht hy) nx
          exact⟨Nat.le_refl _,_,_,I,w',by simp[execOp,Instr.storeAt,hv,Instr.sureAddr,g1,Result.andThen], .inr ⟨rfl,rfl⟩,q0k I,g2⟩
      · cases e
    · cases e
  |mapUpdate mt m k x=>exact mapUp mt m k x e
  |insert mt m k x=>exact mapUp mt m k x e
  | mapEntry mt m k=>
    simp only[sop]at e
    split at e
    · rename_i id v hm hk
      split at e
      · rename_i v2 h2 hp
        cases e
        have h1:=q00 ht hm
        generalize hv:a.eval m=mv at h1
        cases h1 with
        | map hI=>
          obtain⟨z,w',g1,g2,g3⟩:=q7e (P:=P) hs hp hI (q00 ht hk) nx
          exact⟨Nat.le_refl _,_,z,I,w',by simp[execOp,hv,g1,Result.andThen], .inl rfl,g2,g3⟩
      · cases e
    · cases e
  | entryStore mt m s x=>
    simp only[sop]at e
    split at e
    · rename_i id v1 v2 hm hk hx
      split at e
      · rename_i h2 hp
        cases e
        have h1:=q00 ht hm
        generalize hv:a.eval m=mv at h1
        cases h1 with
        | map hI=>
          obtain⟨w',g1,g2⟩:=q5o (P:=P) (t:=mt) hs hp hI (q00 ht hk) (q00 ht hx) nx
          exact⟨Nat.le_refl _,_,_,I,w',by simp[execOp,hv,g1,Result.andThen], .inr ⟨rfl,rfl⟩,q0k I,g2⟩
      · cases e
    · cases e
  | convert s d x=>
    simp only[sop]at e
    split at e
    · rename_i hsd
      have:=Nat.eq_of_beq_eq_true hsd;subst this
      split at e
      · rename_i av hx
        split at e
        · rename_i v0 h2 hp
          cases e
          obtain⟨z,w',g1,g2,g3⟩:=qea (P:=P) hs hp (q00 ht hx) nx
          exact⟨Nat.le_refl _,_,z,I,w',by simp[execOp,g1,Result.andThen], .inl rfl,g2,g3⟩
        · cases e
      · cases e
    · cases e
  | call c=>
    simp only[sop]at e
    split at e
    · rename_i hb
      split at e
      · rename_i d x hargs
        have hr:=q0z ht hargs
        obtain⟨v,u,hv,h1,h2⟩:=qim hr
        have hnx:nx<=nx':=q2n e
        obtain⟨z,I',w',g1,g2,g3⟩:=q4d (P:=P) (ty:=ty) hs hF e hfr h1 h2
        refine⟨hnx,_,z,I',w',?_, .inl rfl,g2,g3⟩
        have e2:c.args.map a.eval=⟨[v,u]⟩:=by apply Array.toList_inj.1;simpa using hv
        simp only[execOp,resolve,hb,Sem.run_bind,Sem.run_pure,Result.andThen,invoke,builtin]
        rw[e2]
        simp[g1]
      · cases e
    · rename_i hb
      split at e
      · rename_i d x hargs
        split at e
        · rename_i v0 h2 hp
          cases e
          have hr:=q0z ht hargs
          obtain⟨v,u,hv,h1,h3⟩:=qim hr
          obtain⟨z,w',g1,g2,g3⟩:=qe7 (P:=P) (ty:=ty) hs hp h1 h3 nx
          refine⟨Nat.le_refl _,_,z,I,w',?_, .inl rfl,g2,g3⟩
          have e2:c.args.map a.eval=⟨[v,u]⟩:=by apply Array.toList_inj.1;simpa using hv
          have e3:(⟨c.argTypes.toList⟩:Array TypeId)=c.argTypes:=rfl
          rw[e3]at g1
          simp only[execOp,resolve,hb,Sem.run_bind,Sem.run_pure,Result.andThen,invoke,builtin]
          rw[e2]
          simp[g1,Result.andThen]
        · cases e
      · cases e
    · rename_i hb
      split at e
      · rename_i l hargs
        split at e
        · rename_i v0 h2 hp
          cases e
          obtain⟨z,w',g1,g2,g3⟩:=qec (P:=P) (ty:=ty) hs hp (q0z ht hargs) nx
          refine⟨Nat.le_refl _,_,z,I,w',?_, .inl rfl,g2,g3⟩
          have e2:(⟨c.args.toList.map a.eval⟩:Array Value)=c.args.map a.eval:=by apply Array.toList_inj.1;simp
          rw[e2]at g1
          have e3:(⟨c.argTypes.toList⟩:Array TypeId)=c.argTypes:=rfl
          rw[e3]at g1
          simp only[execOp,resolve,hb,Sem.run_bind,Sem.run_pure,Result.andThen,invoke,builtin]
          simp[g1,Result.andThen]
        · cases e
      · cases e
    · cases e
  |_=>simp[sop]at e
def GOK(gl:T AV) (I:In):Prop:=∀n a,gl.get n=some a->q16<=n/\VR I a (.pointer (some ⟨n- q16,0,none⟩))
def GOK.mono{I J:In} (hl:I.le J) (h:GOK gl I):GOK gl J:=λn a e=>⟨(h n a e).1,(h n a e).2.mono hl⟩
structure St(gl:T AV) (F:Bool->Nat->Prop) (I:In) (t:T AV) (h:T AO) (n:Nat) (a:Act) (w:World):Prop where
 tr:TR I t a.tmps
 size:a.tmps.size=n
 defers:a.defers=[]
 sim:Sim F I h w
 low:∀b,F true b->b<w.heap.size
 gok:GOK gl I
 zf:∀b,F false b->F true b
def q2i(I:In) (nx nx':Nat):Prop:=∀i,nx<=i->i<nx'->I i=none
def qak(n:Nat) (dst:Option Tmp) (v:AV) (t:T AV):Option (T AV):=
 match dst with
 |none=>some t
 |some d=>if d<n then(if d<q16 then T.put 64 d (some v) t else none)else none
def q90 {I:In} {n:Nat} {dst:Option Tmp} {v:AV} {t t':T AV} {a:Act} {z:Value} (e:qak n dst v t=some t') (ht:TR I t a.tmps) (hn:a.tmps.size=n) (hv:VR I v z):TR I t' (a.put dst z).tmps/\(a.put dst z).tmps.size=n/\(a.put dst z).defers=a.defers:=by
  unfold qak at e
  cases dst with
  |none=>cases e;exact⟨ht,hn,rfl⟩
  | some d=>
    simp only at e
    split at e
    · rename_i hd
      split at e
      · rename_i hdg
        have hg:=T.get_put _ _ _ _ _ e
        refine⟨λk b hk=> ?_,by simp[Act.put,hn],rfl⟩
        rw[hg]at hk
        simp only[Act.put]
        split at hk
        · rename_i hkd;subst hkd;cases hk
          have:(a.tmps.setIfInBounds k z).getD k undef=z:=by
            rw[Array.getD_eq_getD_getElem?,Array.getElem?_setIfInBounds_self_of_lt (by rw[hn];exact hd)];rfl
          rw[q1d hdg,this];exact hv
        · rename_i hkd
          have h1:=ht k b hk
          unfold slot at h1⊢
          split
          · rename_i hkg
            rw[if_pos hkg]at h1
            have:(a.tmps.setIfInBounds d z).getD k undef=a.tmps.getD k undef:=by
              rw[Array.getD_eq_getD_getElem?,Array.getElem?_setIfInBounds_ne (by omega),←Array.getD_eq_getD_getElem?]
            rw[this];exact h1
          · rename_i hkg
            rw[if_neg hkg]at h1;exact h1
      · cases e
    · cases e
def q4f(t:T AV) (o:Oper):Option (Nat×List AV):=
  match o.op with
  | .call c=>match c.callee with
    | .value f=>match ev t f,evs t c.args.toList with
      |some (.fn g caps),some l=>some (g,l++caps)
      |some (.bfn g first caps),some l=>some (g,first++(l++caps))
      |_,_=>none
    |_=>none
  |_=>none
def q5u{P:Program} {I:In} {t:T AV} {o:Oper} {a:Act} {g:Nat} {l:List AV} (e:q4f t o=some (g,l)) (ht:TR I t a.tmps):∃vs,VRs I l vs/\∀w,(execOp a.eval o).run P w=(callFunc g ⟨vs⟩).run P w:=by
  obtain⟨dst,op,ty,pos,after,guard⟩:=o
  cases op with
  | call c=>
    simp only[q4f]at e
    split at e
    · rename_i f hc
      split at e
      · rename_i g caps l0 h1 h2
        cases e
        have r1:=q00 ht h1
        have r2:=q0z ht h2
        generalize hv:a.eval f=fv at r1
        cases r1 with
        | @fn _ _ cs hcs=>
          refine⟨c.args.toList.map a.eval++cs,r2.append hcs,λw=> ?_⟩
          simp only[execOp,resolve,hc,hv,Deferred.ofValue,Sem.run_bind,Sem.run_pure,Result.andThen,invoke]
          congr 2
          apply Array.toList_inj.1
          simp
      · rename_i g first caps l0 h1 h2
        cases e
        have r1:=q00 ht h1
        have r2:=q0z ht h2
        generalize hv:a.eval f=fv at r1
        cases r1 with
        | @bfn _ _ _ fs cs hfs hcs=>
          refine⟨fs++(c.args.toList.map a.eval++cs),hfs.append (r2.append hcs),λw=> ?_⟩
          simp only[execOp,resolve,hc,hv,Deferred.ofValue,Sem.run_bind,Sem.run_pure,Result.andThen,invoke]
          congr 2
          apply Array.toList_inj.1
          simp
      · cases e
    · cases e
  |_=>simp[q4f]at e
def first(a b:Option (AV×T AO×Nat)):Option (AV×T AO×Nat):=
 match a with
 |some r=>some r
 |none=>b
def qky(gl:T AV) (P:Program) (t:T AV) (h:T AO) (nx:Nat) (o:Oper) (r:AV) (h':T AO) (nx':Nat):Prop:=
 nx<=nx'/\∀(F:Bool->Nat->Prop) (I:In) (n:Nat) (a:Act) (w:World),St gl F I t h n a w->q2i I nx nx'->∀(K:Act->World->Prop) (Q:Exit->Act->World->Prop),
  (∀z I' w',VR I' r z->Grow F I nx w I' nx' h' w'->K (a.put o.dst z) w')->o.wp P a w K Q
def qmk {P:Program} {t:T AV} {h:T AO} {nx:Nat} {o:Oper} {r:AV} {h':T AO} {nx':Nat} (e:sop P t h nx o=some (r,h',nx')):qky gl P t h nx o r h' nx':=by
 have hle:nx<=nx'/\True:=by
  obtain⟨dst,op,ty,pos,after,guard⟩:=o
  refine⟨?_,trivial⟩
  unfold sop at e
  simp only at e
  split at e
  all_goals (try (cases e;done))
  case h_6=>
   split at e
   ·split at e
    ·split at e
     ·cases e;exact Nat.le_refl _
     ·cases e
    ·cases e
   ·cases e
  case h_7=>
   split at e
   ·split at e
    ·exact q2n e
    ·cases e
   ·split at e
    ·split at e
     ·cases e;exact Nat.le_refl _
     ·cases e
    ·cases e
   ·split at e
    ·split at e
     ·cases e;exact Nat.le_refl _
     ·cases e
    ·cases e
   ·cases e
  all_goals
   split at e
   ·split at e
    ·cases e;exact Nat.le_refl _
    ·cases e
   ·cases e
 refine⟨hle.1,λF I n a w st fr K Q hk=> ?_⟩
 obtain⟨_,nn,z,I',w',g1,g2,g3,g4⟩:=qgd e st.tr st.sim st.low fr
 unfold Oper.wp
 rw[g1]
 rcases g2 with rfl|⟨rfl,rfl⟩
 ·exact hk z I' w' g3 g4
 ·exact hk undef I' w' g3 g4
def Act.put_size(a:Act) (d:Option Tmp) (v:Value):(a.put d v).tmps.size=a.tmps.size:=by cases d<;>simp[Act.put]
inductive AX where
 |nrm
 |ex (id:Nat)
 |rt
def AX.is:AX->Exit->Prop
 | .nrm, .normal=>True
 | .ex i, .exit j=>i=j
 | .rt, .ret=>True
 |_,_=>False
def q0t(P:Program) (t:T AV) (h:T AO):List ResultVar->Option (List AV)
  | []=>some []
  | .tmp k::l=>match(if k<q16 then t.get k else none)with
    | some v=>match q0t P t h l with
      |some r=>some (v::r)
      |none=>none
    |none=>none
  | .cell k ty::l=>match(if k<q16 then t.get k else none)with
    | some (.ptr id off)=>match qbk P h ty id off with
      | some v=>match q0t P t h l with
        |some r=>some (v::r)
        |none=>none
      |none=>none
    |_=>none
def qd8:List AV->AV
 | [v]=>v
 |l=> .tup l
def q7p{α β:Type} {P:Program} {w:World} (f:α->Sem β):∀(l:List α) (r:List β),All2 (λx y=>(f x).run P w= .ok y w) l r->(l.mapM f).run P w= .ok r w
  | [],r,h=>by cases h;simp
  | x::l,r,h=>by
    cases h with
    |cons h1 h2=>simp[h1,q7p f l _ h2,Result.andThen]
variable {w:World}
def qae{α β:Type} {P:Program} (f:α->Sem β) (l:Array α) (r:List β) (h:All2 (λx y=>(f x).run P w= .ok y w) l.toList r):(l.mapM f).run P w= .ok ⟨r⟩ w:=by
 rw[Array.mapM_eq_mapM_toList]
 simp[q7p f l.toList r h,Result.andThen]
def q2p{P:Program} {F:Bool->Nat->Prop} {I:In} {t:T AV} {h:T AO} {n:Nat} {a:Act} {w:World} (st:St gl F I t h n a w):∀(l:List ResultVar) (r:List AV),q0t P t h l=some r->∃vs,VRs I r vs/\All2 (λ(x:ResultVar) y=>((match x with| .tmp t=>pure (a.tmps.getD t undef)| .cell k t=>do loadVar t (←asAddr (a.tmps.getD k undef))):Sem Value).run P w= .ok y w) l vs
  | [],r,e=>by simp[q0t]at e;subst e;exact⟨[], .nil, .nil⟩
  | .tmp k::l,r,e=>by
    simp only[q0t]at e
    split at e
    · rename_i v hv
      split at e
      · rename_i r2 hr
        cases e
        obtain⟨vs,h1,h2⟩:=q2p st l r2 hr
        split at hv
        case isFalse=>cases hv
        rename_i hkg
        have h3:=st.tr k v hv
        rw[q1d hkg]at h3
        exact⟨_, .cons h3 h1, .cons rfl h2⟩
      · cases e
    · cases e
  | .cell k ty::l,r,e=>by
    simp only[q0t]at e
    split at e
    · rename_i id off hk
      split at e
      · rename_i v hv
        split at e
        · rename_i r2 hr
          cases e
          obtain⟨vs,h1,h2⟩:=q2p st l r2 hr
          split at hk
          case isFalse=>cases hk
          rename_i hkg
          have h3:=st.tr k _ hk
          rw[q1d hkg]at h3
          generalize hz:a.tmps.getD k undef=z at h3
          cases h3 with
          | ptr hI=>
            obtain⟨y,g1,g2⟩:=q6o (P:=P) st.sim hv hI
            refine⟨_, .cons g2 h1, .cons ?_ h2⟩
            simp[hz,asAddr,g1,Result.andThen]
        · cases e
      · cases e
    · cases e
def q5d{P:Program} {F:Bool->Nat->Prop} {I:In} {t:T AV} {h:T AO} {n:Nat} {a:Act} (st:St gl F I t h n a w) {fn:Func} {r:List AV} (e:q0t P t h fn.results.toList=some r):∃v,(results fn a.tmps).run P w= .ok v w/\VR I (qd8 r) v:=by
  obtain⟨vs,h1,h2⟩:=q2p st _ _ e
  have h4:=qae _ _ _ h2
  refine⟨if h:(⟨vs⟩:Array Value).size=1 then(⟨vs⟩:Array Value)[0]else .tuple ⟨vs⟩,?_,?_⟩
  · unfold results
    rw[Sem.run_bind]
    have h5:=congrArg (λr=>Result.andThen r λ(vs:Array Value) w=>Sem.run P (pure (if h:vs.size=1 then vs[0]else .tuple vs)) w) h4
    exact h5
  · cases h1 with
    |nil=>exact .tup .nil
    | cons a b=>
      cases b with
      |nil=>exact a
      |cons c d=>exact .tup (.cons a (.cons c d))
def qac:List AV->Nat->T AV->Option (T AV)
  | [],_,t=>some t
  | a::l,k,t=>match T.put 64 k (some a) t with
    |some t'=>qac l (k+1) t'
    |none=>none
def q4z:∀(l:List AV) (k:Nat) (t t':T AV),qac l k t=some t'->∀j,t'.get j=if j<k then t.get j else if j<k+l.length then l[j- k]? else t.get j
  | [],k,t,t',e,j=>by simp[qac]at e;subst e;simp;intros;omega
  | a :: l, k,t,t',e,j=>by
    simp only[qac]at e
    split at e
    · rename_i t1 h1
      rw[q4z l (k+1) t1 t' e j,T.get_put _ _ _ _ _ h1]
      simp only[List.length_cons]
      by_cases h:j<k
      · rw[if_pos (by omega),if_neg (by omega),if_pos h]
      · rw [if_neg h]
        by_cases h2:j=k
        · subst h2;simp
        · rw[if_neg (by omega)]
          by_cases h3:j<k+(l.length+1)
          · rw[if_pos (by omega),if_pos h3]
            obtain⟨m,hm⟩:∃m,j- k=m+1:=⟨j- k- 1,by omega⟩
            rw[hm,List.getElem?_cons_succ];congr 1;omega
          · rw[if_neg (by omega),if_neg h3,if_neg h2]
    · cases e
inductive Kd where
 |q|r|a|s
 deriving DecidableEq
def isS(o:Oper):Bool:=match o.op with
  | .store .. | .mapUpdate .. | .insert .. | .mapEntry .. | .entryStore .. =>true
  | .convert s d _=>Nat.beq s d
  | .call c=>match c.callee with
    | .builtin .append=>true
    | .builtin .copy=>true
    | .builtin .unsafeString=>true
    | .builtin _=>false
    |_=>true
  |_=>false
def isA(P:Program) (o:Oper):Bool:=match o.op with
  | .alloc _| .box .. | .buildSlice .. | .makeMap .. | .makeSlice .. =>true
  | .convert _ d _=>match P.underlying d with
    |some (.slice _)=>true
    |_=>false
  |_=>false
def isR(o:Oper):Bool:=match o.op with
  | .load .. | .lookup .. | .convert .. =>true
  | .call c=>match c.callee with
    | .builtin .len=>true
    |_=>false
  |_=>false
def slotsOf(ops:Array Oper) (o:Oper):List Nat:=
  (o.op.operands.toList.filterMap λ| .tmp t=>some t| .global g=>some (q16+g)|_=>none)++
  (match o.guard with
   | some (g,_)=>match nth ops.toList g with
     | some og=>match og.dst with
       |some d=>[d]
       |none=>[]
     |none=>[]
   |none=>[])
def q72(t:T AV):List Nat->T AV->Option (T AV)
  | [],acc=>some acc
  | n ::l,acc=>match t.get n with
    | some a=>match T.put 64 n (some a) acc with
      |some acc'=>q72 t l acc'
      |none=>none
    |none=>q72 t l acc
def q73{t:T AV}:∀{l:List Nat} {acc r:T AV},q72 t l acc=some r->∀n a,r.get n=some a->acc.get n=some a\/n∈l/\t.get n=some a
  | [],acc,r,e,n,a,h=>by simp[q72]at e;subst e;exact .inl h
  | m ::l,acc,r,e,n,a,h=>by
    simp only[q72]at e
    split at e
    · rename_i b hb
      split at e
      · rename_i acc' hp
        rcases q73 e n a h with h1|⟨h1,h2⟩
        · rw[T.get_put _ _ _ _ _ hp]at h1
          split at h1
          · rename_i hn;subst hn;cases h1;exact .inr ⟨by simp,hb⟩
          · exact .inl h1
        · exact .inr ⟨by simp[h1],h2⟩
      · cases e
    · rcases q73 e n a h with h1|⟨h1,h2⟩
      · exact .inl h1
      · exact .inr ⟨by simp[h1],h2⟩
structure Rc where
 o:Oper
 w:Bool
 k:Kd
 t:T AV
 v:AV
 ob:Option AO
 nx:Nat
 h:T AO
def qfm(acc:List Nat) (i:Nat):List Edge->Nat->Option Nat
  | [],m=>some m
  | e ::l,m=>match Region.binds .any e with
    | true=>match Nat.blt e.on i with
      | true=>match nth acc e.on with
        |some k=>qfm acc i l (Nat.lor m (Nat.lor (Nat.pow 2 e.on) k))
        |none=>none
      |false=>none
    |false=>qfm acc i l m
def q8k:List Oper->Nat->List Nat->Option (List Nat)
  | [],_,acc=>some acc
  | o::l,i,acc=>match qfm acc i o.after.toList 0 with
    |some m=>q8k l (i+1) (acc++[m])
    |none=>none
def q8j (acc:List Nat) (i:Nat):∀(l:List Edge) (m r:Nat),qfm acc i l m=some r->∀j,r.testBit j=true->m.testBit j=true\/∃e∈l,Region.binds .any e=true/\e.on<i/\(j=e.on\/∃k,acc[e.on]? =some k/\k.testBit j=true)
  | [],m,r,h,j,hj=>by simp[qfm]at h;subst h;exact .inl hj
  | e :: l, m,r,h,j,hj=>by
    simp only[qfm]at h
    split at h
    · rename_i hb
      split at h
      · rename_i hlt
        split at h
        · rename_i k hk
          rcases q8j acc i l _ r h j hj with h1|⟨e',h1,h2⟩
          · have h1':(m||| (2 ^ e.on|||k)).testBit j=true:=h1
            rw[Nat.testBit_or,Nat.testBit_or,Bool.or_eq_true,Bool.or_eq_true]at h1'
            rcases h1' with h1|h1|h1
            · exact .inl h1
            · refine .inr ⟨e,by simp,hb,by simpa[Nat.blt_eq]using hlt, .inl ?_⟩
              rw[Nat.testBit_two_pow]at h1;simpa using(of_decide_eq_true h1).symm
            · exact .inr ⟨e,by simp,hb,by simpa[Nat.blt_eq]using hlt, .inr ⟨k,by rw[←q0q];exact hk,h1⟩⟩
          · exact .inr ⟨e',by simp[h1],h2⟩
        · cases h
      · cases h
    · rcases q8j acc i l m r h j hj with h1|⟨e',h1,h2⟩
      · exact .inl h1
      · exact .inr ⟨e',by simp[h1],h2⟩
def q3a:∀(l:List Oper) (i:Nat) (acc A:List Nat),acc.length=i->q8k l i acc=some A->A.length=i+l.length/\(∀k,k<i->A[k]? =acc[k]?)/\
    ∀k o,l[k]? =some o->∃m,A[i+k]? =some m/\∀j,m.testBit j=true->∃e∈o.after.toList,Region.binds .any e=true/\e.on<i+k/\(j=e.on\/∃q,A[e.on]? =some q/\q.testBit j=true)
  | [],i,acc,A,hl,h=>by simp[q8k]at h;subst h;exact⟨by simp[hl],λk _=>rfl,λk o h=>by simp at h⟩
  | o ::l,i,acc,A,hl,h=>by
    simp only[q8k]at h
    split at h
    · rename_i m hm
      obtain⟨h1,h2,h3⟩:=q3a l (i+1) (acc++[m]) A (by simp[hl]) h
      have pre:∀k,k<i->A[k]? =acc[k]? :=λk hk=>by rw[h2 k (by omega),List.getElem?_append_left (by omega)]
      refine⟨by rw[h1];simp;omega,pre,λk o' hk=> ?_⟩
      cases k with
      | zero=>
        simp at hk;subst hk
        refine⟨m,by rw[Nat.add_zero,h2 i (by omega),List.getElem?_append_right (by omega)];simp[hl],λj hj=> ?_⟩
        rcases q8j _ _ _ _ _ hm j hj with h4|⟨e,he,hb,hlt,h5⟩
        · simp at h4
        · refine⟨e,he,hb,by omega,h5.imp (λh=>h) λ⟨q,hq,hqj⟩=>⟨q,by rw[pre _ hlt];exact hq,hqj⟩⟩
      | succ k=>
        obtain⟨m',h4,h5⟩:=h3 k o' (by simpa using hk)
        refine⟨m',by rw[show i+(k+1)=i+1+k by omega];exact h4,λj hj=> ?_⟩
        obtain⟨e,he,hb,hlt,h6⟩:=h5 j hj
        exact⟨e,he,hb,by omega,h6⟩
    · cases h
def q5s(ops:Array Oper) (L:Nat->Prop):Prop:=∀i o,ops[i]? =some o->L i->∀e∈o.after,Region.binds .any e=true->L e.on
variable {ops:Array Oper} {A:List Nat}
def qaa(hA:q8k ops.toList 0 []=some A) {L:Nat->Prop} (hL:q5s ops L):∀(i:Nat) (o:Oper),ops[i]? =some o->(∀e∈o.after,Region.binds .any e=true->L e.on)->∀m j,A[i]? =some m->m.testBit j=true->L j:=by
  have hlen:=(q3a ops.toList 0 [] A rfl hA).1
  have h3:=(q3a ops.toList 0 [] A rfl hA).2.2
  intro i
  induction i using Nat.strongRecOn with
  | _ i ih=>
    intro o ho hr m j hm hj
    obtain⟨m',h4,h5⟩:=h3 i o (by simpa using ho)
    rw[Nat.zero_add]at h4
    rw[hm]at h4;cases h4
    obtain⟨e,he,hb,hlt,h6⟩:=h5 j hj
    have hin:e∈o.after:=by simpa using he
    have hLe:=hr e hin hb
    rcases h6 with rfl|⟨q,hq,hqj⟩
    · exact hLe
    · have helt:e.on<ops.size:=by
        have:=(List.getElem?_eq_some_iff.1 hq).1
        rw[hlen]at this;simpa using this
      obtain⟨oe,hoe⟩:∃oe,ops[e.on]? =some oe:=⟨_,Array.getElem?_eq_getElem helt⟩
      exact ih e.on (by omega) oe hoe (hL e.on oe hoe hLe) q j hq hqj
def qip(hA:q8k ops.toList 0 []=some A):∀(i:Nat) (m j:Nat),A[i]? =some m->m.testBit j=true->j<i:=by
  have hlen:=(q3a ops.toList 0 [] A rfl hA).1
  have h3:=(q3a ops.toList 0 [] A rfl hA).2.2
  intro i
  induction i using Nat.strongRecOn with
  | _ i ih=>
    intro m j hm hj
    have hi:i<ops.toList.length:=by
      have:=(List.getElem?_eq_some_iff.1 hm).1
      rw[hlen]at this;omega
    obtain⟨m',h4,h5⟩:=h3 i _ (List.getElem?_eq_getElem hi)
    rw[Nat.zero_add]at h4
    rw[hm]at h4;cases h4
    obtain⟨e,he,hb,hlt,h6⟩:=h5 j hj
    rcases h6 with rfl|⟨q,hq,hqj⟩
    · omega
    · have:=ih e.on (by omega) q j hq hqj;omega
def q4i(acc:List Nat) (i:Nat):∀(l:List Edge) (m r:Nat),qfm acc i l m=some r->∀e∈l,Region.binds .any e=true->e.on<i
  | [],m,r,h,e,he=>by cases he
  | e0 :: l,m,r,h,e,he=>by
    intro hb
    simp only[qfm]at h
    split at h
    · rename_i hb0
      split at h
      · rename_i hlt
        split at h
        · cases he with
          |head=>simpa[Nat.blt_eq]using hlt
          |tail _ he=>exact q4i acc i l _ r h e he hb
        · cases h
      · cases h
    · rename_i hb0
      cases he with
      |head=>rw[hb]at hb0;cases hb0
      |tail _ he=>exact q4i acc i l m r h e he hb
def q7f:∀(l:List Oper) (i:Nat) (acc A:List Nat),q8k l i acc=some A->∀k o,l[k]? =some o->∀e∈o.after.toList,Region.binds .any e=true->e.on<i+k
  | [],i,acc,A,h,k,o,hk=>by simp at hk
  | o0::l,i,acc,A,h,k,o,hk=>by
    simp only[q8k]at h
    split at h
    · rename_i m hm
      cases k with
      | zero=>
        simp at hk;subst hk
        exactλe he hb=>q4i _ _ _ _ _ hm e he hb
      | succ k=>
        intro e he hb
        have:=q7f l (i+1) _ A h k o (by simpa using hk) e he hb
        omega
    · cases h
def qh7(hA:q8k ops.toList 0 []=some A) {i:Nat} {o:Oper} (ho:ops[i]? =some o) {e:Edge} (he:e∈o.after) (hb:Region.binds .any e=true):e.on<i:=by
 have:=q7f ops.toList 0 [] A hA i o (by simpa using ho) e (by simpa using he) hb
 omega
def q1i(A:List Nat) (i j:Nat):Bool:=match nth A i with
 |some m=>Nat.testBit m j
 |none=>false
def q15(hA:q8k ops.toList 0 []=some A) {L:Nat->Prop} (hL:q5s ops L) {i:Nat} {o:Oper} (ho:ops[i]? =some o) (hr:∀e∈o.after,Region.binds .any e=true->L e.on) {j:Nat} (hb:q1i A i j=true):L j:=by
 unfold q1i at hb
 split at hb
 ·rename_i m hm
  exact qaa hA hL i o ho hr m j (by rw[←q0q];exact hm) hb
 ·cases hb
def qbt(hA:q8k ops.toList 0 []=some A) {i j:Nat} (hb:q1i A i j=true):j<i:=by
 unfold q1i at hb
 split at hb
 ·rename_i m hm
  exact qip hA i m j (by rw[←q0q];exact hm) hb
 ·cases hb
def q1g(n:Nat) (p:Nat->Bool):Bool:=match n with
  |0=>true
  | n+1=>match p n with
    |true=>q1g n p
    |false=>false
def q0c{p:Nat->Bool}:∀{n:Nat},q1g n p=true->∀i,i<n->p i=true
  |0,_,i,h=>by omega
  | n +1,h,i,hi=>by
    simp only[q1g]at h
    split at h
    · rename_i hp
      by_cases e:i=n
      · subst e;exact hp
      · exact q0c h i (by omega)
    · cases h
def q99{p:Nat->Bool}:∀{n:Nat},(∀i,i<n->p i=true)->q1g n p=true
  |0,_=>rfl
  | n+1,h=>by
    simp only[q1g]
    rw[h n (Nat.lt_succ_self n)]
    exact q99 λi hi=>h i (by omega)
def qej(l:List Oper) (i:Nat):Option Nat:=match nth l i with
 |some o=>o.dst
 |none=>none
def flag(f:Oper->Bool) (l:List Oper) (i:Nat):Bool:=match nth l i with
 |some o=>f o
 |none=>false
def eqO:Option Nat->Nat->Bool
 |some a,b=>Nat.beq a b
 |none,_=>false
abbrev q8b:=Option (Nat×Nat)
def qlj(pr:q8b) (i j:Nat):Bool:=match pr with
 |some (p,q)=>Nat.beq i q&&Nat.beq j p
 |none=>false
def qhb{pr:q8b} {i j:Nat} (h:qlj pr i j=true):pr=some (j,i):=by
 unfold qlj at h
 split at h
 ·simp only[Bool.and_eq_true]at h
  rw[Nat.eq_of_beq_eq_true h.1,Nat.eq_of_beq_eq_true h.2]
 ·cases h
def q6c(P:Program) (ops:Array Oper) (A:List Nat) (pr:q8b):Bool:=
  let l:=ops.toList
  let N:=l.length
  q1g N λi=>match nth l i with
    |none=>false
    | some o=>
      (match o.dst with
       |some d=>q1g N λj=>(Nat.beq i j)|| !(eqO (qej l j) d)
       |none=>true)&&
      ((slotsOf ops o).all fun τ=>q1g N λj=>(Nat.beq i j)|| !(eqO (qej l j) τ)||q1i A i j||q1i A j i)&&
      (!(isS o)||q1g i λj=> !(flag isS l j||flag (isA P) l j)||q1i A i j||qlj pr i j)
def q6x(l:List Oper) (i:Nat):Bool:=match nth l i with
  | some o=>match o.op with
    | .store .. =>true
    |_=>false
  |none=>false
def q9e(n:Nat) (p:Nat->Bool):Option Nat:=match n with
  |0=>none
  | n+1=>match p n with
    |true=>some n
    |false=>q9e n p
def qg4(P:Program) (ops:Array Oper) (A:List Nat):q8b:=
  let l:=ops.toList
  let bad:=λi j=>flag isS l i&&(flag isS l j||flag (isA P) l j)&& !(q1i A i j)
  match q9e l.length λi=>match q9e i (bad i)with|some _=>true|none=>false with
  | some i=>match q9e i (bad i)with
    |some j=>some (j,i)
    |none=>none
  |none=>none
def q45(P:Program) (ops:Array Oper) (A:List Nat) (p q:Nat):Bool:=
 let l:=ops.toList
 q6x l p&&q6x l q&&Nat.blt p q&&Nat.blt q l.length&&
 q1g l.length λk=>Nat.beq k p||Nat.beq k q|| !(flag isS l k||flag (isA P) l k||flag isR l k)|| (q1i A p k&&q1i A q k)
def qii(l:List Oper) (e:Nat):Bool:=match e with
 |0=>true
 |e+1=>flag isS l e
def q51(l:List Oper):Nat->Nat
  |0=>0
  | i+1=>match flag isS l i with
    |true=>i+1
    |false=>q51 l i
def other(l:List Oper) (A:List Nat) (i e:Nat):Bool:=
  qii l e&& !(Nat.beq e (q51 l i))&&
  (match e with
   |0=>true
   |e+1=> !(q1i A e i))&&
  q1g l.length λs=>Nat.blt s e|| !(flag isS l s)|| !(q1i A i s)
def others(l:List Oper) (A:List Nat) (i:Nat):List Nat:=(List.range (l.length+1)).filter (other l A i)
def eqK:IntKind->IntKind->Bool
 | .i8, .i8| .i16, .i16| .i32, .i32| .i64, .i64| .u8, .u8| .u16, .u16| .u32, .u32| .u64, .u64=>true
 |_,_=>false
def q3q{a b:IntKind} (h:eqK a b=true):a=b:=by cases a<;>cases b<;>first|rfl|cases h
def eqL:List Nat->List Nat->Bool
  | [],[]=>true
  | a::x,b::y=>match Nat.beq a b with
    |true=>eqL x y
    |false=>false
  |_,_=>false
def qfs:∀{a b:List Nat},eqL a b=true->a=b
  | [],[],_=>rfl
  | [],_::_,h=>by cases h
  |_::_,[],h=>by cases h
  | a::x,b::y,h=>by
    simp only[eqL]at h
    split at h
    · rename_i hb;rw[Nat.eq_of_beq_eq_true hb,qfs h]
    · cases h
def qkg:List (Int×Nat×Int×Int)->List (Int×Nat×Int×Int)->Bool
 | [],[]=>true
 | (a,b,c,d)::l,(a',b',c',d')::m=>eqI a a'&&(Nat.beq b b'&&(eqI c c'&&(eqI d d'&&qkg l m)))
 |_,_=>false
def qca:∀{a b:List (Int×Nat×Int×Int)},qkg a b=true->a=b
  | [],[],_=>rfl
  | [],_::_,h=>by cases h
  |_::_,[],h=>by cases h
  | (a,b,c,d)::l,(a',b',c',d')::m,h=>by
    simp only[qkg,Bool.and_eq_true]at h
    obtain⟨h1,h2,h3,h4,h5⟩:=h
    rw[q5q h1,Nat.eq_of_beq_eq_true h2,q5q h3,q5q h4,qca h5]
def eqA:AV->AV->Bool
 | .bool a, .bool b=>a==b
 | .int k a, .int j b=>eqK k j&&eqI a b
 | .str a, .str b=>eqL a b
 | .nilp, .nilp| .nsl, .nsl| .nmap, .nmap| .nilf, .nilf| .nili, .nili| .ifo, .ifo=>true
 | .ptr a b, .ptr c d=>Nat.beq a c&&Nat.beq b d
 | .sl a b c d, .sl e f g h=>Nat.beq a e&&Nat.beq b f&&Nat.beq c g&&Nat.beq d h
 | .gsl a b c d, .gsl e f g h=>Nat.beq a e&&Nat.beq b f&&Nat.beq c g&&Nat.beq d h
 | .map a, .map b=>Nat.beq a b
 | .anyi k, .anyi j=>eqK k j
 | .lin k c l, .lin j d m=>eqK k j&&(eqI c d&&qkg l m)
 | .ifc t (.ptr a b), .ifc u (.ptr c d)=>Nat.beq t u&&Nat.beq a c&&Nat.beq b d
 |_,_=>false
def qc9{a b:AV} (h:eqA a b=true):a=b:=by
 unfold eqA at h
 split at h
 all_goals (try (cases h;done))
 all_goals (try rfl)
 all_goals (try simp only[Bool.and_eq_true]at h)
 ·simp at h;rw[h]
 ·rw[q3q h.1];have:=h.2;rw[q9d]at this;rw[of_decide_eq_true this]
 ·rw[qfs h]
 ·rw[Nat.eq_of_beq_eq_true h.1,Nat.eq_of_beq_eq_true h.2]
 ·rw[Nat.eq_of_beq_eq_true h.1.1.1,Nat.eq_of_beq_eq_true h.1.1.2,Nat.eq_of_beq_eq_true h.1.2,Nat.eq_of_beq_eq_true h.2]
 ·rw[Nat.eq_of_beq_eq_true h.1.1.1,Nat.eq_of_beq_eq_true h.1.1.2,Nat.eq_of_beq_eq_true h.1.2,Nat.eq_of_beq_eq_true h.2]
 ·rw[Nat.eq_of_beq_eq_true h]
 ·rw[q3q h]
 ·rw[q3q h.1,q5q h.2.1,qca h.2.2]
 ·rw[Nat.eq_of_beq_eq_true h.1.1,Nat.eq_of_beq_eq_true h.1.2,Nat.eq_of_beq_eq_true h.2]
def qj2:List AV->List AV->Bool
  | [],[]=>true
  | a::x,b::y=>match eqA a b with
    |true=>qj2 x y
    |false=>false
  |_,_=>false
def q8o:∀{a b:List AV},qj2 a b=true->a=b
  | [],[],_=>rfl
  | [],_::_,h=>by cases h
  |_::_,[],h=>by cases h
  | a::x,b::y,h=>by
    simp only[qj2]at h
    split at h
    · rename_i hb;rw[qc9 hb,q8o h]
    · cases h
def qli:AV->AV->Bool
 | .agg x, .agg y=>qj2 x y
 | .tup x, .tup y=>qj2 x y
 |a,b=>eqA a b
def qh8{a b:AV} (h:qli a b=true):a=b:=by
 unfold qli at h
 split at h
 ·rw[q8o h]
 ·rw[q8o h]
 ·exact qc9 h
def q2m(rs:List Rc) (hN:T AO) (e:Nat):T AO:=match nth rs e with
 |some c=>c.h
 |none=>hN
def qm7:Option Nat->Option Nat->Bool
 |some a,some b=>Nat.beq a b
 |none,none=>true
 |_,_=>false
def qha{a b:Option Nat} (h:qm7 a b=true):a=b:=by
 cases a<;>cases b<;>first|rfl| (rw[Nat.eq_of_beq_eq_true h])|cases h
def cnt:Nat->(Nat->Bool)->Nat
 |0,_=>0
 |n+1,f=>cnt n f+(if f n=true then 1 else 0)
def qfr:∀n f,cnt n f<=n
 |0,_=>Nat.le_refl _
 |n+1,f=>by have:=qfr n f;simp only[cnt];split<;>omega
def qc2:∀n f,cnt n f=n->∀i,i<n->f i=true
  |0,_,_,i,h=>by omega
  | n +1,f,h,i,hi=>by
    have:=qfr n f
    simp only[cnt]at h
    split at h
    · rename_i hn
      by_cases e:i=n
      · subst e;exact hn
      · exact qc2 n f (by omega) i (by omega)
    · omega
def q6s:∀n f g,(∀j,j<n->f j=g j)->cnt n f=cnt n g
 |0,_,_,_=>rfl
 |n+1,f,g,h=>by simp only[cnt];rw[q6s n f g λj hj=>h j (by omega),h n (by omega)]
def qc3:∀n (f g:Nat->Bool) i,i<n->f i=false->g i=true->(∀j,j≠i->g j=f j)->cnt n g=cnt n f+1
  |0,_,_,i,h,_,_,_=>by omega
  | n +1,f,g,i,h,h1,h2,h3=>by
    simp only[cnt]
    by_cases e:i=n
    · subst e
      rw[q6s i g f λj hj=>h3 j (by omega),h1,h2];simp
    · rw[qc3 n f g i (by omega) h1 h2 h3,h3 n (λx=>e x.symm)];omega
def q9w{a:Act} {n d τ:Nat} {z:Value} (hn:a.tmps.size=n) (hd:d<n) (hg:d<q16):slot (a.put (some d) z).tmps τ=if τ=d then z else slot a.tmps τ:=by
 unfold slot
 simp only[Act.put]
 by_cases e:τ=d
 ·subst e
  rw[if_pos hg,if_pos rfl,Array.getD_eq_getD_getElem?,Array.getElem?_setIfInBounds_self_of_lt (by rw[hn];exact hd)];rfl
 ·rw[if_neg e]
  split
  ·rw[Array.getD_eq_getD_getElem?,Array.getElem?_setIfInBounds_ne (by omega),←Array.getD_eq_getD_getElem?]
  ·rfl
def q46{n d:Nat} {v:AV} {t t':T AV} (h:qak n (some d) v t=some t'):d<n/\d<q16/\∀τ,t'.get τ=if τ=d then some v else t.get τ:=by
 simp only[qak]at h
 split at h
 ·rename_i h1
  split at h
  ·rename_i h2;exact⟨h1,h2,T.get_put _ _ _ _ _ h⟩
  ·cases h
 ·cases h
def qdy{a b:Nat} (h:Nat.blt a b=true):a<b:=by simpa[Nat.blt_eq]using h
def qaj(j:Nat):List Nat->Nat
  | []=>0
  | i::l=>match Nat.beq i j with
    |true=>0
    |false=>qaj j l+1
def qg9(σ:List Nat) (e:Edge):Edge:={e with on:=qaj e.on σ}
def qam(σ:List Nat) (o:Oper):Oper:={o with after:=⟨o.after.toList.map (qg9 σ)⟩,guard:=match o.guard with|some (j,b)=>some (qaj j σ,b)|none=>none}
def q3m(l:List Oper) (σ:List Nat):List Nat->Option (List Oper)
  | []=>some []
  | i ::r=>match nth l i with
    | some o=>match q3m l σ r with
      |some x=>some (qam σ o::x)
      |none=>none
    |none=>none
def q3g(j:Nat):List Nat->Bool
 | []=>false
 |i::l=>Nat.beq i j||q3g j l
def q4q(n:Nat):List Edge->Bool
 | []=>true
 |e::l=>Nat.blt e.on n&&q4q n l
def q9r(l:List Oper) (σ:List Nat):Bool:=
 Nat.beq σ.length l.length&&q1g l.length λi=>
  (match nth σ (qaj i σ)with|some j=>Nat.beq j i|none=>false)&&
  (match nth σ i with|some j=>Nat.blt j l.length&&Nat.beq (qaj j σ) i|none=>false)&&
  (match nth l i with|some o=>q4q l.length o.after.toList&&(match o.guard with|some (j,_)=>Nat.blt j l.length|none=>true)|none=>false)
def q6e{l:List Oper} {σ:List Nat}:∀{r:List Nat} {x:List Oper},q3m l σ r=some x->x.length=r.length/\∀(k i:Nat),r[k]? =some i->∃o,l[i]? =some o/\x[k]? =some (qam σ o)
  | [],x,h=>by cases h;exact⟨rfl,λk i h=>by simp at h⟩
  | i ::r,x,h=>by
    simp only[q3m]at h
    split at h
    · rename_i o ho
      split at h
      · rename_i y hy
        cases h
        obtain⟨h1,h2⟩:=q6e hy
        refine⟨by simp[h1],λk j hk=> ?_⟩
        cases k with
        |zero=>simp at hk;subst hk;exact⟨o,by rw[←q0q];exact ho,rfl⟩
        |succ k=>simpa using h2 k j (by simpa using hk)
      · cases h
    · cases h
structure PermR(ops ops':Array Oper) (τ:Nat->Nat):Prop where
 size:ops'.size=ops.size
 lt:∀i,i<ops.size->τ i<ops.size
 inj:∀i j,i<ops.size->j<ops.size->τ i=τ j->i=j
 sur:∀k,k<ops.size->∃i,i<ops.size/\τ i=k
 op:∀i o,ops[i]? =some o->∃o',ops'[τ i]? =some o'/\(∀P a w K Q,o'.wp P a w K Q=o.wp P a w K Q)/\(∀P a w,o'.asks P a w=o.asks P a w)/\o'.dst=o.dst/\
  (∀l:Array Bool,∀l':Array Bool,(∀j,j<ops.size->∀d,l'.getD (τ j) d=l.getD j d)->(o'.after.all λe=> !Region.binds .any e||l'.getD e.on false)=(o.after.all λe=> !Region.binds .any e||l.getD e.on false))/\
  (∀j b,o.guard=some (j,b)->j<ops.size/\o'.guard=some (τ j,b))/\(o.guard=none->o'.guard=none)
def q3c{n:Nat}:∀{l:List Edge},q4q n l=true->∀e∈l,e.on<n
  | [],_,e,h=>by cases h
  | x::l,h,e,he=>by
    simp only[q4q,Bool.and_eq_true]at h
    cases he with
    |head=>exact qdy h.1
    |tail _ he=>exact q3c h.2 e he
def qge(σ:List Nat) (o:Oper):(∀P a w K Q,(qam σ o).wp P a w K Q=o.wp P a w K Q)/\(∀P a w,(qam σ o).asks P a w=o.asks P a w):=⟨λ_ _ _ _ _=>rfl,λ_ _ _=>rfl⟩
variable {ops:Array Oper}
def qd9{σ:List Nat} {x:List Oper} (h:q9r ops.toList σ=true) (hx:q3m ops.toList σ σ=some x):PermR ops ⟨x⟩ λi=>qaj i σ:=by
  unfold q9r at h
  rw[Bool.and_eq_true]at h
  obtain⟨h0,h⟩:=h
  have hl:σ.length=ops.size:=by have:=Nat.eq_of_beq_eq_true h0;simpa using this
  have hn:ops.toList.length=ops.size:=by simp
  rw[hn]at h
  have H:=q0c h
  obtain⟨x1,x2⟩:=q6e hx
  have key:∀i,i<ops.size->σ[qaj i σ]? =some i:=λi hi=>by
    have:=H i hi
    simp only[Bool.and_eq_true]at this
    have:=this.1.1
    split at this
    · rename_i j hj
      rw[q0q]at hj;rw[hj,Nat.eq_of_beq_eq_true this]
    · cases this
  have back:∀k,k<ops.size->∃j,σ[k]? =some j/\j<ops.size/\qaj j σ=k:=λk hk=>by
    have:=H k hk
    simp only[Bool.and_eq_true]at this
    have:=this.1.2
    split at this
    · rename_i j hj
      simp only[Bool.and_eq_true]at this
      rw[q0q]at hj
      exact⟨j,hj,qdy this.1,Nat.eq_of_beq_eq_true this.2⟩
    · cases this
  refine⟨by simpa[x1]using hl,λi hi=> ?_,λi j hi hj e=> ?_,λk hk=> ?_,λi o ho=> ?_⟩
  · have:=(List.getElem?_eq_some_iff.1 (key i hi)).1
    omega
  · have h1:=key i hi
    have h2:=key j hj
    have e:qaj i σ=qaj j σ:=e
    rw[e,h2]at h1;cases h1;rfl
  · obtain⟨j,h1,h2,h3⟩:=back k hk
    exact⟨j,h2,h3⟩
  · have hi:i<ops.size:=(Array.getElem?_eq_some_iff.1 ho).1
    obtain⟨o2,g1,g2⟩:=x2 _ _ (key i hi)
    have:o2=o:=by
      have:ops.toList[i]? =some o:=by simpa using ho
      rw[this]at g1;cases g1;rfl
    subst this
    have hw:=H i hi
    simp only[Bool.and_eq_true]at hw
    have hw:=hw.2
    have hnn:nth ops.toList i=some o2:=by rw[q0q];simpa using ho
    rw[hnn]at hw
    simp only[Bool.and_eq_true]at hw
    refine⟨qam σ o2,by simpa using g2,(qge σ o2).1,(qge σ o2).2,rfl,λl l' hll=> ?_,λj b hg=> ?_,λhg=> ?_⟩
    · have he:=q3c hw.1
      have:∀es:List Edge,(∀e∈es,e.on<ops.size)->((es.map (qg9 σ)).all λe=> !Region.binds .any e||l'.getD e.on false)=(es.all λe=> !Region.binds .any e||l.getD e.on false):=by
        intro es
        induction es with
        |nil=>intro _;rfl
        | cons e es ih=>
          intro hes
          rw[List.map_cons,List.all_cons,List.all_cons,ih λe he=>hes e (.tail _ he)]
          have h1:(qg9 σ e).on=qaj e.on σ:=rfl
          have h2:Region.binds .any (qg9 σ e)=Region.binds .any e:=rfl
          rw[h1,h2,hll e.on (hes e (.head _)) false]
      have h2:=this o2.after.toList (λe h=>he e h)
      rw[←Array.all_toList,←Array.all_toList]
      exact h2
    · have:=hw.2
      rw[hg]at this
      refine⟨qdy this,?_⟩
      unfold qam;rw[hg]
    · unfold qam;rw[hg]
variable {τ:Nat->Nat}
def PermR.yield{ops ops':Array Oper} (p:PermR ops ops' τ) (tmps:Array Value) {j:Nat} (hj:j<ops.size):yielded ops' tmps (τ j)=yielded ops tmps j:=by
 obtain⟨o',h1,_,_,h4,_⟩:=p.op j _ (Array.getElem?_eq_getElem hj)
 unfold yielded
 rw[h1,Array.getElem?_eq_getElem hj]
 simp only[Option.bind_some,h4]
def Lst(ops:Array Oper) (τ:Nat->Nat) (l l':Array Bool):Prop:=l.size=ops.size/\l'.size=ops.size/\∀j,j<ops.size->∀d,l'.getD (τ j) d=l.getD j d
def PermR.ready{ops ops':Array Oper} (p:PermR ops ops' τ) {l l':Array Bool} (h:Lst ops τ l l') {i:Nat} (hi:i<ops.size):τ i∈Region.ready .any ops' l'↔i∈Region.ready .any ops l:=by
 unfold Region.ready
 rw[List.mem_filter,List.mem_filter,List.mem_range,List.mem_range,p.size]
 obtain⟨o',h1,_,_,_,h5,_⟩:=p.op i _ (Array.getElem?_eq_getElem hi)
 rw[h.2.2 i hi true,h1,Array.getElem?_eq_getElem hi]
 simp only[Option.map_some,Option.getD_some]
 rw[h5 l l' h.2.2]
 simp[hi,p.lt i hi]
def q38{l:Array Bool} {i:Nat} (h:i∈Region.ready .any ops l):i<ops.size:=by
 unfold Region.ready at h
 rw[List.mem_filter,List.mem_range]at h
 exact h.1
def Lst.set{ops ops':Array Oper} (p:PermR ops ops' τ) {l l':Array Bool} (h:Lst ops τ l l') {i:Nat} (hi:i<ops.size):Lst ops τ (l.setIfInBounds i true) (l'.setIfInBounds (τ i) true):=by
 refine⟨by simp[h.1],by simp[h.2.1],λj hj d=> ?_⟩
 have e:=h.2.2 j hj d
 simp only[Array.getD_eq_getD_getElem?,Array.getElem?_setIfInBounds]at e⊢
 by_cases hij:i=j
 ·subst hij
  have:=p.lt i hi
  simp[h.1,h.2.1,hi,this]
 ·have:τ i≠τ j:=λe=>hij (p.inj i j hi hj e)
  rw[if_neg this,if_neg hij];exact e
def q6f{P:Program} {ops ops':Array Oper} (p:PermR ops ops' τ) {Q:Exit->Act->World->Prop}:∀(fuel:Nat) (l l':Array Bool) (a:Act) (w:World),Lst ops τ l l'->wpAny P .any ops' Q fuel l' a w->wpAny P .any ops Q fuel l a w:=by
  have empty:∀l l',Lst ops τ l l'->(Region.ready .any ops l=[]↔Region.ready .any ops' l'=[]):=λl l' h=>by
    constructor
    · intro e
      rw[List.eq_nil_iff_forall_not_mem]
      intro k hk
      have hlt:=q38 hk
      rw[p.size]at hlt
      obtain⟨i,hi,rfl⟩:=p.sur k hlt
      have:=(p.ready h hi).1 hk
      rw[e]at this;cases this
    · intro e
      rw[List.eq_nil_iff_forall_not_mem]
      intro i hi
      have:=(p.ready h (q38 hi)).2 hi
      rw[e]at this;cases this
  intro fuel
  induction fuel with
  | zero=>
    intro l l' a w hl h
    exact⟨(empty l l' hl).2 h.1,h.2⟩
  | succ fuel ih=>
    intro l l' a w hl h
    refine⟨λe=>h.1 ((empty l l' hl).1 e),λi hi=> ?_⟩
    have hlt:=q38 hi
    have h1:=h.2 (τ i) ((p.ready hl hlt).2 hi)
    have h2:=wpOp_mono (λa w=>ih (l.setIfInBounds i true) (l'.setIfInBounds (τ i) true) a w (hl.set p hlt)) h1
    obtain⟨o',g1,g2,g3,g4,g5,g6,g7⟩:=p.op i _ (Array.getElem?_eq_getElem hlt)
    unfold wpOp at h2⊢
    rw[g1]at h2
    rw[Array.getElem?_eq_getElem hlt]
    simp only at h2⊢
    have hw:Region.wanted o' (yielded ops' a.tmps)=Region.wanted ops[i] (yielded ops a.tmps):=by
      unfold Region.wanted
      cases hg:ops[i].guard with
      |none=>rw[g7 hg]
      | some x=>
        obtain⟨j,b⟩:=x
        obtain⟨q1,q2⟩:=g6 j b hg
        rw[q2]
        simp only
        rw[p.yield _ q1]
    rw[hw,g2,g3,g4]at h2
    exact h2
def qbg(A:List Nat) (i:Nat):List Nat->List Nat->List Nat
  | [],done=>done
  | j::l,done=>match q1i A i j&& !(q3g j done)with
    |true=>qbg A i l (done++[j])
    |false=>qbg A i l done
def q9q(A:List Nat) (l:List Oper) (all:List Nat):List Nat->List Nat->List Nat
  | [],done=>done
  | i ::r,done=>match nth l i with
    | some o=>match isS o&& !(q3g i done)with
      |true=>q9q A l all r (qbg A i all done++[i])
      |false=>q9q A l all r done
    |none=>q9q A l all r done
def qi3:List Nat->List Nat->List Nat
  | [],done=>done
  | j::l,done=>match q3g j done with
    |true=>qi3 l done
    |false=>qi3 l (done++[j])
def qf4(A:List Nat) (ops:Array Oper):List Nat:=qi3 (List.range ops.toList.length) (q9q A ops.toList (List.range ops.toList.length) (List.range ops.toList.length) [])
def qjt(A:List Nat) (ops:Array Oper):Option (Array Oper):=
  match q9r ops.toList (qf4 A ops)with
  | true=>match q3m ops.toList (qf4 A ops) (qf4 A ops)with
    |some x=>some ⟨x⟩
    |none=>none
  |false=>none
def onE(j:Nat):List Edge->Bool
 | []=>false
 |e::l=>(Region.binds .any e&&Nat.beq e.on j)||onE j l
def q4p(l:List Oper) (k j:Nat):Bool:=match nth l k with
 |some o=>onE j o.after.toList
 |none=>false
def qbm:Nat->(Nat->Bool)->Bool
 |0,_=>false
 |n+1,p=>p n||qbm n p
def q6q:∀{n:Nat} {p:Nat->Bool},qbm n p=true->∃k,k<n/\p k=true
  | n+1,p,h=>by
    unfold qbm at h
    rw[Bool.or_eq_true]at h
    rcases h with h|h
    · exact⟨n,by omega,h⟩
    · obtain⟨k,h1,h2⟩:=q6q h;exact⟨k,by omega,h2⟩
def q94(l:List Oper) (q:Nat):Bool:=
 Nat.blt q l.length&&
 (q1g l.length (λi=>match nth l i with|some o=>q4q i o.after.toList&&(match o.guard with|some (j,_)=>Nat.blt j i|none=>true)|none=>false)&&
 (q1g q (λj=>qbm (q+1) λk=>Nat.blt j k&&q4p l k j)&&
 q1g l.length (λi=>Nat.ble i q||q4p l i (i- 1))))
def qd6{j:Nat}:∀{l:List Edge},onE j l=true->∃e∈l,Region.binds .any e=true/\e.on=j
  | e::l,h=>by
    unfold onE at h
    rw[Bool.or_eq_true,Bool.and_eq_true]at h
    rcases h with h|h
    · exact⟨e,List.mem_cons_self,h.1,Nat.eq_of_beq_eq_true h.2⟩
    · obtain⟨e',h1,h2⟩:=qd6 h;exact⟨e',List.mem_cons_of_mem _ h1,h2⟩
structure SpR(ops:Array Oper) (q:Nat):Prop where
 lt:q<ops.size
 back:∀i (h:i<ops.size),(∀e∈ops[i].after,e.on<i)/\∀j b,ops[i].guard=some (j,b)->j<i
 succ:∀j,j<q->∃k,j<k/\k<=q/\∃(h:k<ops.size),∃e∈ops[k].after,Region.binds .any e=true/\e.on=j
 next:∀i (h:i<ops.size),q<i->∃e∈ops[i].after,Region.binds .any e=true/\e.on=i- 1
variable {ops:Array Oper}
def qfd{q:Nat} (h:q94 ops.toList q=true):SpR ops q:=by
 unfold q94 at h
 simp only[Bool.and_eq_true]at h
 obtain⟨h1,h2,h3,h4⟩:=h
 have hl:ops.toList.length=ops.size:=Array.length_toList
 have hq:q<ops.size:=by rw[←hl];exact qdy h1
 have at':∀i (hi:i<ops.size),nth ops.toList i=some ops[i]:=λi hi=>by rw[q0q];simp[hi]
 have edge:∀k j (hk:k<ops.size),q4p ops.toList k j=true->∃e∈ops[k].after,Region.binds .any e=true/\e.on=j:=λk j hk e=>by
  unfold q4p at e
  rw[at' k hk]at e
  obtain⟨x,e1,e2⟩:=qd6 e
  exact⟨x,Array.mem_toList_iff.1 e1,e2⟩
 refine⟨hq,λi hi=> ?_,λj hj=> ?_,λi hi hqi=> ?_⟩
 ·have:=q0c h2 i (by rw[hl];exact hi)
  rw[at' i hi]at this
  simp only[Bool.and_eq_true]at this
  refine⟨λe he=>q3c this.1 e (Array.mem_toList_iff.2 he),λj b hg=> ?_⟩
  have g:=this.2
  rw[hg]at g
  exact qdy g
 ·obtain⟨k,k1,k2⟩:=q6q (q0c h3 j hj)
  rw[Bool.and_eq_true]at k2
  have hk:k<ops.size:=by omega
  exact⟨k,qdy k2.1,by omega,hk,edge k j hk k2.2⟩
 ·have:=q0c h4 i (by rw[hl];exact hi)
  rw[Bool.or_eq_true]at this
  rcases this with h|h
  ·exact absurd (Nat.le_of_ble_eq_true h) (by omega)
  ·exact edge i (i- 1) hi h
structure Lq(ops:Array Oper) (l:Array Bool):Prop where
 size:l.size=ops.size
 down:∀i (h:i<ops.size),l.getD i true=true->∀e∈ops[i].after,Region.binds .any e=true->l.getD e.on false=true
variable {l:Array Bool}
def q0e{i:Nat}:i∈Region.ready .any ops l↔∃(h:i<ops.size),l.getD i true=false/\∀e∈ops[i].after,Region.binds .any e=true->l.getD e.on false=true:=by
 unfold Region.ready
 rw[List.mem_filter,List.mem_range]
 constructor
 ·rintro⟨h,h2⟩
  rw[Bool.and_eq_true,Bool.not_eq_true',Array.getElem?_eq_getElem h]at h2
  refine⟨h,h2.1,λe he hb=> ?_⟩
  have:=h2.2
  simp only[Option.map_some,Option.getD_some,Array.all_eq_true_iff_forall_mem]at this
  have:=this e he
  rw[hb]at this
  simpa using this
 ·rintro⟨h,h1,h2⟩
  refine⟨h,?_⟩
  rw[Bool.and_eq_true,Bool.not_eq_true',Array.getElem?_eq_getElem h]
  refine⟨h1,?_⟩
  simp only[Option.map_some,Option.getD_some,Array.all_eq_true_iff_forall_mem]
  intro e he
  cases hb:Region.binds .any e with
  |false=>rfl
  |true=>rw[h2 e he hb];rfl
def q1v{i:Nat} (h:i<l.size) (a b:Bool):l.getD i a=l.getD i b:=by simp[Array.getD_eq_getD_getElem?,h]
def q0d{i j:Nat} (hi:i<l.size) (d:Bool):(l.setIfInBounds i true).getD j d=if j=i then true else l.getD j d:=by
 rw[Array.getD_eq_getD_getElem?,Array.getElem?_setIfInBounds]
 by_cases h:i=j
 ·subst h;rw[if_pos rfl,if_pos hi,if_pos rfl];rfl
 ·rw[if_neg h,if_neg (λe=>h e.symm),Array.getD_eq_getD_getElem?]
def Lq.set(h:Lq ops l) {i:Nat} (hi:i∈Region.ready .any ops l):Lq ops (l.setIfInBounds i true):=by
 obtain⟨h1,h2,h3⟩:=q0e.1 hi
 have hs:i<l.size:=by rw[h.size];exact h1
 refine⟨by rw[Array.size_setIfInBounds,h.size],λk hk hl e he hb=> ?_⟩
 rw[q0d hs]at hl⊢
 by_cases he2:e.on=i
 ·rw[if_pos he2]
 ·rw[if_neg he2]
  by_cases hki:k=i
  ·subst hki;exact h3 e he hb
  ·rw[if_neg hki]at hl;exact h.down k hk hl e he hb
def q78{o:Oper} {P:Program} {a:Act} {w:World} {K:Act->World->Prop} {Q Q':Exit->Act->World->Prop} (h:∀e a w,e≠ .normal->Q' e a w->Q e a w) (hh:o.wp P a w K Q'):o.wp P a w K Q:=by
  have lets:LetsOut Q'->LetsOut Q:=λ⟨a,w,h2⟩=>⟨a,w,h _ _ _ (by simp) h2⟩
  unfold Oper.wp at*
  generalize (execOp a.eval o).run P w=r at*
  cases r with
  | ok n w'=>
    cases n<;>simp only[Oper.upon]at hh⊢<;>
      first
        |exact hh
        |exact Calls.mono hh (λe w'' he=>by cases e<;>first|exact he|exact h _ _ _ (by simp) he|exact lets he)
  |halt x w'=>cases x<;>simp only[Oper.upon]at hh⊢<;>first|exact h _ _ _ (by simp) hh|exact hh|exact lets hh
def q9y{P:Program} {ops:Array Oper} {q:Nat} (s:SpR ops q) {Q:Exit->Act->World->Prop}:∀(m k:Nat) (l:Array Bool) (fuel:Nat) (a:Act) (w:World),k+m=ops.size->q<=k->m<=fuel->Lq ops l->(∀i,i<ops.size->∀d,l.getD i d=decide (i<k))->wpOps P ops Q (List.range' k m) a w->wpAny P .any ops Q fuel l a w
  | 0,k,l,fuel,a,w,hk,hq,hf,hl,hd,h=>by
    have e:Region.ready .any ops l=[]:=by
      rw[List.eq_nil_iff_forall_not_mem]
      intro i hi
      obtain⟨h1,h2,_⟩:=q0e.1 hi
      rw[hd i h1]at h2
      exact absurd (of_decide_eq_false h2) (by omega)
    cases fuel with
    |zero=>exact⟨e,h⟩
    |succ f=>exact⟨λ_=>h,λi hi=>by rw[e]at hi;cases hi⟩
  |m+1,k,l,0,a,w,hk,hq,hf,hl,hd,h=>absurd hf (by omega)
  | m + 1,k,l,f+1,a,w,hk,hq,hf,hl,hd,h=>by
    have hks:k<ops.size:=by omega
    have hr:k∈Region.ready .any ops l:=q0e.2 ⟨hks,by rw[hd k hks];exact decide_eq_false (by omega),λe he _=>by
      have:=(s.back k hks).1 e he
      rw[hd e.on (by omega)];exact decide_eq_true this⟩
    refine⟨λe=>(by rw[e]at hr;cases hr),λi hi=> ?_⟩
    obtain⟨h1,h2,h3⟩:=q0e.1 hi
    rw[hd i h1]at h2
    have hik:=of_decide_eq_false h2
    have:i=k:=by
      by_cases e:i=k
      · exact e
      · obtain⟨x,hx,hb,ho⟩:=s.next i h1 (by omega)
        have:=h3 x hx hb
        rw[ho,hd (i- 1) (by omega)]at this
        exact absurd (of_decide_eq_true this) (by omega)
    subst this
    rw[List.range'_succ,wpOps_cons]at h
    refine wpOp_mono (λa w h=>q9y s m (i+1) _ f a w (by omega) (by omega) (by omega) (hl.set hr) (λj hj d=> ?_) h) h
    rw[q0d (by rw[hl.size];exact h1)]
    by_cases e:j=i
    · rw[if_pos e];exact(decide_eq_true (by omega)).symm
    · rw[if_neg e,hd j hj]
      by_cases g:j<i
      · rw[decide_eq_true g,decide_eq_true (by omega)]
      · rw[decide_eq_false g,decide_eq_false (by omega)]
def q13(ops:Array Oper) (q:Nat):Array Oper:=⟨ops.toList.take q⟩
def q1u{q:Nat} (h:q<ops.size):(q13 ops q).size=q:=by
 show(ops.toList.take q).length=q
 rw[List.length_take,Array.length_toList];omega
def q0p{q i:Nat} (h:q<ops.size) (hi:i<q):(q13 ops q)[i]? =some (ops[i]'(by omega)):=by
 unfold q13
 have e:∀l:List Oper,(⟨l⟩:Array Oper)[i]? =l[i]? :=λl=>by simp
 rw[e,List.getElem?_take,if_pos hi,Array.getElem?_toList,Array.getElem?_eq_getElem (by omega)]
def qdp{P:Program} {ops:Array Oper} {q:Nat} (s:SpR ops q) {Q Q':Exit->Act->World->Prop} (hn:∀a w,Q' .normal a w->wpOps P ops Q (List.range' q (ops.size- q)) a w) (ho:∀e a w,e≠ .normal->Q' e a w->Q e a w):∀(fuel:Nat) (l l':Array Bool) (a:Act) (w:World),Lq ops l->(∀i,q<=i->i<ops.size->∀d,l.getD i d=false)->l'.size=q->(∀i,i<q->∀d,l'.getD i d=l.getD i d)->wpAny P .any (q13 ops q) Q' fuel l' a w->wpAny P .any ops Q (fuel+(ops.size- q)) l a w:=by
  have hs:=q1u s.lt
  have rd:∀{l l':Array Bool},(∀i,i<q->∀d,l'.getD i d=l.getD i d)->∀i,i∈Region.ready .any (q13 ops q) l'↔i<q/\i∈Region.ready .any ops l:=λ{l l'} hll i=>by
    rw[q0e,q0e]
    constructor
    · rintro⟨h1,h2,h3⟩
      have hi:i<q:=by rw[hs]at h1;exact h1
      have hg:(q13 ops q)[i]=ops[i]'(by have:=s.lt;omega):=by
        have:=q0p s.lt hi
        rw[Array.getElem?_eq_getElem h1]at this
        exact Option.some.inj this
      rw[hg]at h3
      refine⟨hi,by have:=s.lt;omega,by rw[←hll i hi];exact h2,λe he hb=> ?_⟩
      have:=(s.back i (by have:=s.lt;omega)).1 e he
      rw[←hll e.on (by omega)];exact h3 e he hb
    · rintro⟨hi,h1,h2,h3⟩
      have h1':i<(q13 ops q).size:=by rw[hs];exact hi
      have hg:(q13 ops q)[i]=ops[i]'h1:=by
        have:=q0p s.lt hi
        rw[Array.getElem?_eq_getElem h1']at this
        exact Option.some.inj this
      refine⟨h1',by rw[hll i hi];exact h2,λe he hb=> ?_⟩
      rw[hg]at he
      have:=(s.back i h1).1 e he
      rw[hll e.on (by omega)];exact h3 e he hb
  have prog :∀{l:Array Bool},Lq ops l->(∀i,i<q->l.getD i true=true)\/∃i,i<q/\i∈Region.ready .any ops l:=λ{l} hl=>by
    have step:∀m:Nat,m<=q->(∀i,i<m->l.getD i true=true)\/∃i,i<q/\i∈Region.ready .any ops l:=λm=>by
      induction m with
      |zero=>intro _;exact .inl λi h=>absurd h (by omega)
      | succ m ih=>
        intro hm
        rcases ih (by omega)with h|h
        · have hms:m<ops.size:=by have:=s.lt;omega
          cases hb:l.getD m true with
          | true=>
            refine .inl λi hi=> ?_
            by_cases e:i=m
            · rw[e];exact hb
            · exact h i (by omega)
          | false=>
            refine .inr ⟨m,by omega,q0e.2 ⟨hms,hb,λe he _=> ?_⟩⟩
            have:=(s.back m hms).1 e he
            rw[q1v (by rw[hl.size];omega) false true]
            exact h e.on this
        · exact .inr h
    exact step q (Nat.le_refl _)
  have only:∀{l:Array Bool},Lq ops l->(∀i,q<=i->i<ops.size->∀d,l.getD i d=false)->∀i,q<=i->i∈Region.ready .any ops l->∀j,j<q->l.getD j true=true:=λ{l} hl hz i hqi hi=>by
    obtain⟨h1,h2,h3⟩:=q0e.1 hi
    have hiq:i=q:=by
      by_cases e:i=q
      · exact e
      · obtain⟨x,hx,hb,ho'⟩:=s.next i h1 (by omega)
        have:=h3 x hx hb
        rw[ho',hz (i- 1) (by omega) (by omega)]at this
        cases this
    subst hiq
    have down:∀d j,i- j<=d->j<i->l.getD j true=true:=λd=>by
      induction d with
      |zero=>intro j h4 h5;omega
      | succ d ih=>
        intro j h4 h5
        obtain⟨k,k1,k2,hk,e,he,hb,hon⟩:=s.succ j h5
        rw[q1v (by rw[hl.size];omega) true false,←hon]
        by_cases hki:k=i
        · subst hki;exact h3 e he hb
        · exact hl.down k hk (ih k (by omega) (by omega)) e he hb
    exactλj hj=>down i j (by omega) hj
  have fin:∀(l:Array Bool) (fuel:Nat) (a:Act) (w:World),ops.size- q<=fuel->Lq ops l->(∀i,q<=i->i<ops.size->∀d,l.getD i d=false)->(∀i,i<q->l.getD i true=true)->Q' .normal a w->wpAny P .any ops Q fuel l a w:=λl fuel a w hf hl hz hd h=>by
    refine q9y s (ops.size- q) q l fuel a w (by have:=s.lt;omega) (Nat.le_refl _) hf hl (λi hi d=> ?_) (hn a w h)
    by_cases hiq:i<q
    · rw[decide_eq_true hiq,q1v (by rw[hl.size];exact hi) d true];exact hd i hiq
    · rw[decide_eq_false hiq];exact hz i (by omega) hi d
  intro fuel
  induction fuel with
  | zero=>
    intro l l' a w hl hz hs' hll h
    refine fin l _ a w (by omega) hl hz ?_ h.2
    rcases prog hl with hd|⟨i,hi,hr⟩
    · exact hd
    · have:=(rd hll i).2 ⟨hi,hr⟩
      rw[h.1]at this;cases this
  | succ fuel ih=>
    intro l l' a w hl hz hs' hll h
    rcases prog hl with hd|⟨i,hi,hr⟩
    · refine fin l _ a w (by omega) hl hz hd (h.1 ?_)
      rw[List.eq_nil_iff_forall_not_mem]
      intro i hi
      obtain⟨hiq,hi2⟩:=(rd hll i).1 hi
      obtain⟨_,h2,_⟩:=q0e.1 hi2
      rw[hd i hiq]at h2;cases h2
    · rw [show fuel+1+(ops.size- q)=(fuel+(ops.size- q))+1 by omega]
      refine⟨λe=>(by rw[e]at hr;cases hr),λk hk=> ?_⟩
      have hkq:k<q:=by
        by_cases hkq:k<q
        · exact hkq
        · obtain⟨_,h2,_⟩:=q0e.1 hr
          rw[only hl hz k (by omega) hk i hi]at h2;cases h2
      have hks:k<ops.size:=by have:=s.lt;omega
      have h1:=h.2 k ((rd hll k).2 ⟨hkq,hk⟩)
      have h2:=wpOp_mono (λa w h=>ih (l.setIfInBounds k true) (l'.setIfInBounds k true) a w (hl.set hk) (λj hj hjs d=>by rw[q0d (by rw[hl.size];exact hks),if_neg (by omega)];exact hz j hj hjs d) (by rw[Array.size_setIfInBounds];exact hs') (λj hj d=>by rw[q0d (l:=l') (by rw[hs'];exact hkq),q0d (l:=l) (by rw[hl.size];exact hks),hll j hj d]) h) h1
      unfold wpOp at h2⊢
      rw[q0p s.lt hkq]at h2
      rw[Array.getElem?_eq_getElem hks]
      simp only at h2⊢
      have hw:Region.wanted ops[k] (yielded (q13 ops q) a.tmps)=Region.wanted ops[k] (yielded ops a.tmps):=by
        unfold Region.wanted
        cases hg:ops[k].guard with
        |none=>rfl
        | some x=>
          obtain⟨j,b⟩:=x
          have hj:=(s.back k hks).2 j b hg
          simp only
          unfold yielded
          rw[q0p s.lt (show j<q by omega),Array.getElem?_eq_getElem (by omega)]
      rw[hw]at h2
      split
      · rename_i hwt
        rw[if_pos hwt]at h2
        exact h2.imp (q78 ho) λh=>⟨h.1,h.2.elim λa h=>h.elim λw h=>⟨a,w,ho _ _ _ (by simp) h⟩⟩
      · rename_i hwt
        rw[if_neg hwt]at h2;exact h2
def qfh(o:Oper) (i:Nat):Oper:={o with after:=⟨{on:=i,ground:= .data}::o.after.toList⟩}
def qbc:List Oper->Nat->Nat->List Oper
  | [],_,_=>[]
  | o::l,j,i=>match j with
    |0=>qfh o i::l
    |j+1=>o::qbc l j i
def q87(ops:Array Oper) (j i:Nat):Array Oper:=⟨qbc ops.toList j i⟩
def q96:∀(l:List Oper) (j i k:Nat),(qbc l j i)[k]? =if k=j then(l[k]?).map (qfh · i)else l[k]?
  | [],j,i,k=>by simp[qbc]
  | o::l,0,i,k=>by
    cases k with
    |zero=>simp[qbc]
    |succ k=>simp[qbc]
  | o ::l,j+1,i,k=>by
    cases k with
    |zero=>simp[qbc]
    | succ k=>
      simp only[qbc,List.getElem?_cons_succ,q96 l j i k]
      by_cases h:k=j
      · rw[if_pos h,if_pos (by omega)]
      · rw[if_neg h,if_neg (by omega)]
def q97:∀(l:List Oper) (j i:Nat),(qbc l j i).length=l.length
 | [],j,i=>rfl
 |o::l,0,i=>rfl
 |o::l,j+1,i=>by simp[qbc,q97 l j i]
def qbb(ops:Array Oper) (j i:Nat):(q87 ops j i).size=ops.size:=by
 show(qbc ops.toList j i).length=_
 rw[q97,Array.length_toList]
def q3v(ops:Array Oper) (j i k:Nat):(q87 ops j i)[k]? =if k=j then(ops[k]?).map (qfh · i)else ops[k]? :=by
 unfold q87
 have e:∀l:List Oper,(⟨l⟩:Array Oper)[k]? =l[k]? :=λl=>by simp
 rw[e,q96,Array.getElem?_toList]
variable {ops:Array Oper} {l:Array Bool}
def q42{i:Nat}:i∈Region.ready .any ops l↔∃o,ops[i]? =some o/\l.getD i true=false/\∀e∈o.after,Region.binds .any e=true->l.getD e.on false=true:=by
 rw[q0e]
 constructor
 ·rintro⟨h,h1,h2⟩;exact⟨ops[i],Array.getElem?_eq_getElem h,h1,h2⟩
 ·rintro⟨o,h,h1,h2⟩
  obtain⟨hi,rfl⟩:=Array.getElem?_eq_some_iff.1 h
  exact⟨hi,h1,h2⟩
def q10{j i:Nat} {k:Nat}:k∈Region.ready .any (q87 ops j i) l↔k∈Region.ready .any ops l/\(k=j->l.getD i false=true):=by
  rw[q42,q42]
  constructor
  · rintro⟨o,h,h1,h2⟩
    rw[q3v]at h
    by_cases hk:k=j
    · rw [if_pos hk]at h
      cases ho:ops[k]? with
      |none=>rw[ho]at h;cases h
      | some o'=>
        rw[ho]at h;cases h
        refine⟨⟨o',rfl,h1,λe he hb=>h2 e ?_ hb⟩,λ_=>h2 {on:=i,ground:= .data} ?_ rfl⟩
        · show e∈(⟨_::o'.after.toList⟩:Array Edge)
          simp;exact .inr he
        · show _∈(⟨_::o'.after.toList⟩:Array Edge)
          simp
    · rw[if_neg hk]at h
      exact⟨⟨o,h,h1,h2⟩,λe=>absurd e hk⟩
  · rintro⟨⟨o,h,h1,h2⟩,h3⟩
    rw[q3v]
    by_cases hk:k=j
    · rw[if_pos hk,h]
      refine⟨qfh o i,rfl,h1,λe he hb=> ?_⟩
      have he:e∈(⟨{on:=i,ground:= .data}::o.after.toList⟩:Array Edge):=he
      simp at he
      rcases he with rfl|he
      · exact h3 hk
      · exact h2 e he hb
    · rw[if_neg hk];exact⟨o,h,h1,h2⟩
def q83(ops:Array Oper) (j i:Nat) (tmps:Array Value) (k:Nat):yielded (q87 ops j i) tmps k=yielded ops tmps k:=by
 unfold yielded
 rw[q3v]
 by_cases hk:k=j
 ·rw[if_pos hk];cases ops[k]? <;>rfl
 ·rw[if_neg hk]
variable {Q:Exit->Act->World->Prop} {a:Act} {w:World}
def qdw{P:Program} {j i:Nat} {k:Nat} {K:Act->World->Prop}:wpOp P (q87 ops j i) Q k K a w↔wpOp P ops Q k K a w:=by
  have hw:∀o,Region.wanted o (yielded (q87 ops j i) a.tmps)=Region.wanted o (yielded ops a.tmps):=λo=>by
    rw[show yielded (q87 ops j i) a.tmps=yielded ops a.tmps from funext (q83 ops j i a.tmps)]
  unfold wpOp
  rw[q3v]
  by_cases hk:k=j
  · rw[if_pos hk]
    cases ops[k]? with
    |none=>exact Iff.rfl
    | some o=>
      simp only[Option.map_some,hw]
      exact Iff.rfl
  · rw[if_neg hk]
    cases ops[k]? with
    |none=>exact Iff.rfl
    |some o=>simp only[hw]
def qch{i k:Nat} (h:l.getD i false=true):(l.setIfInBounds k true).getD i false=true:=by
 by_cases hk:k<l.size
 ·rw[q0d hk];split
  ·rfl
  ·exact h
 ·rw[Array.setIfInBounds_eq_of_size_le (by omega)];exact h
inductive OrdO(ops:Array Oper):Nat->Array Bool->List Nat->Prop
 |zero (l:Array Bool):OrdO ops 0 l []
 |stop {f:Nat} {l:Array Bool} (h:Region.ready .any ops l=[]):OrdO ops (f+1) l []
 |step {f:Nat} {l:Array Bool} {k:Nat} {r:List Nat} (h:k∈Region.ready .any ops l) (t:OrdO ops f (l.setIfInBounds k true) r):OrdO ops (f+1) l (k::r)
def qht(ops:Array Oper):∀(f t:Nat) (l:Array Bool),OrdO ops f l (Region.linearise.go .any ops f t l []):=by
  intro f
  induction f with
  |zero=>intro t l;exact .zero l
  | succ f ih=>
    intro t l
    simp only[Region.linearise.go]
    change OrdO ops (f+1) l (match(Region.ready .any ops l)[t % (Region.ready .any ops l).length]? with
      |some i=>Region.linearise.go .any ops f (t / (Region.ready .any ops l).length) (l.setIfInBounds i true) [i]
      |none=>[].reverse)
    cases hi:(Region.ready .any ops l)[t % (Region.ready .any ops l).length]? with
    | none=>
      refine .stop ?_
      cases hr:Region.ready .any ops l with
      |nil=>rfl
      | cons x xs=>
        rw[hr]at hi
        have hlt:t % (x::xs).length<(x::xs).length:=Nat.mod_lt _ (by simp)
        simp at hi
        simp at hlt
        omega
    | some i=>
      simp only[]
      rw[linearise_go_acc,List.reverse_singleton,List.singleton_append]
      exact .step (List.mem_of_getElem? hi) (ih _ _)
def qdv{P:Program}:∀{f:Nat} {l:Array Bool} {r:List Nat},OrdO ops f l r->∀{a:Act} {w:World},wpAny P .any ops Q f l a w->wpOps P ops Q r a w:=by
  intro f l r h
  induction h with
  |zero l=>intro a w h;exact h.2
  |stop e=>intro a w h;exact h.1 e
  | step hk t ih=>
    intro a w h
    rw[wpOps_cons]
    exact wpOp_mono (λa w h=>ih h) (h.2 _ hk)
def q9p{j i:Nat}:∀{f:Nat} {l:Array Bool} {r:List Nat},OrdO ops f l r->l.getD i false=true->OrdO (q87 ops j i) f l r:=by
  intro f l r h
  induction h with
  |zero l=>intro _;exact .zero l
  | stop e=>
    intro _
    refine .stop ?_
    rw[List.eq_nil_iff_forall_not_mem]
    intro k hk
    have:=(q10.1 hk).1
    rw[e]at this;cases this
  |step hk t ih=>intro hi;exact .step (q10.2 ⟨hk,λ_=>hi⟩) (ih (qch hi))
def qhu{ops:Array Oper} {i j:Nat} (hij:i≠j):∀{f:Nat} {l:Array Bool} {r:List Nat},OrdO ops f l r->l.size=ops.size->OrdO (q87 ops j i) f l r\/OrdO (q87 ops i j) f l r:=by
  intro f l r h
  induction h with
  |zero l=>intro _;exact .inl (.zero l)
  | stop e=>
    intro _
    refine .inl (.stop ?_)
    rw[List.eq_nil_iff_forall_not_mem]
    intro k hk
    have:=(q10.1 hk).1
    rw[e]at this;cases this
  | @step f l k r hk t ih=>
    intro hs
    have hlt:k<l.size:=by rw[hs];exact q38 hk
    have hset:(l.setIfInBounds k true).getD k false=true:=by rw[q0d hlt,if_pos rfl]
    by_cases hj:k=j
    · subst hj
      exact .inr (.step (q10.2 ⟨hk,λe=>absurd e.symm hij⟩) (q9p t hset))
    · by_cases hi:k=i
      · subst hi
        exact .inl (.step (q10.2 ⟨hk,λe=>absurd e hj⟩) (q9p t hset))
      · rcases ih (by rw[Array.size_setIfInBounds];exact hs)with h|h
        · exact .inl (.step (q10.2 ⟨hk,λe=>absurd e hj⟩) h)
        · exact .inr (.step (q10.2 ⟨hk,λe=>absurd e hi⟩) h)
def q2h{P:Program} {ops:Array Oper} {j i:Nat} {Q:Exit->Act->World->Prop}:∀{r:List Nat} {a:Act} {w:World},wpOps P (q87 ops j i) Q r a w↔wpOps P ops Q r a w
  | [],a,w=>Iff.rfl
  | k::r,a,w=>by
    rw[wpOps_cons,wpOps_cons,qdw]
    constructor
    · exact wpOp_mono λa w h=>q2h.1 h
    · exact wpOp_mono λa w h=>q2h.2 h
def q88(P:Program) (ops:Array Oper) (Q:Exit->Act->World->Prop) (a:Act) (w:World):Prop:=∀r,OrdO ops ops.size (Array.replicate ops.size false) r->wpOps P ops Q r a w
def q88.of{P:Program} (h:wpAny P .any ops Q ops.size (Array.replicate ops.size false) a w):q88 P ops Q a w:=λr hr=>qdv hr h
def q88.two{P:Program} {i j:Nat} (hij:i≠j) (h1:q88 P (q87 ops j i) Q a w) (h2:q88 P (q87 ops i j) Q a w):q88 P ops Q a w:=λr hr=>by
 unfold q88 at h1 h2
 rw[qbb]at h1 h2
 rcases qhu hij hr (by simp)with h|h
 ·exact q2h.1 (h1 r h)
 ·exact q2h.1 (h2 r h)
def q79{P:Program} {id:Nat} (hm:P.follows .mixedOrders=true) (h:q88 P ops Q a {w with drawn:=w.drawn+1}):(Code.region id ops true).wp P Q a w:=
 wp_region_draw λt=>by
  simp only[Region.schedule,hm,Bool.true_or,if_true]
  exact h _ (qht ops ops.size t _)
def qj5(f:Nat):List Nat->Array Oper->(Array Oper->Prop)->Prop
  | [],ops,K=>K ops
  | c::l,ops,K=>match Nat.beq c f with
    |true=>False
    |false=>K (q87 ops c f)/\qj5 f l (q87 ops f c) K
def q8r{P:Program} {Q:Exit->Act->World->Prop} {a:Act} {w:World} {f:Nat}:∀{cs:List Nat} {ops:Array Oper} {K:Array Oper->Prop},qj5 f cs ops K->(∀ops',K ops'->q88 P ops' Q a w)->q88 P ops Q a w
  | [],ops,K,e,h=>h _ e
  | c ::l,ops,K,e,h=>by
    simp only[qj5]at e
    split at e
    · exact e.elim
    · rename_i hb
      have hne:f≠c:=λx=>by subst x;simp at hb
      exact q88.two hne (h _ e.1) (q8r e.2 h)
def qls:List Edge->List Nat->List Nat
  | [],acc=>acc
  | e::l,acc=>match Region.binds .any e with
    |true=>e.on::qls l acc
    |false=>qls l acc
def q9t(ops:List Oper):Nat->List Nat->List Nat->List Nat
  |0,_,acc=>acc
  | n + 1,todo,acc=>match todo with
    | []=>acc
    | i ::todo=>match q3g i acc with
      |true=>q9t ops n todo acc
      | false=>match nth ops i with
        |some o=>q9t ops n (qls o.after.toList todo) (i::acc)
        |none=>q9t ops n todo (i::acc)
def inE:List Edge->List Nat->Bool
 | [],_=>true
 |e::l,acc=>(Bool.not (Region.binds .any e)||q3g e.on acc)&&inE l acc
def qf5(ops:List Oper) (acc:List Nat):List Nat->Option Nat
  | []=>none
  | i ::l=>match q3g i acc with
    |true=>qf5 ops acc l
    | false=>match nth ops i with
      | some o=>match inE o.after.toList acc with
        |true=>some i
        |false=>qf5 ops acc l
      |none=>qf5 ops acc l
def qk6(ops:List Oper) (cand:List Nat):Nat->List Nat->List Nat->List Nat
  |0,_,r=>r
  | n+1,acc,r=>match qf5 ops acc cand with
    |some i=>qk6 ops cand n (i::acc) (r++[i])
    |none=>r
def qcf(q:Nat) (m:List Nat):List Nat->List Nat
  | []=>[]
  | i::l=>match q3g i m&&Bool.not (Nat.beq i q)with
    |true=>i::qcf q m l
    |false=>qcf q m l
def qgy(f:Nat):List Nat->List Nat
  | []=>[f]
  | i::l=>match Nat.beq i f with
    |true=>qgy f l
    |false=>i::qgy f l
def qmo(ops:List Oper) (q f:Nat):List Nat×Nat:=match qcf q (q9t ops 2000 [q] []) (List.range ops.length)with
 |fr=>(qk6 ops (qgy f (List.range ops.length)) ops.length (q::fr) (fr++[q]),fr.length)
def qlt(ops:Array Oper) (q f:Nat):Option (Array Oper×Nat):=match qmo ops.toList q f with
  | (σ,m)=>match q9r ops.toList σ with
    | true=>match q3m ops.toList σ σ with
      |some x=>some (⟨x⟩,m)
      |none=>none
    |false=>none
def qhs{P:Program} {ops ops':Array Oper} {q f m:Nat} (e:qlt ops q f=some (ops',m)) (h:wpAny P .any ops' Q ops'.size (Array.replicate ops'.size false) a w):q88 P ops Q a w:=by
 unfold qlt at e
 split at e
 rename_i σ m' _
 split at e
 ·rename_i hok
  split at e
  ·rename_i x hx
   cases e
   have p:=qd9 hok hx
   have hs:(⟨x⟩:Array Oper).size=ops.size:=p.size
   rw[hs]at h
   refine q88.of (q6f p ops.size _ (Array.replicate ops.size false) a _ ⟨by simp,by simp,λj hj d=> ?_⟩ h)
   have hlt:qaj j σ<ops.size:=p.lt j hj
   have e1:∀i,i<ops.size->(Array.replicate ops.size false).getD i d=false:=λi hi=>by simp[Array.getD_eq_getD_getElem?,hi]
   exact(e1 _ hlt).trans (e1 j hj).symm
  ·cases e
 ·cases e
def qfb(m:Nat):List Edge->List Edge
  | []=>[]
  | e::l=>match Nat.ble m e.on with
    |true=>{e with on:=e.on- m}::qfb m l
    |false=>qfb m l
def shO(m:Nat) (o:Oper):Oper:={o with after:=⟨qfb m o.after.toList⟩,guard:=match o.guard with|some (j,b)=>some (j- m,b)|none=>none}
def qk4(m:Nat):List Oper->List Oper
 | []=>[]
 |o::l=>shO m o::qk4 m l
def q7b(ops:Array Oper) (m:Nat):Array Oper:=⟨qk4 m (ops.toList.drop m)⟩
def q75(m:Nat):∀l,qk4 m l=l.map (shO m)
 | []=>rfl
 |o::l=>by rw[qk4,q75 m l];rfl
def q4a(ops:Array Oper) (m k:Nat):(q7b ops m)[k]? =(ops[m+k]?).map (shO m):=by
 unfold q7b
 have e:∀l:List Oper,(⟨l⟩:Array Oper)[k]? =l[k]? :=λl=>by simp
 rw[e,q75,List.getElem?_map,List.getElem?_drop,Array.getElem?_toList]
def qdq(ops:Array Oper) (m:Nat):(q7b ops m).size=ops.size- m:=by
 show(qk4 m (ops.toList.drop m)).length=_
 rw[q75,List.length_map,List.length_drop,Array.length_toList]
def q47{m:Nat}:∀{l:List Edge} {e:Edge},e∈qfb m l↔∃x∈l,m<=x.on/\e={x with on:=x.on- m}
  | [],e=>by simp[qfb]
  | x ::l,e=>by
    unfold qfb
    split
    · rename_i h
      have h:=Nat.le_of_ble_eq_true h
      rw[List.mem_cons,q47]
      constructor
      · rintro(rfl|⟨y,h1,h2⟩)
        · exact⟨x,List.mem_cons_self,h,rfl⟩
        · exact⟨y,List.mem_cons_of_mem _ h1,h2⟩
      · rintro⟨y,h1,h2,h3⟩
        rcases List.mem_cons.1 h1 with rfl|h1
        · exact .inl h3
        · exact .inr ⟨y,h1,h2,h3⟩
    · rename_i h
      have h:¬m<=x.on:=λg=>by rw[Nat.ble_eq_true_of_le g]at h;cases h
      rw[q47]
      constructor
      · rintro⟨y,h1,h2⟩;exact⟨y,List.mem_cons_of_mem _ h1,h2⟩
      · rintro⟨y,h1,h2,h3⟩
        rcases List.mem_cons.1 h1 with rfl|h1
        · exact absurd h2 h
        · exact⟨y,h1,h2,h3⟩
def qi9{P:Program} {m:Nat} (hgd:∀i (h:i<ops.size),m<=i->∀j b,ops[i].guard=some (j,b)->m<=j) {Q:Exit->Act->World->Prop}:∀(g f:Nat) (l l':Array Bool) (a:Act) (w:World),g<=f->l.size=ops.size->(∀i,i<m->l.getD i true=true)->(∀k,m+k<ops.size->∀d,l'.getD k d=l.getD (m+k) d)->l'.size=ops.size- m->wpAny P .any (q7b ops m) Q g l' a w->wpAny P .any ops Q f l a w:=by
  have rd :∀{l l':Array Bool},l.size=ops.size->(∀i,i<m->l.getD i true=true)->(∀k,m+k<ops.size->∀d,l'.getD k d=l.getD (m+k) d)->l'.size=ops.size- m->∀i,i∈Region.ready .any ops l↔m<=i/\(i- m)∈Region.ready .any (q7b ops m) l':=λ{l l'} hs hd hll hs' i=>by
    rw[q42,q42]
    constructor
    · rintro⟨o,h,h1,h2⟩
      have hlt:i<ops.size:=(Array.getElem?_eq_some_iff.1 h).1
      have hm:m<=i:=Nat.le_of_not_lt λx=>by rw[hd i x]at h1;cases h1
      refine⟨hm,shO m o,by rw[q4a,show m+(i- m)=i by omega,h];rfl,by rw[hll (i- m) (by omega),show m+(i- m)=i by omega];exact h1,λe he hb=> ?_⟩
      have he:e∈(⟨qfb m o.after.toList⟩:Array Edge):=he
      obtain⟨x,x1,x2,rfl⟩:=q47.1 (by simpa using he)
      have:=h2 x (by simpa using x1) hb
      show l'.getD (x.on- m) false=true
      by_cases hx:x.on<ops.size
      · rw[hll (x.on- m) (by omega),show m+(x.on- m)=x.on by omega];exact this
      · rw[Array.getD_eq_getD_getElem?,Array.getElem?_eq_none (by omega)]at this;cases this
    · rintro⟨hm,o',h,h1,h2⟩
      rw[q4a,show m+(i- m)=i by omega]at h
      cases ho:ops[i]? with
      |none=>rw[ho]at h;cases h
      | some o=>
        rw[ho]at h;cases h
        have hlt:i<ops.size:=(Array.getElem?_eq_some_iff.1 ho).1
        refine⟨o,rfl,by rw[hll (i- m) (by omega),show m+(i- m)=i by omega]at h1;exact h1,λe he hb=> ?_⟩
        by_cases hx:e.on<m
        · have:=hd e.on hx
          rw[q1v (by omega) false true];exact this
        · have hmem:({e with on:=e.on- m}:Edge)∈qfb m o.after.toList:=q47.2 ⟨e,by simpa using he,by omega,rfl⟩
          have:=h2 {e with on:=e.on- m} (by show _∈(⟨qfb m o.after.toList⟩:Array Edge);simpa using hmem) hb
          have:l'.getD (e.on- m) false=true:=this
          by_cases hx2:e.on<ops.size
          · rw[hll (e.on- m) (by omega),show m+(e.on- m)=e.on by omega]at this;exact this
          · rw[Array.getD_eq_getD_getElem?,Array.getElem?_eq_none (by omega)]at this;cases this
  have nil:∀{l l':Array Bool},l.size=ops.size->(∀i,i<m->l.getD i true=true)->(∀k,m+k<ops.size->∀d,l'.getD k d=l.getD (m+k) d)->l'.size=ops.size- m->(Region.ready .any ops l=[]↔Region.ready .any (q7b ops m) l'=[]):=λ{l l'} hs hd hll hs'=>by
    rw[List.eq_nil_iff_forall_not_mem,List.eq_nil_iff_forall_not_mem]
    constructor
    · intro h k hk;exact h (m+k) ((rd hs hd hll hs' (m+k)).2 ⟨by omega,by rw[show m+k- m=k by omega];exact hk⟩)
    · intro h i hi;exact h _ ((rd hs hd hll hs' i).1 hi).2
  intro g
  induction g with
  | zero=>
    intro f l l' a w hgf hs hd hll hs' h
    have e:=(nil hs hd hll hs').2 h.1
    cases f with
    |zero=>exact⟨e,h.2⟩
    |succ f=>exact⟨λ_=>h.2,λi hi=>by rw[e]at hi;cases hi⟩
  | succ g ih=>
    intro f l l' a w hgf hs hd hll hs' h
    obtain⟨f,rfl⟩:∃n,f=n+1:=⟨f- 1,by omega⟩
    refine⟨λe=>h.1 ((nil hs hd hll hs').1 e),λi hi=> ?_⟩
    obtain⟨hm,hr⟩:=(rd hs hd hll hs' i).1 hi
    have hlt:i<ops.size:=q38 hi
    have h1:=h.2 (i- m) hr
    have h2:=wpOp_mono (λa w h=>ih f (l.setIfInBounds i true) (l'.setIfInBounds (i- m) true) a w (by omega) (by rw[Array.size_setIfInBounds];exact hs) (λj hj=>by rw[q0d (by omega),if_neg (by omega)];exact hd j hj) (λk hk d=>by
      rw[q0d (l:=l') (by omega),q0d (l:=l) (by omega)]
      by_cases e:k=i- m
      · rw[if_pos e,if_pos (by omega)]
      · rw[if_neg e,if_neg (by omega)];exact hll k hk d) (by rw[Array.size_setIfInBounds];exact hs') h) h1
    unfold wpOp at h2⊢
    rw[q4a,show m+(i- m)=i by omega,Array.getElem?_eq_getElem hlt]at h2
    rw[Array.getElem?_eq_getElem hlt]
    simp only[Option.map_some]at h2⊢
    have hy:∀j,m<=j->yielded (q7b ops m) a.tmps (j- m)=yielded ops a.tmps j:=λj hj=>by
      unfold yielded
      rw[q4a,show m+(j- m)=j by omega]
      cases ops[j]? <;>rfl
    have hw:Region.wanted (shO m ops[i]) (yielded (q7b ops m) a.tmps)=Region.wanted ops[i] (yielded ops a.tmps):=by
      have hgi:=hgd i hlt hm
      unfold Region.wanted shO
      cases hg:ops[i].guard with
      |none=>rfl
      | some x=>
        obtain⟨j,b⟩:=x
        simp only
        rw[hy j (hgi j b hg)]
    rw[hw]at h2
    exact h2
structure SpX(ops:Array Oper) (q:Nat):Prop where
 lt:q<ops.size
 back:∀i (h:i<ops.size),(∀e∈ops[i].after,Region.binds .any e=true->e.on<i)/\∀j b,ops[i].guard=some (j,b)->j<i
 succ:∀j,j<q->∃k,j<k/\k<=q/\∃(h:k<ops.size),∃e∈ops[k].after,Region.binds .any e=true/\e.on=j
 next:∀i (h:i<ops.size),q<i->∃e∈ops[i].after,Region.binds .any e=true/\q<=e.on
 gd:∀i (h:i<ops.size),q+1<=i->∀j b,ops[i].guard=some (j,b)->q+1<=j
def q9c(n:Nat):List Edge->Bool
 | []=>true
 |e::l=>(Bool.not (Region.binds .any e)||Nat.blt e.on n)&&q9c n l
def q7k{n:Nat}:∀{l:List Edge},q9c n l=true->∀e∈l,Region.binds .any e=true->e.on<n
  | [],_,e,h,_=>by cases h
  | x ::l,h,e,he,hb=>by
    simp only[q9c,Bool.and_eq_true,Bool.or_eq_true]at h
    rcases List.mem_cons.1 he with rfl|he
    · rcases h.1 with h1|h1
      · rw[hb]at h1;cases h1
      · exact qdy h1
    · exact q7k h.2 e he hb
def qkq(q:Nat):List Edge->Bool
 | []=>false
 |e::l=>(Region.binds .any e&&Nat.ble q e.on)||qkq q l
def qd7{q:Nat}:∀{l:List Edge},qkq q l=true->∃e∈l,Region.binds .any e=true/\q<=e.on
  | e::l,h=>by
    unfold qkq at h
    rw[Bool.or_eq_true,Bool.and_eq_true]at h
    rcases h with h|h
    · exact⟨e,List.mem_cons_self,h.1,Nat.le_of_ble_eq_true h.2⟩
    · obtain⟨e',h1,h2⟩:=qd7 h;exact⟨e',List.mem_cons_of_mem _ h1,h2⟩
def qdn(l:List Oper) (q:Nat):Bool:=
 Nat.blt q l.length&&
 (q1g l.length (λi=>match nth l i with|some o=>q9c i o.after.toList&&(match o.guard with|some (j,_)=>Nat.blt j i|none=>true)|none=>false)&&
 (q1g q (λj=>qbm (q+1) λk=>Nat.blt j k&&q4p l k j)&&
 q1g l.length (λi=>Nat.ble i q|| (match nth l i with|some o=>qkq q o.after.toList&&(match o.guard with|some (j,_)=>Nat.ble (q+1) j|none=>true)|none=>false))))
def qdo{q:Nat} (h:qdn ops.toList q=true):SpX ops q:=by
 unfold qdn at h
 simp only[Bool.and_eq_true]at h
 obtain⟨h1,h2,h3,h4⟩:=h
 have hl:ops.toList.length=ops.size:=Array.length_toList
 have hq:q<ops.size:=by rw[←hl];exact qdy h1
 have at':∀i (hi:i<ops.size),nth ops.toList i=some ops[i]:=λi hi=>by rw[q0q];simp[hi]
 have edge:∀k j (hk:k<ops.size),q4p ops.toList k j=true->∃e∈ops[k].after,Region.binds .any e=true/\e.on=j:=λk j hk e=>by
  unfold q4p at e
  rw[at' k hk]at e
  obtain⟨x,e1,e2⟩:=qd6 e
  exact⟨x,Array.mem_toList_iff.1 e1,e2⟩
 have late:∀i (hi:i<ops.size),q<i->(∃e∈ops[i].after,Region.binds .any e=true/\q<=e.on)/\∀j b,ops[i].guard=some (j,b)->q+1<=j:=λi hi hqi=>by
  have:=q0c h4 i (by rw[hl];exact hi)
  rw[at' i hi]at this
  simp only[Bool.or_eq_true,Bool.and_eq_true]at this
  rcases this with g|⟨g1,g2⟩
  ·have:=Nat.le_of_ble_eq_true g;omega
  ·obtain⟨x,e1,e2⟩:=qd7 g1
   refine⟨⟨x,Array.mem_toList_iff.1 e1,e2⟩,λj b hg=> ?_⟩
   rw[hg]at g2
   exact Nat.le_of_ble_eq_true g2
 refine⟨hq,λi hi=> ?_,λj hj=> ?_,λi hi hqi=>(late i hi hqi).1,λi hi hqi=>(late i hi (by omega)).2⟩
 ·have:=q0c h2 i (by rw[hl];exact hi)
  rw[at' i hi]at this
  simp only[Bool.and_eq_true]at this
  refine⟨λe he hb=>q7k this.1 e (Array.mem_toList_iff.2 he) hb,λj b hg=> ?_⟩
  have g:=this.2
  rw[hg]at g
  exact qdy g
 ·have:=q0c h3 j hj
  obtain⟨k,k1,k2⟩:=q6q this
  rw[Bool.and_eq_true]at k2
  have hk:k<ops.size:=by omega
  exact⟨k,qdy k2.1,by omega,hk,edge k j hk k2.2⟩
def qas{P:Program} {ops:Array Oper} {q:Nat} (s:SpX ops q) {Q Q':Exit->Act->World->Prop} (hn:∀a w,Q' .normal a w->wpOp P ops Q q (wpAny P .any (q7b ops (q+1)) Q (ops.size- q- 1) (Array.replicate (ops.size- q- 1) false)) a w) (ho:∀e a w,e≠ .normal->Q' e a w->Q e a w):∀(fuel:Nat) (l l':Array Bool) (a:Act) (w:World),Lq ops l->(∀i,q<=i->i<ops.size->∀d,l.getD i d=false)->l'.size=q->(∀i,i<q->∀d,l'.getD i d=l.getD i d)->wpAny P .any (q13 ops q) Q' fuel l' a w->wpAny P .any ops Q (fuel+(ops.size- q)) l a w:=by
  have hs:=q1u s.lt
  have rd:∀{l l':Array Bool},(∀i,i<q->∀d,l'.getD i d=l.getD i d)->∀i,i∈Region.ready .any (q13 ops q) l'↔i<q/\i∈Region.ready .any ops l:=λ{l l'} hll i=>by
    rw[q0e,q0e]
    constructor
    · rintro⟨h1,h2,h3⟩
      have hi:i<q:=by rw[hs]at h1;exact h1
      have hg:(q13 ops q)[i]=ops[i]'(by have:=s.lt;omega):=by
        have:=q0p s.lt hi
        rw[Array.getElem?_eq_getElem h1]at this
        exact Option.some.inj this
      rw[hg]at h3
      refine⟨hi,by have:=s.lt;omega,by rw[←hll i hi];exact h2,λe he hb=> ?_⟩
      have:=(s.back i (by have:=s.lt;omega)).1 e he hb
      rw[←hll e.on (by omega)];exact h3 e he hb
    · rintro⟨hi,h1,h2,h3⟩
      have h1':i<(q13 ops q).size:=by rw[hs];exact hi
      have hg:(q13 ops q)[i]=ops[i]'h1:=by
        have:=q0p s.lt hi
        rw[Array.getElem?_eq_getElem h1']at this
        exact Option.some.inj this
      refine⟨h1',by rw[hll i hi];exact h2,λe he hb=> ?_⟩
      rw[hg]at he
      have:=(s.back i h1).1 e he hb
      rw[hll e.on (by omega)];exact h3 e he hb
  have prog :∀{l:Array Bool},Lq ops l->(∀i,i<q->l.getD i true=true)\/∃i,i<q/\i∈Region.ready .any ops l:=λ{l} hl=>by
    have step:∀m:Nat,m<=q->(∀i,i<m->l.getD i true=true)\/∃i,i<q/\i∈Region.ready .any ops l:=λm=>by
      induction m with
      |zero=>intro _;exact .inl λi h=>absurd h (by omega)
      | succ m ih=>
        intro hm
        rcases ih (by omega)with h|h
        · have hms:m<ops.size:=by have:=s.lt;omega
          cases hb:l.getD m true with
          | true=>
            refine .inl λi hi=> ?_
            by_cases e:i=m
            · rw[e];exact hb
            · exact h i (by omega)
          | false=>
            refine .inr ⟨m,by omega,q0e.2 ⟨hms,hb,λe he hbb=> ?_⟩⟩
            have:=(s.back m hms).1 e he hbb
            rw[q1v (by rw[hl.size];omega) false true]
            exact h e.on this
        · exact .inr h
    exact step q (Nat.le_refl _)
  have only:∀{l:Array Bool},Lq ops l->(∀i,q<=i->i<ops.size->∀d,l.getD i d=false)->∀i,q<=i->i∈Region.ready .any ops l->∀j,j<q->l.getD j true=true:=λ{l} hl hz i hqi hi=>by
    obtain⟨h1,h2,h3⟩:=q0e.1 hi
    have hiq:i=q:=by
      by_cases e:i=q
      · exact e
      · obtain⟨x,hx,hb,ho'⟩:=s.next i h1 (by omega)
        have:=h3 x hx hb
        have hxi:=(s.back i h1).1 x hx hb
        rw[hz x.on ho' (by omega)]at this
        cases this
    subst hiq
    have down:∀d j,i- j<=d->j<i->l.getD j true=true:=λd=>by
      induction d with
      |zero=>intro j h4 h5;omega
      | succ d ih=>
        intro j h4 h5
        obtain⟨k,k1,k2,hk,e,he,hb,hon⟩:=s.succ j h5
        rw[q1v (by rw[hl.size];omega) true false,←hon]
        by_cases hki:k=i
        · subst hki;exact h3 e he hb
        · exact hl.down k hk (ih k (by omega) (by omega)) e he hb
    exactλj hj=>down i j (by omega) hj
  have fin:∀(l:Array Bool) (fuel:Nat) (a:Act) (w:World),ops.size- q<=fuel->Lq ops l->(∀i,q<=i->i<ops.size->∀d,l.getD i d=false)->(∀i,i<q->l.getD i true=true)->Q' .normal a w->wpAny P .any ops Q fuel l a w:=λl fuel a w hf hl hz hd h=>by
    obtain⟨fuel,rfl⟩:∃n,fuel=n+1:=⟨fuel- 1,by have:=s.lt;omega⟩
    have hr:q∈Region.ready .any ops l:=q0e.2 ⟨s.lt,by rw[hz q (Nat.le_refl _) s.lt],λe he hb=>by
      have:=(s.back q s.lt).1 e he hb
      rw[q1v (by rw[hl.size];have:=s.lt;omega) false true];exact hd e.on this⟩
    refine⟨λe=>(by rw[e]at hr;cases hr),λi hi=> ?_⟩
    have:i=q:=by
      obtain⟨h1,h2,h3⟩:=q0e.1 hi
      by_cases e:i=q
      · exact e
      · by_cases hlt:i<q
        · rw[hd i hlt]at h2;cases h2
        · obtain⟨x,hx,hb,ho'⟩:=s.next i h1 (by omega)
          have:=h3 x hx hb
          have hxi:=(s.back i h1).1 x hx hb
          rw[hz x.on ho' (by omega)]at this
          cases this
    subst this
    have hlt:=s.lt
    refine wpOp_mono (λa w h=>qi9 s.gd (ops.size- i- 1) fuel (l.setIfInBounds i true) (Array.replicate (ops.size- i- 1) false) a w (by omega) (by rw[Array.size_setIfInBounds];exact hl.size) (λj hj=> ?_) (λk hk d=> ?_) (by simp;omega) h) (hn a w h)
    · rw[q0d (by rw[hl.size];exact hlt)]
      by_cases e:j=i
      · rw[if_pos e]
      · rw[if_neg e];exact hd j (by omega)
    · rw[q0d (by rw[hl.size];exact hlt),if_neg (by omega),hz (i+1+k) (by omega) hk]
      simp[Array.getD_eq_getD_getElem?,show k<ops.size- i- 1 by omega]
  intro fuel
  induction fuel with
  | zero=>
    intro l l' a w hl hz hs' hll h
    refine fin l _ a w (by omega) hl hz ?_ h.2
    rcases prog hl with hd|⟨i,hi,hr⟩
    · exact hd
    · have:=(rd hll i).2 ⟨hi,hr⟩
      rw[h.1]at this;cases this
  | succ fuel ih=>
    intro l l' a w hl hz hs' hll h
    rcases prog hl with hd|⟨i,hi,hr⟩
    · refine fin l _ a w (by omega) hl hz hd (h.1 ?_)
      rw[List.eq_nil_iff_forall_not_mem]
      intro i hi
      obtain⟨hiq,hi2⟩:=(rd hll i).1 hi
      obtain⟨_,h2,_⟩:=q0e.1 hi2
      rw[hd i hiq]at h2;cases h2
    · rw [show fuel+1+(ops.size- q)=(fuel+(ops.size- q))+1 by omega]
      refine⟨λe=>(by rw[e]at hr;cases hr),λk hk=> ?_⟩
      have hkq:k<q:=by
        by_cases hkq:k<q
        · exact hkq
        · obtain⟨_,h2,_⟩:=q0e.1 hr
          rw[only hl hz k (by omega) hk i hi]at h2;cases h2
      have hks:k<ops.size:=by have:=s.lt;omega
      have h1:=h.2 k ((rd hll k).2 ⟨hkq,hk⟩)
      have h2:=wpOp_mono (λa w h=>ih (l.setIfInBounds k true) (l'.setIfInBounds k true) a w (hl.set hk) (λj hj hjs d=>by rw[q0d (by rw[hl.size];exact hks),if_neg (by omega)];exact hz j hj hjs d) (by rw[Array.size_setIfInBounds];exact hs') (λj hj d=>by rw[q0d (l:=l') (by rw[hs'];exact hkq),q0d (l:=l) (by rw[hl.size];exact hks),hll j hj d]) h) h1
      unfold wpOp at h2⊢
      rw[q0p s.lt hkq]at h2
      rw[Array.getElem?_eq_getElem hks]
      simp only at h2⊢
      have hw:Region.wanted ops[k] (yielded (q13 ops q) a.tmps)=Region.wanted ops[k] (yielded ops a.tmps):=by
        unfold Region.wanted
        cases hg:ops[k].guard with
        |none=>rfl
        | some x=>
          obtain⟨j,b⟩:=x
          have hj:=(s.back k hks).2 j b hg
          simp only
          unfold yielded
          rw[q0p s.lt (show j<q by omega),Array.getElem?_eq_getElem (by omega)]
      rw[hw]at h2
      split
      · rename_i hwt
        rw[if_pos hwt]at h2
        exact h2.imp (q78 ho) λh=>⟨h.1,h.2.elim λa h=>h.elim λw h=>⟨a,w,ho _ _ _ (by simp) h⟩⟩
      · rename_i hwt
        rw[if_neg hwt]at h2;exact h2
section
variable {P:Program} {n:Nat} {ops:Array Oper} {A:List Nat} {pr:q8b} {rs:List Rc} {Tt:Nat->T AV} {H:Nat->T AO} {X:Nat->Nat}
def q1t{f:Oper->Bool} {i:Nat} {o:Oper} (ho:ops[i]? =some o):flag f ops.toList i=f o:=by
 have:nth ops.toList i=some o:=by rw[q0q];simpa using ho
 unfold flag;rw[this]
end
end
end Go.Proofs.Ytniogjgfomaicaa.Eng
