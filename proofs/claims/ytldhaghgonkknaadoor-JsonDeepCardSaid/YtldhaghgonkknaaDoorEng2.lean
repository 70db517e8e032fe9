/-
  The machine's quiet operations, and those that read memory and make it.
-/
import Derived.Test.YtldhaghgonkknaaDoorEng1
import Derived.Lib.SlBytesRow
import Derived.Lib.ConvBytes
import Derived.Lib.Builder
namespace Go.Proofs.YtldhaghgonkknaaDoor.Old
open Go.RowKit
set_option linter.unusedVariables false
set_option linter.unusedSimpArgs false
noncomputable def viaC (P:Program) (f:Value->Sem Value) (a:AV):Option AV:=
  match conc a with
  | some v=>match evalQ P (f v)with
    |some u=>ofVal u
    |none=>none
  |none=>none
theorem viaC_ok{P:Program} {I:In} {f:Value->Sem Value} {a r:AV} {u:Value} (h:viaC P f a=some r) (ha:VR I a u):GivesV P (f u) I r:=by
  unfold viaC at h
  split at h
  · rename_i v hv
    rw[conc_rel hv ha]
    split at h
    · rename_i z hz;exact givesV_of hz h
    · cases h
  · cases h
noncomputable def aconv (P:Program) (s d:TypeId) (a:AV):Option AV:=
  match a with
  | .int _ n=>match P.underlying s,P.underlying d with
    | some _,some (.int k)=>(match fits k n with
      |true=>some (.int k n)
      |false=>viaC P (convert s d) a)
    |_,_=>viaC P (convert s d) a
  | .str l=>match P.underlying s,P.underlying d with
    |some _,some .string=>some (.str l)
    |_,_=>none
  | .lin _ c l=>match P.underlying s,P.underlying d with
    |some _,some (.int k)=>wrapL k c l
    |_,_=>none
  |_=>none
noncomputable def aun (P:Program) (op:UnOp) (a:AV):Option AV:=
  match a with
  | .lin k c l=>linU op k c l
  |_=>viaC P (Op.unary op) a
theorem aun_ok{P:Program} {I:In} {op:UnOp} {a r:AV} {u:Value} (h:aun P op a=some r) (ha:VR I a u):GivesV P (Op.unary op u) I r:=by
  unfold aun at h
  split at h
  · exact linU_ok h ha
  · exact viaC_ok h ha
theorem aconv_ok{P:Program} {I:In} {s d:TypeId} {a r:AV} {u:Value} (h:aconv P s d a=some r) (ha:VR I a u):GivesV P (convert s d u) I r:=by
  unfold aconv at h
  split at h
  · split at h
    · rename_i x k hs hd
      split at h
      · rename_i hf
        cases h
        cases ha
        exact⟨_,λw=>by simp[convert,run_underlying hs,run_underlying hd,Result.andThen,Conv.intToInt,fits_wrap hf], .int _ _⟩
      · exact viaC_ok h ha
    · exact viaC_ok h ha
  · split at h
    · rename_i l x hs hd
      cases h
      cases ha
      refine⟨_,λw=> ?_, .str _⟩
      unfold convert
      simp[run_underlying hs,run_underlying hd,Result.andThen]
    · cases h
  · split at h
    · rename_i x k hs hd
      cases ha with
      |lin hl=>exact⟨_,λw=>by simp[convert,run_underlying hs,run_underlying hd,Result.andThen,Conv.intToInt],wrapL_ok hl h⟩
    · cases h
  · cases h
noncomputable def evs (t:T AV):List Operand->Option (List AV)
  | []=>some []
  | x ::l=>match ev t x with
    | some a=>match evs t l with
      |some r=>some (a::r)
      |none=>none
    |none=>none
theorem evs_ok{I:In} {t:T AV} {a:Act} (h:TR I t a.tmps):∀{l:List Operand} {r},evs t l=some r->VRs I r (l.map a.eval)
  | [],r,e=>by simp[evs]at e;subst e;exact .nil
  | x ::l,r,e=>by
    simp only[evs]at e
    split at e
    · rename_i v hv
      split at e
      · rename_i y hy;cases e;exact .cons (ev_ok h hv) (evs_ok h hy)
      · cases e
    · cases e
noncomputable def amk (t:T AV) (fn:Fn) (first caps:List Operand):Option AV:=
  match fn,first with
  | .func f,[]=>match evs t caps with|some l=>some (.fn f l)|none=>none
  | .func f,x::xs=>match evs t (x::xs),evs t caps with|some a,some l=>some (.bfn f a l)|_,_=>none
  |_,_=>none
noncomputable def afield (P:Program) (s:TypeId) (a:AV) (f:Nat):Option AV:=
  match a,P.underlying s with
  | .ptr id off,some (.struct fs)=>match fs.toList[f]? with
    | some fd=>match P.info? fd.type with
      |some i=>if i.size=0 then none else some (.ptr id (off+fd.offset))
      |none=>none
    |none=>none
  |_,_=>none
theorem run_sizeOf{P:Program} {t:TypeId} {i:TypeInfo} (h:P.info? t=some i) (w:World):(sizeOf t).run P w= .ok i.size w:=by
  simp[sizeOf,typeInfo,program,Sem.run,h,bind,Sem.bind,pure]
theorem afield_ok{P:Program} {I:In} {s:TypeId} {a r:AV} {f:Nat} {u:Value} (h:afield P s a f=some r) (ha:VR I a u):GivesV P (Instr.fieldAt s u f) I r:=by
  unfold afield at h
  split at h
  · rename_i id off fs hs
    split at h
    · rename_i fd hf
      split at h
      · rename_i i hi
        split at h
        · cases h
        · rename_i hz
          cases h
          cases ha with
          | @ptr _ _ bb ss tt hI=>
            refine⟨.pointer (some ⟨bb,ss+off+fd.offset,none⟩),λw=> ?_, .ptr' hI (by omega)⟩
            have hf':fs[f]? =some fd:=by simpa using hf
            simp[Instr.fieldAt,run_underlying hs,hf',Instr.sureAddr,fieldPlace,run_sizeOf hi,hz,Result.andThen,add_none]
      · cases h
    · cases h
  · cases h
noncomputable def aindexAddr (P:Program) (t:TypeId) (x i:AV):Option AV:=
  match i with
  | .int k (.ofNat n)=>
    match P.underlying t,x with
    |some (.array len e), .ptr id off=>if n<len then(match P.info? e with|some j=>some (.ptr id (off+n*j.size))|none=>none)else none
    |some (.slice e), .sl id off len _|some (.slice e), .gsl id off len _=>if n<len then(match P.info? e with|some j=>some (.ptr id (off+n*j.size))|none=>none)else none
    |_,_=>none
  |_=>none
theorem aindexAddr_ok{P:Program} {I:In} {t:TypeId} {x i r:AV} {u v:Value} (h:aindexAddr P t x i=some r) (hx:VR I x u) (hi:VR I i v):GivesV P (Instr.indexAt t u v) I r:=by
  unfold aindexAddr at h
  split at h
  · rename_i k n
    cases hi
    split at h
    · rename_i len e id off ht
      split at h
      · rename_i hl
        split at h
        · rename_i j hj
          cases h
          cases hx with
          | @ptr _ _ bb ss tt hI=>
            refine⟨.pointer (some ⟨bb,ss+off+n*j.size,none⟩),λw=> ?_, .ptr' hI (by omega)⟩
            have h1:(0:Int)<=(n:Int)/\(n:Int)<len:=by omega
            simp[Instr.indexAt,asIntOf,run_underlying ht,Instr.sureAddr,run_sizeOf hj,Result.andThen,add_none]
            intro hc;omega
        · cases h
      · cases h
    · rename_i e id off len cap ht
      split at h
      · rename_i hl
        split at h
        · rename_i j hj
          cases h
          cases hx with
          | @sl _ _ _ _ bb ss tt hI=>
            refine⟨.pointer (some ⟨bb,ss+off+n*j.size,none⟩),λw=> ?_, .ptr' hI (by omega)⟩
            have h1:(0:Int)<=(n:Int)/\(n:Int)<len:=by omega
            simp[Instr.indexAt,asIntOf,run_underlying ht,Instr.sureAddr,run_sizeOf hj,Result.andThen,add_none]
            intro hc;omega
        · cases h
      · cases h
    · rename_i e id off len esz ht
      split at h
      · rename_i hl
        split at h
        · rename_i j hj
          cases h
          cases hx with
          | @gsl _ _ _ _ bb ss tt c o hI g1 g2 g3=>
            have ho:o=ss+off:=by
              rcases g3 with g3|g3
              · exact g3
              · omega
            subst ho
            refine⟨.pointer (some ⟨bb,ss+off+n*j.size,none⟩),λw=> ?_, .ptr' hI (by omega)⟩
            have h1:(0:Int)<=(n:Int)/\(n:Int)<len:=by omega
            simp[Instr.indexAt,asIntOf,run_underlying ht,Instr.sureAddr,run_sizeOf hj,Result.andThen,add_none]
            intro hc;omega
        · cases h
      · cases h
    · cases h
  · cases h
noncomputable def apart (P:Program) (t:TypeId) (l:List AV) (off:Nat):Option AV:=
  match shapeOf P t with
  |some (some n)=>match takeN l off n with|some x=>some (.agg x)|none=>none
  |some none=>match l.drop off with|x::_=>some x| []=>none
  |none=>none
theorem apart_ok{P:Program} {I:In} {t:TypeId} {l:List AV} {vs:List Value} {off:Nat} {r:AV} (h:apart P t l off=some r) (hl:VRs I l vs):GivesV P (part t ⟨vs⟩ off) I r:=by
  unfold apart at h
  split at h
  · rename_i n hs
    split at h
    · rename_i x hx
      cases h
      unfold takeN at hx
      simp only at hx
      split at hx
      · rename_i hn
        cases hx
        have hr:=VRs.take (VRs.drop hl off) n
        refine⟨.agg ⟨(vs.drop off).take n⟩,λw=> ?_, .agg hr⟩
        obtain⟨h1,h2⟩:=isAgg_run (P:=P) (w:=w) hs
        simp[part,h1,h2 n rfl,Result.andThen]
      · cases hx
    · cases h
  · rename_i hs
    split at h
    · rename_i x r hx
      cases h
      have hd:=VRs.drop hl off
      rw[hx]at hd
      cases hvs:vs.drop off with
      |nil=>rw[hvs]at hd;cases hd
      | cons v vr=>
        rw[hvs]at hd
        cases hd with
        | cons hv _=>
          refine⟨v,λw=> ?_,hv⟩
          obtain⟨h1,h2⟩:=isAgg_run (P:=P) (w:=w) hs
          have hvo:vs[off]? =some v:=by
            have:(vs.drop off)[0]? =some v:=by rw[hvs];rfl
            rw[List.getElem?_drop]at this;simpa using this
          simp[part,h1,Result.andThen,hvo]
    · cases h
  · cases h
noncomputable def afld (P:Program) (t:TypeId) (a:AV) (f:Nat):Option AV:=
  match a,P.underlying t with
  | .agg l,some (.struct fs)=>match fs.toList[f]? with
    |some fd=>apart P fd.type l fd.offset
    |none=>none
  |_,_=>none
theorem afld_ok{P:Program} {I:In} {t:TypeId} {a r:AV} {f:Nat} {u:Value} (h:afld P t a f=some r) (ha:VR I a u):GivesV P (Instr.field t u f) I r:=by
  unfold afld at h
  split at h
  · rename_i l fs ht
    split at h
    · rename_i fd hf
      cases ha with
      | agg hl=>
        obtain⟨v,h1,h2⟩:=apart_ok h hl
        have hf':fs[f]? =some fd:=by simpa using hf
        exact⟨v,λw=>by simp[Instr.field,run_underlying ht,hf',asAgg,h1 w,Result.andThen],h2⟩
    · cases h
  · cases h
noncomputable def aindex (P:Program) (t:TypeId) (x i:AV):Option AV:=
  match i with
  | .int k (.ofNat n)=>
    match P.underlying t,x with
    |some .string, .str l=>match nth l n with|some b=>some (.int .u8 (.ofNat (b % 256)))|none=>none
    |some (.array len e), .agg l=>if n<len then(match P.info? e with|some j=>apart P e l (n*j.size)|none=>none)else none
    |_,_=>none
  |_=>none
theorem aindex_ok{P:Program} {I:In} {t:TypeId} {x i r:AV} {u v:Value} (h:aindex P t x i=some r) (hx:VR I x u) (hi:VR I i v):GivesV P (Instr.index t u v) I r:=by
  unfold aindex at h
  split at h
  · rename_i k n
    cases hi
    split at h
    · rename_i l ht
      split at h
      · rename_i b hb
        cases h
        cases hx
        refine⟨_,λw=> ?_, .int _ _⟩
        have hg:(mkS l)[n]? =some (UInt8.ofNat b):=by rw[mkS_get,←nth_eq,hb];rfl
        have h0:(if(0:Int)<=(n:Int)then(mkS l)[(n:Int).toNat]? else none)=some (UInt8.ofNat b):=by rw[if_pos (by omega)];exact hg
        simp only[Instr.index,asIntOf,Sem.run_bind,Sem.run_pure,Result.andThen,run_underlying ht,Int.ofNat_eq_natCast,h0,UInt8.toNat_ofNat']
      · cases h
    · rename_i len e l ht
      split at h
      · rename_i hl
        split at h
        · rename_i j hj
          cases hx with
          | agg hl'=>
            obtain⟨z,h1,h2⟩:=apart_ok h hl'
            refine⟨z,λw=> ?_,h2⟩
            simp[Instr.index,asIntOf,run_underlying ht,run_sizeOf hj,h1 w,Result.andThen]
            intro hc;omega
        · cases h
      · cases h
    · cases h
  · cases h
noncomputable def aext (x:AV) (i:Nat):Option AV:=
  match x with
  | .tup l=>nth l i
  |_=>none
theorem aext_ok{P:Program} {I:In} {x r:AV} {i:Nat} {u:Value} (h:aext x i=some r) (hx:VR I x u):GivesV P (Instr.extract u i) I r:=by
  unfold aext at h
  split at h
  · cases hx with
    | tup hl=>
      rw[nth_eq]at h
      obtain⟨v,h1,h2⟩:=VRs.get hl _ _ h
      exact⟨v,λw=>by simp[Instr.extract,h1],h2⟩
  · cases h
noncomputable def abound (len mx:Nat) (lo hi:Option AV):Option (Nat×Nat):=
  match hi with
  | none=>match lo with
    |none=>some (0,len)
    |some (.int _ (.ofNat l))=>if l<=len then some (l,len)else none
    |_=>none
  | some (.int _ (.ofNat h))=>if h<=mx then(match lo with
    |none=>some (0,h)
    |some (.int _ (.ofNat l))=>if l<=h then some (l,h)else none
    |_=>none)else none
  |_=>none
inductive VO(I:In):Option AV->Option Value->Prop
  |none:VO I none none
  |some {a v} (h:VR I a v):VO I (some a) (some v)
theorem bound_run{P:Program} {k:IntKind} {n y:Nat} (h:n<=y) (c:BoundsCode) (w:World):(Instr.sliceBound (.int k (.ofNat n)) y c).run P w= .ok n w:=by
  simp[Instr.sliceBound,asIntOf]
  intro hc;omega
theorem abound_ok{P:Program} {I:In} {len mx cap:Nat} {lo hi:Option AV} {u v:Option Value} {l h:Nat} {b:Bool} (e:abound len mx lo hi=some (l,h)) (hlen:len<=mx) (hc:mx<=cap) (hl:VO I lo u) (hh:VO I hi v):
    (∀w,(Instr.sliceBounds b len cap u v none).run P w= .ok (l,h,cap) w)/\l<=h/\h<=mx:=by
  unfold abound at e
  split at e
  · cases hh
    split at e
    · cases hl;cases e
      exact⟨λw=>by simp[Instr.sliceBounds],by omega,by omega⟩
    · split at e
      · rename_i k n hn
        cases e
        cases hl with
        |some hv=>cases hv;exact⟨λw=>by simp only[Instr.sliceBounds,Sem.run_bind,Sem.run_pure,Result.andThen,bound_run hn],hn,hlen⟩
      · cases e
    · cases e
  · split at e
    · rename_i k n hn
      cases hh with
      | some hv=>
        cases hv
        split at e
        · cases hl;cases e
          exact⟨λw=>by simp only[Instr.sliceBounds,Sem.run_bind,Sem.run_pure,Result.andThen,bound_run (Nat.le_trans hn hc)],by omega,hn⟩
        · split at e
          · rename_i k2 m hm
            cases e
            cases hl with
            |some hv2=>cases hv2;exact⟨λw=>by simp only[Instr.sliceBounds,Sem.run_bind,Sem.run_pure,Result.andThen,bound_run (Nat.le_trans hn hc),bound_run hm],hm,hn⟩
          · cases e
        · cases e
    · cases e
  · cases e
noncomputable def aslice (P:Program) (t:TypeId) (x:AV) (lo hi:Option AV):Option AV:=
  match P.underlying t,x with
  | some .string, .str s=>
    let n:=s.length
    match abound n n lo hi with
    |some (l,h)=>some (.str ((s.drop l).take (h- l)))
    |none=>none
  | some (.slice e), .nsl=>match abound 0 0 lo hi with
    |some _=>(match P.info? e with|some _=>some .nsl|none=>none)
    |none=>none
  | some (.slice e), .sl id off len cap=>if len<=cap then(match abound len cap lo hi,P.info? e with
    |some (l,h),some i=>some (.sl id (if cap=l then off else off+l*i.size) (h- l) (cap- l))
    |_,_=>none)else none
  | some (.slice e), .gsl id off len esz=>match abound len len lo hi,P.info? e with
    |some (l,h),some i=>if i.size=esz then some (.gsl id (off+l*esz) (h- l) esz)else none
    |_,_=>none
  | some (.array n e), .ptr id off=>match abound n n lo hi,P.info? e with
    |some (l,h),some i=>some (.sl id (if n=l then off else off+l*i.size) (h- l) (n- l))
    |_,_=>none
  |_,_=>none
theorem aslice_ok{P:Program} {I:In} {t:TypeId} {x r:AV} {lo hi:Option AV} {u:Value} {a b:Option Value} (e:aslice P t x lo hi=some r) (hx:VR I x u) (hl:VO I lo a) (hh:VO I hi b):
    GivesV P (Instr.sliceAt t u a b none) I r:=by
  unfold aslice at e
  split at e
  · rename_i s ht
    simp only at e
    split at e
    · rename_i l h hb
      cases e;cases hx
      obtain⟨h1,h2,h3⟩:=abound_ok (P:=P) (b:=false) hb (Nat.le_refl _) (Nat.le_refl _) hl hh
      refine⟨_,λw=> ?_, .str _⟩
      simp[Instr.sliceAt,run_underlying ht,Result.andThen,Instr.slice,mkS_size,h1 w,mkS_extract]
    · cases e
  · rename_i el ht
    split at e
    · rename_i p hb
      split at e
      · rename_i i hi
        cases e;cases hx
        obtain⟨l,h⟩:=p
        obtain⟨h1,h2,h3⟩:=abound_ok (P:=P) (b:=true) hb (Nat.le_refl _) (Nat.le_refl _) hl hh
        refine⟨.slice none 0 0,λw=> ?_, .nsl⟩
        have:h=0:=by omega
        have:l=0:=by omega
        subst_vars
        simp only[Instr.sliceAt,Sem.run_bind,run_underlying ht,Result.andThen,Instr.slice,h1 w,run_sizeOf hi]
        rfl
      · cases e
    · cases e
  · rename_i el id off len cap ht
    split at e
    · rename_i hle
      split at e
      · rename_i l h i hb hi
        cases e
        cases hx with
        | @sl _ _ _ _ bb ss tt hI=>
          obtain⟨h1,h2,h3⟩:=abound_ok (P:=P) (b:=true) hb hle (Nat.le_refl _) hl hh
          refine⟨.slice (some ⟨bb,if cap=l then ss+off else ss+off+l*i.size,none⟩) (h- l) (cap- l),λw=> ?_, .sl' hI (by split<;>omega)⟩
          simp only[Instr.sliceAt,Sem.run_bind,run_underlying ht,Result.andThen,Instr.slice,h1 w,run_sizeOf hi,Option.map,add_none]
          by_cases hc:cap=l<;>simp[hc]
      · cases e
    · cases e
  · rename_i el id off len esz ht
    split at e
    · rename_i l h i hb hi
      split at e
      · rename_i hsz
        cases e
        cases hx with
        | @gsl _ _ _ _ bb ss tt c o hI g1 g2 g3=>
          obtain⟨h1,h2,h3⟩:=abound_ok (P:=P) (b:=true) hb (Nat.le_refl _) g1 hl hh
          have hcl:(c- l)*esz+l*esz=c*esz:=by rw[←Nat.add_mul];congr 1;omega
          by_cases hc:c=l
          · subst hc
            refine⟨.slice (some ⟨bb,o,none⟩) (h- c) (c- c),λw=> ?_, .gsl hI (by omega) (by rw[Nat.sub_self,Nat.zero_mul];omega) (.inr (Nat.sub_self c))⟩
            simp only[Instr.sliceAt,Sem.run_bind,run_underlying ht,Result.andThen,Instr.slice,h1 w,run_sizeOf hi,if_true]
            rfl
          · have hc0:¬c=0:=by omega
            refine⟨.slice (some ⟨bb,o+l*i.size,none⟩) (h- l) (c- l),λw=> ?_, .gsl hI (by omega) (by omega) (.inl ?_)⟩
            · simp only[Instr.sliceAt,Sem.run_bind,run_underlying ht,Result.andThen,Instr.slice,h1 w,run_sizeOf hi,Option.map,add_none,if_neg hc]
              rfl
            · rw[hsz]
              rcases g3 with g3|g3
              · omega
              · exact absurd g3 hc0
      · cases e
    · cases e
  · rename_i n el id off ht
    split at e
    · rename_i l h i hb hi
      cases e
      cases hx with
      | @ptr _ _ bb ss tt hI=>
        obtain⟨h1,h2,h3⟩:=abound_ok (P:=P) (b:=false) hb (Nat.le_refl _) (Nat.le_refl _) hl hh
        refine⟨.slice (some ⟨bb,if n=l then ss+off else ss+off+l*i.size,none⟩) (h- l) (n- l),λw=> ?_, .sl' hI (by split<;>omega)⟩
        simp only[Instr.sliceAt,Sem.run_bind,run_underlying ht,Result.andThen,Instr.sureAddr,Sem.run_pure,h1 w,run_sizeOf hi,add_none]
        by_cases hc:n=l<;>simp[hc]
    · cases e
  · cases e
noncomputable def cellsAV:AV->List AV
  | .agg l=>l
  |a=>[a]
theorem cells_rel{I:In} {a:AV} {v:Value} (h:VR I a v):VRs I (cellsAV a) v.cells.toList:=by
  cases h<;>first|exact .cons (by constructor<;>assumption) .nil|skip
  assumption
noncomputable def afill (place:Nat->Option (Nat×Nat)) (l:List AV):List (Nat×AV)->Option (List AV)
  | []=>some l
  | (i,a)::rest=>
    match place i with
    |none=>none
    | some (off,size)=>
      let x:=cellsAV a
      if x.length=size then(if off+size<=l.length then afill place (spl l off x) rest else none)else none
inductive PR(I:In):List (Nat×AV)->List (Nat×Value)->Prop
  |nil:PR I [] []
  |cons {i a v l vs} (h:VR I a v) (t:PR I l vs):PR I ((i,a)::l) ((i,v)::vs)
theorem fold_spl(off:Nat):∀(xs:List Value) (k:Nat) (l:List Value),(xs.zipIdx k).foldl (λ(cs:Array Value) (c,j)=>cs.setIfInBounds (off+j) c) ⟨l⟩=(⟨spl l (off+k) xs⟩:Array Value)
  | [],_,_=>rfl
  | x::xs,k,l=>by
    simp only[List.zipIdx_cons,List.foldl_cons,spl]
    have:(⟨l⟩:Array Value).setIfInBounds (off+k) x=⟨l.set (off+k) x⟩:=by simp
    rw[this,fold_spl off xs (k+1)]
    rfl
theorem fold_splA(off:Nat) (xs:Array Value) (l:List Value):(xs.zipIdx).foldl (λ(cs:Array Value) (c,j)=>cs.setIfInBounds (off+j) c) ⟨l⟩=(⟨spl l off xs.toList⟩:Array Value):=by
  have:=fold_spl off xs.toList 0 l
  rw[Nat.add_zero]at this
  rw[←this,←Array.foldl_toList]
  congr 1
  simp
theorem fill_rel{I:In} (place:Nat->Option (Nat×Nat)):∀{parts:List (Nat×AV)} {ps:List (Nat×Value)},PR I parts ps->∀(l r:List AV) (vs:List Value),VRs I l vs->afill place l parts=some r->∃us,Instr.fill place ⟨vs⟩ ps=some ⟨us⟩/\VRs I r us
  |_,_, .nil=>λl r vs hl h=>by simp[afill]at h;subst h;exact⟨vs,rfl,hl⟩
  | _, _, .cons (i:=i) (v:=v) hv ht=>λl r vs hl h=>by
    simp only[afill]at h
    split at h
    · cases h
    · rename_i off size hp
      split at h
      · rename_i h1
        split at h
        · rename_i h2
          have hc:=cells_rel hv
          have hsz:v.cells.size=size:=by rw[←Array.length_toList,←hc.len];exact h1
          have hvl:vs.length=l.length:=hl.len.symm
          obtain⟨us,h3,h4⟩:=fill_rel place ht _ _ _ (spl_rel hc off hl) h
          refine⟨us,?_,h4⟩
          have hlen:(⟨vs⟩:Array Value).size=vs.length:=rfl
          simp only[Instr.fill,hp,hsz,hlen,hvl]
          rw[if_neg (by simp;omega),fold_splA]
          exact h3
        · cases h
      · cases h
noncomputable def zeroAV (P:Program) (t:TypeId):Option (List AV):=
  match P.info? t with
  | some i=>match i.zero with
    |some z=>ofVals z.cells.toList
    |none=>none
  |none=>none
theorem zeroAV_ok{P:Program} {t:TypeId} {l:List AV} (h:zeroAV P t=some l) (I:In):∃z,(∀w,(zeroValue t).run P w= .ok z w)/\VRs I l z.cells.toList:=by
  unfold zeroAV at h
  split at h
  · rename_i i hi
    split at h
    · rename_i z hz
      exact⟨z,λw=>by simp[zeroValue,typeInfo,program,Sem.run,hi,bind,Sem.bind,pure,hz],ofVals_rel I _ _ h⟩
    · cases h
  · cases h
noncomputable def aparts (t:T AV):List (Nat×Operand)->Option (List (Nat×AV))
  | []=>some []
  | (i,x)::l=>match ev t x with
    | some a=>match aparts t l with
      |some r=>some ((i,a)::r)
      |none=>none
    |none=>none
theorem aparts_ok{I:In} {t:T AV} {a:Act} (h:TR I t a.tmps):∀{l:List (Nat×Operand)} {r},aparts t l=some r->PR I r (l.map λ(i,x)=>(i,a.eval x))
  | [],r,e=>by simp[aparts]at e;subst e;exact .nil
  | (i,x)::l,r,e=>by
    simp only[aparts]at e
    split at e
    · rename_i v hv
      split at e
      · rename_i y hy;cases e;exact .cons (ev_ok h hv) (aparts_ok h hy)
      · cases e
    · cases e
noncomputable def places (P:Program):List Field->Option (List (Nat×Nat))
  | []=>some []
  | f ::l=>match P.info? f.type with
    | some i=>match places P l with
      |some r=>some ((f.offset,i.size)::r)
      |none=>none
    |none=>none
inductive All2{α β:Type} (R:α->β->Prop):List α->List β->Prop
  |nil:All2 R [] []
  |cons {x y l r} (h:R x y) (t:All2 R l r):All2 R (x::l) (y::r)
theorem mapM_run{α β:Type} {P:Program} (f:α->Sem β):∀(l:List α) (r:List β),(All2 (λx y=>∀w,(f x).run P w= .ok y w) l r)->∀w,(l.mapM f).run P w= .ok r w
  | [],r,h,w=>by cases h;simp
  | x::l,r,h,w=>by
    cases h with
    |cons h1 h2=>simp[h1 w,mapM_run f l _ h2 w,Result.andThen]
theorem mapMA_run{α β:Type} {P:Program} (f:α->Sem β) (l:Array α) (r:List β) (h:All2 (λx y=>∀w,(f x).run P w= .ok y w) l.toList r) (w:World):(l.mapM f).run P w= .ok ⟨r⟩ w:=by
  rw[Array.mapM_eq_mapM_toList]
  simp[mapM_run f l.toList r h w,Result.andThen]
theorem places_ok{P:Program}:∀{l:List Field} {r},places P l=some r->All2 (λ(x:Field) y=>∀w,((do pure (x.offset,←sizeOf x.type)):Sem (Nat×Nat)).run P w= .ok y w) l r
  | [],r,e=>by simp[places]at e;subst e;exact .nil
  | f ::l,r,e=>by
    simp only[places]at e
    split at e
    · rename_i i hi
      split at e
      · rename_i y hy;cases e
        exact .cons (λw=>by simp[run_sizeOf hi,Result.andThen]) (places_ok hy)
      · cases e
    · cases e
noncomputable def abuild (P:Program) (t:TypeId) (parts:List (Nat×AV)):Option AV:=
  match zeroAV P t with
  | some z=>match P.underlying t with
    | some (.struct fs)=>match places P fs.toList with
      |some pl=>match afill (λi=>nth pl i) z parts with|some x=>some (.agg x)|none=>none
      |none=>none
    | some (.array _ e)=>match P.info? e with
      |some i=>match afill (λk=>some (k*i.size,i.size)) z parts with|some x=>some (.agg x)|none=>none
      |none=>none
    |_=>none
  |none=>none
theorem abuild_ok{P:Program} {I:In} {t:TypeId} {parts:List (Nat×AV)} {ps:Array (Nat×Value)} {r:AV} (h:abuild P t parts=some r) (hp:PR I parts ps.toList):GivesV P (Instr.build t ps) I r:=by
  unfold abuild at h
  split at h
  · rename_i z hz
    obtain⟨zv,h1,h2⟩:=zeroAV_ok hz I
    split at h
    · rename_i fs ht
      split at h
      · rename_i pl hpl
        split at h
        · rename_i x hx
          cases h
          obtain⟨us,h3,h4⟩:=fill_rel _ hp _ _ _ h2 hx
          refine⟨.agg ⟨us⟩,λw=> ?_, .agg h4⟩
          have hm:=mapMA_run (P:=P) (λ(f:Field)=>(do pure (f.offset,←sizeOf f.type):Sem (Nat×Nat))) fs pl (places_ok hpl) w
          have hpl':(λi=>(⟨pl⟩:Array (Nat×Nat))[i]?)=(λi=>nth pl i):=by funext i;rw[nth_eq];simp
          have hcz:zv.cells=⟨zv.cells.toList⟩:=rfl
          simp only[Instr.build,Sem.run_bind,h1 w,Result.andThen,run_underlying ht,hm,hpl']
          rw[hcz,h3]
          rfl
        · cases h
      · cases h
    · rename_i n e ht
      split at h
      · rename_i i hi
        split at h
        · rename_i x hx
          cases h
          obtain⟨us,h3,h4⟩:=fill_rel _ hp _ _ _ h2 hx
          refine⟨.agg ⟨us⟩,λw=> ?_, .agg h4⟩
          have hcz:zv.cells=⟨zv.cells.toList⟩:=rfl
          simp only[Instr.build,Sem.run_bind,h1 w,Result.andThen,run_underlying ht,run_sizeOf hi]
          rw[hcz,h3]
          rfl
        · cases h
      · cases h
    · cases h
  · cases h
noncomputable def alen (P:Program) (t:TypeId) (x:AV):Option AV:=
  match P.underlying t,x with
  |some .string, .str l=>some (.int .i64 (.ofNat l.length))
  |some (.slice _), .nsl=>some (.int .i64 0)
  |some (.slice _), .sl _ _ n _|some (.slice _), .gsl _ _ n _=>some (.int .i64 (.ofNat n))
  |some (.array n _),_=>some (.int .i64 (.ofNat n))
  |some (.map ..), .nmap=>some (.int .i64 0)
  |_,_=>none
theorem alen_ok{P:Program} {I:In} {t:TypeId} {x r:AV} {u:Value} {ts:Array TypeId} {ty:TypeId} {args:Array Value} (h:alen P t x=some r) (hx:VR I x u) (ht:ts[0]? =some t) (ha:args[0]? =some u):GivesV P (Builtin.len_ ts ty args) I r:=by
  unfold alen at h
  split at h
  all_goals (try (rename_i hd))
  all_goals first
    | (cases h;done)
    | (cases h
       cases hx
       refine⟨_,λw=> ?_, .int _ _⟩
       simp[Builtin.len_,ht,ha,run_underlying hd,Result.andThen,goInt,mkS_size]
       done)
    | (cases h
       refine⟨_,λw=> ?_, .int _ _⟩
       simp[Builtin.len_,ht,ha,run_underlying hd,Result.andThen,goInt,mkS_size]
       done)
noncomputable def aminmax (b:Builtin) (l:List AV):Option AV:=
  match b,l with
  | .max,[.int k x, .int _ y]=>some (.int k (if y>x then y else x))
  | .min,[.int k x, .int _ y]=>some (.int k (if y<x then y else x))
  |_,_=>none
noncomputable def abuiltin (P:Program) (b:Builtin) (ts:List TypeId) (l:List AV):Option AV:=
  match b with
  | .len=>match ts,l with
    |t::_,x::_=>alen P t x
    |_,_=>none
  | .cap=>match ts,l with
    |t::_,[.sl _ _ _ c]=>match P.underlying t with|some (.slice _)=>some (.int .i64 (.ofNat c))|_=>none
    |t::_,[.nsl]=>match P.underlying t with|some (.slice _)=>some (.int .i64 0)|_=>none
    |_,_=>none
  | .max| .min=>aminmax b l
  | .unsafeSliceData=>match l with
    | [.nsl]=>some .nilp
    | [.sl id off _ c]=>if c=0 then none else some (.ptr id off)
    | [.gsl id off n _]=>if n=0 then none else some (.ptr id off)
    |_=>none
  |_=>none
theorem usd{P:Program} (ts:List TypeId) (ty:TypeId) (a:Addr) (n c:Nat) (w:World) (h:¬c=0):(Builtin.unsafeSliceData_ ⟨ts⟩ ty ⟨[.slice (some a) n c]⟩).run P w= .ok (.pointer (some a)) w:=by
  show Sem.run P (if c≠0 then(pure (Value.pointer (some a)):Sem Value)else _) w=_
  rw[if_pos h];rfl
theorem vrs1{I:In} {a:AV} {vs:List Value} (h:VRs I [a] vs):∃v,vs=[v]/\VR I a v:=by
  cases h with|cons h t=>cases t;exact⟨_,rfl,h⟩
theorem abuiltin_ok{P:Program} {I:In} {b:Builtin} {ts:Array TypeId} {l:List AV} {vs:List Value} {r:AV} {ty:TypeId} {cs:Array Bool} (h:abuiltin P b ts.toList l=some r) (hl:VRs I l vs):Gives P (builtin b ts ty cs ⟨vs⟩) I r:=by
  obtain⟨ts⟩:=ts
  unfold abuiltin at h
  split at h
  · split at h
    · rename_i t _ x _ e1
      simp only at e1;subst e1
      cases hl with
      |cons h1 h2=>exact(alen_ok h h1 (by simp) (by simp)).next
    · cases h
  · split at h
    · rename_i t _ id off n c e1
      simp only at e1;subst e1
      split at h
      · rename_i e he
        cases h
        obtain⟨v,rfl,hv⟩:=vrs1 hl
        cases hv
        exact GivesV.next ⟨_,λw=>by simp[Builtin.cap_,run_underlying he,Result.andThen,goInt], .int _ _⟩
      · cases h
    · rename_i t _ e1
      simp only at e1;subst e1
      split at h
      · rename_i e he
        cases h
        obtain⟨v,rfl,hv⟩:=vrs1 hl
        cases hv
        exact GivesV.next ⟨_,λw=>by simp[Builtin.cap_,run_underlying he,Result.andThen,goInt], .int _ _⟩
      · cases h
    · cases h
  · unfold aminmax at h
    split at h
    · rename_i k x k2 y heq
      cases h
      cases hl with|cons h1 h2=>obtain⟨v,rfl,hv⟩:=vrs1 h2;cases h1;cases hv;exact GivesV.next ⟨_,λw=>by simp[Builtin.max_,Builtin.max2], .int _ _⟩
    · cases ‹Builtin.max=Builtin.min›
    · cases h
  · unfold aminmax at h
    split at h
    · cases ‹Builtin.min=Builtin.max›
    · cases h
      cases hl with|cons h1 h2=>obtain⟨v,rfl,hv⟩:=vrs1 h2;cases h1;cases hv;exact GivesV.next ⟨_,λw=>by simp[Builtin.min_,Builtin.min2], .int _ _⟩
    · cases h
  · split at h
    · cases h
      obtain⟨v,rfl,hv⟩:=vrs1 hl
      cases hv
      exact GivesV.next ⟨_,λw=>rfl, .nilp⟩
    · split at h
      · cases h
      · rename_i hc
        cases h
        obtain⟨v,rfl,hv⟩:=vrs1 hl
        cases hv with
        |sl hI=>exact GivesV.next ⟨_,λw=>usd ts ty _ _ _ w hc, .ptr hI⟩
    · split at h
      · cases h
      · rename_i hc
        cases h
        obtain⟨v,rfl,hv⟩:=vrs1 hl
        cases hv with
        | @gsl _ _ _ _ _ ss tt c o hI g1 g2 g3=>
          have hz:¬c=0:=by omega
          have ho:o=ss+_:=g3.resolve_right hz
          exact GivesV.next ⟨_,λw=>usd ts ty _ _ _ w hz, .ptr' hI ho⟩
    · cases h
  · cases h
noncomputable def evo (t:T AV):Option Operand->Option (Option AV)
  |none=>some none
  | some x=>match ev t x with
    |some a=>some (some a)
    |none=>none
theorem evo_ok{I:In} {t:T AV} {a:Act} (h:TR I t a.tmps) {x:Option Operand} {v} (e:evo t x=some v):VO I v (x.map a.eval):=by
  cases x with
  |none=>simp[evo]at e;subst e;exact .none
  | some x=>
    simp only[evo]at e
    split at e
    · rename_i y hy;cases e;exact .some (ev_ok h hy)
    · cases e
noncomputable def amki (P:Program) (xt:TypeId) (a:AV):Option AV:=
  match P.underlying xt with
  |some (.interface _)=>none
  |some _=>some (.ifc xt a)
  |none=>none
theorem amki_ok{P:Program} {I:In} {xt:TypeId} {a r:AV} {v:Value} (h:amki P xt a=some r) (hv:VR I a v):GivesV P (Instr.makeInterface xt v) I r:=by
  unfold amki at h
  split at h
  · cases h
  · rename_i d hn hd
    cases h
    refine⟨.iface xt v,λw=> ?_, .ifc hv⟩
    unfold Instr.makeInterface
    simp only[Sem.run_bind,run_underlying hd,Result.andThen]
    cases d with
    |interface ms=>exact(hn ms rfl).elim
    |_=>rfl
  · cases h
noncomputable def qop (P:Program) (t:T AV) (o:Oper):Option AV:=
  match o.op with
  | .move x| .assign x=>ev t x
  | .pick c a b=>match ev t c with
    |some (.bool true)=>ev t a
    |some (.bool false)=>ev t b
    |_=>none
  | .build ty parts=>match aparts t parts.toList with
    |some ps=>abuild P ty ps
    |none=>none
  | .nilCheck x=>match ev t x with
    |some (.ptr i f)=>some (.ptr i f)
    |some (.fn f c)=>some (.fn f c)
    |some (.ifc f c)=>some (.ifc f c)
    |some (.bfn f b c)=>some (.bfn f b c)
    |_=>none
  | .binOp op xt x y _=>match ev t x,ev t y with
    |some a,some b=>abinL P op xt y a b
    |_,_=>none
  | .unOp op _ x=>match ev t x with
    |some a=>aun P op a
    |none=>none
  | .convert s d x=>match ev t x with
    |some a=>aconv P s d a
    |none=>none
  | .makeInterface xt x=>match ev t x with
    |some a=>amki P xt a
    |none=>none
  | .makeFunc fn first caps=>amk t fn first.toList caps.toList
  | .slice ty x lo hi mx=>match mx,ev t x,evo t lo,evo t hi with
    |none,some a,some l,some h=>aslice P ty a l h
    |_,_,_,_=>none
  | .fieldAddr s x f=>match ev t x with
    |some a=>afield P s a f
    |none=>none
  | .field xt x f=>match ev t x with
    |some a=>afld P xt a f
    |none=>none
  | .indexAddr ty x i=>match ev t x,ev t i with
    |some a,some b=>aindexAddr P ty a b
    |_,_=>none
  | .index ty x i=>match ev t x,ev t i with
    |some a,some b=>aindex P ty a b
    |_,_=>none
  | .extract x i=>match ev t x with
    |some a=>aext a i
    |none=>none
  | .call c=>match c.callee with
    | .builtin b=>match evs t c.args.toList with
      |some l=>abuiltin P b c.argTypes.toList l
      |none=>none
    |_=>none
  |_=>none
theorem qop_ok{P:Program} {I:In} {t:T AV} {a:Act} {o:Oper} {r:AV} (h:qop P t o=some r) (ht:TR I t a.tmps):Gives P (execOp a.eval o) I r:=by
  obtain⟨dst,op,ty,pos,after,guard⟩:=o
  cases op with
  |move x=>exact⟨_,λw=>rfl,ev_ok ht h⟩
  |assign x=>exact⟨_,λw=>rfl,ev_ok ht h⟩
  | pick c x y=>
    simp only[qop]at h
    split at h
    · rename_i hc
      have h1:=ev_ok ht hc
      generalize hcv:a.eval c=cv at h1
      cases h1
      exact⟨_,λw=>by simp[execOp,hcv,asBool,Result.andThen],ev_ok ht h⟩
    · rename_i hc
      have h1:=ev_ok ht hc
      generalize hcv:a.eval c=cv at h1
      cases h1
      exact⟨_,λw=>by simp[execOp,hcv,asBool,Result.andThen],ev_ok ht h⟩
    · cases h
  | build bt parts=>
    simp only[qop]at h
    split at h
    · rename_i ps hps
      have h1:=aparts_ok ht hps
      exact(abuild_ok (ps:=parts.map λ(i,x)=>(i,a.eval x)) h (by simpa using h1)).next
    · cases h
  | nilCheck x=>
    simp only[qop]at h
    split at h
    · rename_i hx
      cases h
      have h1:=ev_ok ht hx
      generalize hv:a.eval x=v at h1
      cases h1 with
      |ptr hI=>exact⟨_,λw=>by simp[execOp,hv], .ptr hI⟩
    · rename_i hx
      cases h
      have h1:=ev_ok ht hx
      generalize hv:a.eval x=v at h1
      cases h1 with
      |fn hI=>exact⟨_,λw=>by simp[execOp,hv], .fn hI⟩
    · rename_i hx
      cases h
      have h1:=ev_ok ht hx
      generalize hv:a.eval x=v at h1
      cases h1 with
      |ifc hI=>exact⟨_,λw=>by simp[execOp,hv], .ifc hI⟩
    · rename_i hx
      cases h
      have h1:=ev_ok ht hx
      generalize hv:a.eval x=v at h1
      cases h1 with
      |bfn hI hJ=>exact⟨_,λw=>by simp[execOp,hv], .bfn hI hJ⟩
    · cases h
  | binOp op xt x y yt=>
    simp only[qop]at h
    split at h
    · rename_i h1 h2
      exact(abinL_ok h (ev_ok ht h1) (ev_ok ht h2)).next
    · cases h
  | unOp op xt x=>
    simp only[qop]at h
    split at h
    · rename_i h1;exact(aun_ok h (ev_ok ht h1)).next
    · cases h
  | convert s d x=>
    simp only[qop]at h
    split at h
    · rename_i h1;exact(aconv_ok h (ev_ok ht h1)).next
    · cases h
  | makeInterface xt x=>
    simp only[qop]at h
    split at h
    · rename_i h1;exact(amki_ok h (ev_ok ht h1)).next
    · cases h
  | makeFunc fn first caps=>
    simp only[qop,amk]at h
    split at h
    · rename_i f hf
      split at h
      · rename_i l hl
        cases h
        have hfirst:first= #[]:=by apply Array.toList_inj.1;simpa using hf
        subst hfirst
        have hr:=evs_ok ht hl
        have e:(⟨caps.toList.map a.eval⟩:Array Value)=caps.map a.eval:=by apply Array.toList_inj.1;simp
        have h3:=VR.fn (f:=f) hr
        rw[e]at h3
        exact⟨_,λw=>by simp[execOp,Instr.makeFunc],h3⟩
      · cases h
    · rename_i f x xs hf
      split at h
      · rename_i a1 l ha hl
        cases h
        have hr:=evs_ok ht hl
        have hq:=evs_ok ht ha
        have e:(⟨caps.toList.map a.eval⟩:Array Value)=caps.map a.eval:=by apply Array.toList_inj.1;simp
        have e2:(⟨(x::xs).map a.eval⟩:Array Value)=first.map a.eval:=by rw[←hf];apply Array.toList_inj.1;simp
        have h3:=VR.bfn (f:=f) hq hr
        rw[e,e2]at h3
        exact⟨_,λw=>by simp[execOp,Instr.makeFunc],h3⟩
      · cases h
    · cases h
  | slice st x lo hi mx=>
    simp only[qop]at h
    split at h
    · rename_i h1 h2 h3
      exact(aslice_ok h (ev_ok ht h1) (evo_ok ht h2) (evo_ok ht h3)).next
    · cases h
  | fieldAddr s x f=>
    simp only[qop]at h
    split at h
    · rename_i h1;exact(afield_ok h (ev_ok ht h1)).next
    · cases h
  | field s x f=>
    simp only[qop]at h
    split at h
    · rename_i h1;exact(afld_ok h (ev_ok ht h1)).next
    · cases h
  | indexAddr st x i=>
    simp only[qop]at h
    split at h
    · rename_i h1 h2;exact(aindexAddr_ok h (ev_ok ht h1) (ev_ok ht h2)).next
    · cases h
  | index st x i=>
    simp only[qop]at h
    split at h
    · rename_i h1 h2;exact(aindex_ok h (ev_ok ht h1) (ev_ok ht h2)).next
    · cases h
  | extract x i=>
    simp only[qop]at h
    split at h
    · rename_i h1;exact(aext_ok h (ev_ok ht h1)).next
    · cases h
  | call c=>
    simp only[qop]at h
    split at h
    · rename_i b hb
      split at h
      · rename_i l hl
        obtain⟨v,h1,h2⟩:=abuiltin_ok (ty:=ty) (cs:=c.args.map λ| .const _=>true|_=>false) h (evs_ok ht hl)
        refine⟨v,λw=> ?_,h2⟩
        have e:(⟨c.args.toList.map a.eval⟩:Array Value)=c.args.map a.eval:=by apply Array.toList_inj.1;simp
        rw[e]at h1
        simp only[execOp,resolve,hb,Sem.run_bind,Sem.run_pure,Result.andThen,invoke]
        exact h1 w
      · cases h
    · cases h
  |_=>simp[qop]at h
noncomputable def concK:AV->Option Value
  | .agg l=>match abin.concs l with|some x=>some (.agg ⟨x⟩)|none=>none
  |a=>conc a
theorem concK_rel{I:In} {a:AV} {v u:Value} (h:concK a=some v) (r:VR I a u):u=v:=by
  unfold concK at h
  split at h
  · split at h
    · rename_i x hx;cases h
      cases r with|agg hr=>rw[concs_rel hx hr]
    · cases h
  · exact conc_rel h r
noncomputable def bytesOf:List AV->Option (List Nat)
  | []=>some []
  | .int .u8 (.ofNat n)::l=>if n<256 then(match bytesOf l with|some r=>some (n::r)|none=>none)else none
  |_=>none
theorem bytesOf_len:∀{l:List AV} {r:List Nat},bytesOf l=some r->r.length=l.length
  | [],r,h=>by simp[bytesOf]at h;subst h;rfl
  | a ::l,r,h=>by
    unfold bytesOf at h
    split at h
    · rename_i e;simp at e
    · rename_i n m e
      simp at e
      obtain⟨_,rfl⟩:=e
      split at h
      · split at h
        · rename_i y hy;cases h;simp[bytesOf_len hy]
        · cases h
      · cases h
    · cases h
theorem bytesOf_get{I:In}:∀{l:List AV} {r:List Nat} {vs:List Value},bytesOf l=some r->VRs I l vs->∀(i:Nat) (n:Nat),r[i]? =some n->n<256/\vs[i]? =some (.int .u8 (.ofNat n))
  | [],r,vs,h,hv,i,n,e=>by simp[bytesOf]at h;subst h;simp at e
  | a :: l, r,vs,h,hv,i,n,e=>by
    unfold bytesOf at h
    split at h
    · rename_i e;simp at e
    · rename_i k m e'
      simp at e'
      obtain⟨rfl,rfl⟩:=e'
      split at h
      · rename_i hk
        split at h
        · rename_i y hy
          cases h
          cases hv with
          | cons h1 h2=>
            cases h1
            cases i with
            |zero=>simp at e;subst e;exact⟨hk,rfl⟩
            |succ i=>exact bytesOf_get hy h2 i n (by simpa using e)
        · cases h
      · cases h
    · cases h
noncomputable def arow (h:T AO) (id off n:Nat):Option (List AV):=
  match h.get id with
  |some (.cells _ _ _ l)=>takeN l off n
  |_=>none
theorem arow_ok{F:Bool->Nat->Prop} {I:In} {h:T AO} {w:World} (hs:Sim F I h w) {id off n b s t:Nat} {l:List AV} (e:arow h id off n=some l) (hi:I id=some (b,s,t)):
    ∃ys:List Value,VRs I l ys/\ys.length=n/\(∀(j:Nat) v,ys[j]? =some v->w.cell? ⟨b,s+off+j,none⟩=some v)/\∃c e fr,w.heap[b]? =some (.cells c e fr)/\(∀(j:Nat) v,ys[j]? =some v->c[s+off+j]? =some v):=by
  unfold arow at e
  split at e
  · rename_i el fz g l0 hg
    obtain⟨ob,hb,ho⟩:=hs.obj _ _ _ _ hg hi
    cases ho with
    | @cells _ _ _ _ _ pre vs rest fr hv hg' hp ht hf hE=>
      obtain⟨ys,h1,h2,h3⟩:=takeN_ok (rest:=rest) hv hp e
      exact⟨ys,h1,h2,λj v hj=>by rw[cell_of hb];exact h3 j v hj,_,_,_,hb,h3⟩
  · cases e
noncomputable def abytes (P:Program) (h:T AO) (s d:TypeId) (x:AV):Option AV:=
  match P.underlying s,P.underlying d with
  | some (.slice e),some .string=>match P.underlying e with
    | some (.int .u8)=>match x with
      | .nsl=>some (.str [])
      | .sl id off n _| .gsl id off n _=>(match arow h id off n with|some l=>(match bytesOf l with|some r=>some (.str r)|none=>none)|none=>none)
      |_=>none
    |_=>none
  |_,_=>none
theorem abytes_key{P:Program} {F:Bool->Nat->Prop} {I:In} {h:T AO} {w:World} (hs:Sim F I h w) {s d e:TypeId} (hsu:P.underlying s=some (.slice e)) (hd:P.underlying d=some .string) (he:P.underlying e=some (.int .u8)) {id off n b ss t c o:Nat} {l:List AV} {r:List Nat} (h1:arow h id off n=some l) (h2:bytesOf l=some r) (hi:I id=some (b,ss,t)) (ho:o=ss+off\/n=0):
    (convert s d (.slice (some ⟨b,o,none⟩) n c)).run P w= .ok (.string (mkS r)) w:=by
  obtain⟨ys,g1,g2,g3,_⟩:=arow_ok hs h1 hi
  have hlen:(mkS r).size=n:=by rw[mkS_size,bytesOf_len h2,g1.len,g2]
  have hB:Lib.Bytes w b o (mkS r):=λi hi'=>by
    have ho:o=ss+off:=by
      rcases ho with ho|ho
      · exact ho
      · rw[hlen,ho]at hi';omega
    subst ho
    have hir:i<r.length:=by rw[mkS_size]at hi';exact hi'
    obtain⟨k1,k2⟩:=bytesOf_get h2 g1 i r[i] (List.getElem?_eq_getElem hir)
    rw[g3 i _ k2]
    have:(mkS r)[i]? =some (UInt8.ofNat r[i]):=by rw[mkS_get,List.getElem?_eq_getElem hir];rfl
    rw[ByteArray.getElem?_lt' _ _ hi']at this
    rw[Option.some.inj this,UInt8.toNat_ofNat',Nat.mod_eq_of_lt k1]
    rfl
  have:=Lib.run_convert_whole (P:=P) w s e d hsu he hd b o (mkS r) hB c
  rw[hlen]at this
  exact this
theorem abytes_ok{P:Program} {F:Bool->Nat->Prop} {I:In} {h:T AO} {w:World} (hs:Sim F I h w) {s d:TypeId} {x r:AV} {u:Value} (e:abytes P h s d x=some r) (hx:VR I x u):
    ∃v,(convert s d u).run P w= .ok v w/\VR I r v:=by
  unfold abytes at e
  split at e
  · rename_i el hsu hd
    split at e
    · rename_i he
      split at e
      · cases e;cases hx
        exact⟨_,by simp[convert,run_underlying hsu,run_underlying hd,run_underlying he,Result.andThen,Conv.bytesToString];rfl, .str []⟩
      · split at e
        · rename_i l hl
          split at e
          · rename_i q hq
            cases e
            cases hx with|sl hI=>exact⟨_,abytes_key hs hsu hd he hl hq hI (.inl rfl), .str _⟩
          · cases e
        · cases e
      · split at e
        · rename_i l hl
          split at e
          · rename_i q hq
            cases e
            cases hx with|gsl hI g1 g2 g3=>exact⟨_,abytes_key hs hsu hd he hl hq hI (g3.imp id λhc=>by omega), .str _⟩
          · cases e
        · cases e
      · cases e
    · cases e
  · cases e
abbrev AEnt:=Value×AV×Nat
noncomputable def findNowI (kind:TypeDesc) (k:Value):List AEnt->Nat->Option (Option (Nat×AV))
  | [],_=>some none
  | e::es,i=>
    match Instr.sameNow kind k e.1 with
    |some true=>some (some (i,e.2.1))
    |some false=>findNowI kind k es (i+1)
    |none=>none
noncomputable def findAskI (P:Program) (kt:TypeId) (k:Value):List AEnt->Nat->Option (Option (Nat×AV))
  | [],_=>some none
  | e::es,i=>
    match evalQ P (Op.equal kt k e.1)with
    |some true=>some (some (i,e.2.1))
    |some false=>findAskI P kt k es (i+1)
    |none=>none
inductive FR(I:In):Option (Nat×AV)->Option (Nat×Value)->Prop
  |none:FR I none none
  |some {i a v} (h:VR I a v):FR I (some (i,a)) (some (i,v))
theorem findNow_rel{I:In} {kind:TypeDesc} {k:Value}:∀{es:List AEnt} {ms:List MapEntry},MR I es ms->∀i,(∀r,findNowI kind k es i=some r->∃r',Instr.findNow kind k ms i=some r'/\FR I r r')/\(findNowI kind k es i=none->Instr.findNow kind k ms i=none)
  |_,_, .nil=>λi=>⟨λr h=>by simp[findNowI]at h;subst h;exact⟨none,rfl, .none⟩,λh=>by simp[findNowI]at h⟩
  | _,_, .cons hv ht=>λi=>by
    have ih:=findNow_rel (kind:=kind) (k:=k) ht (i+1)
    constructor
    · intro r h
      simp only[findNowI]at h
      simp only[Instr.findNow]
      split at h
      · rename_i e;cases h;rw[e];exact⟨_,rfl, .some hv⟩
      · rename_i e;rw[e];exact ih.1 r h
      · cases h
    · intro h
      simp only[findNowI]at h
      simp only[Instr.findNow]
      split at h
      · cases h
      · rename_i e;rw[e];exact ih.2 h
      · rename_i e;rw[e]
theorem findAsk_rel{P:Program} {I:In} {kt:TypeId} {k:Value}:∀{es:List AEnt} {ms:List MapEntry},MR I es ms->∀i r,findAskI P kt k es i=some r->∃r',(∀w,(Instr.findAsking kt k ms i).run P w= .ok r' w)/\FR I r r'
  |_,_, .nil=>λi r h=>by simp[findAskI]at h;subst h;exact⟨none,λw=>rfl, .none⟩
  | _,_, .cons hv ht=>λi r h=>by
    simp only[findAskI]at h
    split at h
    · rename_i e;cases h
      exact⟨_,λw=>by simp[Instr.findAsking,evalQ_run P _ _ e w,Result.andThen], .some hv⟩
    · rename_i e
      obtain⟨r',h1,h2⟩:=findAsk_rel ht (i+1) r h
      exact⟨r',λw=>by simp[Instr.findAsking,evalQ_run P _ _ e w,Result.andThen,h1 w],h2⟩
    · cases h
noncomputable def findI (P:Program) (kt:TypeId) (k:Value) (es:List AEnt):Option (Option (Nat×AV)):=
  match P.underlying kt with
  | some d=>match findNowI d k es 0 with
    |some r=>some r
    |none=>findAskI P kt k es 0
  |none=>none
theorem find_rel{P:Program} {I:In} {kt:TypeId} {k:Value} {es:List AEnt} {ms:List MapEntry} (hm:MR I es ms) {r} (h:findI P kt k es=some r):∃r',(∀w,(Instr.findKey kt k ms).run P w= .ok r' w)/\FR I r r':=by
  unfold findI at h
  split at h
  · rename_i d hd
    have key:=findNow_rel (kind:=d) (k:=k) hm 0
    split at h
    · rename_i q hq
      cases h
      obtain⟨r',h1,h2⟩:=key.1 _ hq
      exact⟨r',λw=>by simp[Instr.findKey,run_underlying hd,Result.andThen,h1],h2⟩
    · rename_i hq
      have h0:=key.2 hq
      obtain⟨r',h1,h2⟩:=findAsk_rel hm 0 r h
      exact⟨r',λw=>by simp[Instr.findKey,run_underlying hd,Result.andThen,h0,h1 w],h2⟩
  · cases h
noncomputable def amap (h:T AO) (id:Nat):Option (List AEnt×Nat):=
  match h.get id with
  |some (.map es c)=>some (es,c)
  |_=>none
theorem amap_ok{P:Program} {F:Bool->Nat->Prop} {I:In} {h:T AO} {w:World} (hs:Sim F I h w) {id b:Nat} {t:Nat×Nat} {es:List AEnt} {c:Nat} (e:amap h id=some (es,c)) (hi:I id=some (b,t)):
    ∃ms,MR I es ms/\w.heap[b]? =some (.map ⟨ms⟩ c)/\(getObj b).run P w= .ok (.map ⟨ms⟩ c) w/\h.get id=some (.map es c):=by
  unfold amap at e
  split at e
  · rename_i es' c' hg
    cases e
    obtain⟨ob,hb,ho⟩:=hs.obj _ _ _ _ hg hi
    cases ho with
    | @map _ ms _ hm=>exact⟨ms,hm,hb,by simp[getObj,Sem.run,hb],hg⟩
  · cases e
theorem MR.len{I:In} {es ms} (h:MR I es ms):es.length=ms.length:=by
  induction h with
  |nil=>rfl
  |cons _ _ ih=>simp[ih]
noncomputable def aents (h:T AO) (x:AV):Option (List AEnt):=
  match x with
  | .nmap=>some []
  | .map id=>match amap h id with
    |some (es,_)=>some es
    |none=>none
  |_=>none
noncomputable def alookup (P:Program) (h:T AO) (t:TypeId) (x k:AV) (ok:Bool):Option AV:=
  match P.underlying t with
  | some (.map kt et)=>
    match aents h x,concK k with
    | some es,some kv=>
      match evalQ P (Instr.checkKey es.isEmpty 10000 kt kv)with
      | some ()=>match findI P kt kv es with
        |some (some (_,a))=>some (if ok then .tup [a, .bool true]else a)
        | some none=>match P.info? et with
          | some i=>match i.zero with
            | some z=>match ofVal z with
              |some a=>some (if ok then .tup [a, .bool false]else a)
              |none=>none
            |none=>none
          |none=>none
        |none=>none
      |none=>none
    |_,_=>none
  |_=>none
noncomputable def ltail (kt et:TypeId) (ok:Bool) (key:Value) (ms:Array MapEntry):Sem Value:=do
  Instr.checkKey ms.isEmpty 10000 kt key
  let (v,ok') ←match ←Instr.findKey kt key ms.toList with
    |some (_,v)=>pure (v,true)
    |none=>pure (←zeroValue et,false)
  pure (if ok then .tuple #[v, .bool ok']else v)
theorem aents_ok{P:Program} {F:Bool->Nat->Prop} {I:In} {h:T AO} {w:World} (hs:Sim F I h w) {t kt et:TypeId} (ht:P.underlying t=some (.map kt et)) {x:AV} {u key:Value} {ok:Bool} {es:List AEnt} (e:aents h x=some es) (hx:VR I x u):
    ∃ms,MR I es ms/\(Instr.lookup t u key ok).run P w=(ltail kt et ok key ⟨ms⟩).run P w:=by
  unfold aents at e
  split at e
  · cases e;cases hx
    refine⟨[], .nil,?_⟩
    unfold Instr.lookup ltail
    simp[run_underlying ht,Result.andThen]
    rfl
  · split at e
    · rename_i es' c hm
      cases e
      cases hx with
      | map hI=>
        obtain⟨ms,h1,h2,h3,h4⟩:=amap_ok (P:=P) hs hm hI
        refine⟨ms,h1,?_⟩
        unfold Instr.lookup ltail
        simp[run_underlying ht,Result.andThen,h3]
        rfl
    · cases e
  · cases e
theorem alookup_ok{P:Program} {F:Bool->Nat->Prop} {I:In} {h:T AO} {w:World} (hs:Sim F I h w) {t:TypeId} {x k r:AV} {ok:Bool} {u v:Value} (e:alookup P h t x k ok=some r) (hx:VR I x u) (hk:VR I k v):
    ∃z,(Instr.lookup t u v ok).run P w= .ok z w/\VR I r z:=by
  unfold alookup at e
  split at e
  · rename_i kt et ht
    split at e
    · rename_i es kv hes hkv
      have hv:=concK_rel hkv hk
      subst hv
      split at e
      · rename_i hck
        have hck':=evalQ_run P _ _ hck w
        obtain⟨ms,hm,hrun⟩:=aents_ok (P:=P) (ok:=ok) (key:=v) hs ht hes hx
        have hemp:es.isEmpty=ms.isEmpty:=by
          cases hm<;>rfl
        rw[hemp]at hck'
        rw[hrun]
        split at e
        · rename_i i a hf
          obtain⟨r',h1,h2⟩:=find_rel hm hf
          cases h2 with
          | some hva=>
            cases ok
            · cases e;exact⟨_,by simp[ltail,hck',h1 w,Result.andThen],hva⟩
            · cases e;exact⟨_,by simp[ltail,hck',h1 w,Result.andThen], .tup (.cons hva (.cons (.bool _) .nil))⟩
        · rename_i hf
          obtain⟨r',h1,h2⟩:=find_rel hm hf
          cases h2
          split at e
          · rename_i i hi
            split at e
            · rename_i z hz
              split at e
              · rename_i a ha
                have hzr:(zeroValue et).run P w= .ok z w:=by simp[zeroValue,typeInfo,program,Sem.run,hi,bind,Sem.bind,pure,hz]
                have hza:=ofVal_rel I _ _ ha
                cases ok
                · cases e;exact⟨_,by simp[ltail,hck',h1 w,Result.andThen,hzr],hza⟩
                · cases e;exact⟨_,by simp[ltail,hck',h1 w,Result.andThen,hzr], .tup (.cons hza (.cons (.bool _) .nil))⟩
              · cases e
            · cases e
          · cases e
        · cases e
      · cases e
    · cases e
  · cases e
noncomputable def asafe (P:Program) (h:T AO) (s d:TypeId) (x:AV):Option AV:=
  match x with
  | .ptr id off=>match h.get id with
    | some (.cells e _ false l)=>match P.underlying s,P.underlying d with
      | some (.pointer t),some .unsafePointer=>match P.info? t with
        |some j=>if j.size=0 then none else if off<l.length then some (.ptr id off)else none
        |none=>none
      | some .unsafePointer,some (.pointer u)=>match P.info? u with
        | some _=>match liesAt P P.depth e (l.length / P.cellsOf e) off u 1 with
          |true=>some (.ptr id off)
          |false=>none
        |none=>none
      |_,_=>none
    |_=>none
  |_=>none
theorem asafe_ok {P:Program} {F:Bool->Nat->Prop} {I:In} {h:T AO} {w:World} (hs:Sim F I h w) {s d:TypeId} {x r:AV} {u:Value} (e:asafe P h s d x=some r) (hx:VR I x u):
    ∃v,(convert s d u).run P w= .ok v w/\VR I r v:=by
  unfold asafe at e
  split at e
  · rename_i id off
    split at e
    · rename_i el fz l hg
      cases hx with
      | @ptr _ _ b s0 t0 hI=>
        obtain⟨ob,hb,ho⟩:=hs.obj _ _ _ _ hg hI
        cases ho with
        | @cells _ _ _ _ _ pre vs rest fr hv hg' hp ht hf hE=>
          obtain⟨rfl,rfl⟩:=hg' rfl
          rcases hE with hE|⟨_,hE⟩
          case inr=>cases hE
          have hE:=hE.symm
          subst hE
          have h0:s0=0:=by simpa using hp.symm
          subst h0
          have hsh:w.shape? b=some (el,l.length):=by
            simp[World.shape?,hb,hv.len]
          split at e
          · rename_i t hs1 hd1
            split at e
            · rename_i j hj
              split at e
              · cases e
              · rename_i hjs
                split at e
                · rename_i hlt
                  cases e
                  exact⟨_,Lib.run_to_unsafe (P:=P) w (⟨b,0+off,none⟩:Addr) hs1 hd1 hj hjs hsh (by simpa using hlt), .ptr hI⟩
                · cases e
            · cases e
          · rename_i t hs1 hd1
            split at e
            · rename_i j hj
              split at e
              · rename_i hl
                cases e
                exact⟨_,Lib.run_from_unsafe (P:=P) w (⟨b,0+off,none⟩:Addr) hs1 hd1 hj hsh (by simpa using hl), .ptr hI⟩
              · cases e
            · cases e
          · cases e
    · cases e
  · cases e
noncomputable def rop (P:Program) (t:T AV) (h:T AO) (o:Oper):Option AV:=
  match o.op with
  | .load ty x=>match ev t x with
    |some (.ptr id off)=>aload P h ty id off
    |_=>none
  | .convert s d x=>match ev t x with
    | some a=>match abytes P h s d a with
      |some r=>some r
      |none=>asafe P h s d a
    |none=>none
  | .lookup ty x k ok=>match ev t x,ev t k with
    |some a,some b=>alookup P h ty a b ok
    |_,_=>none
  | .call c=>match c.callee with
    | .builtin .len=>match evs t c.args.toList,c.argTypes.toList with
      | some [.map id],ty::_=>match P.underlying ty with
        | some (.map ..)=>match amap h id with
          |some (es,_)=>some (.int .i64 (.ofNat es.length))
          |none=>none
        |_=>none
      |_,_=>none
    |_=>none
  |_=>none
theorem rop_ok{P:Program} {F:Bool->Nat->Prop} {I:In} {t:T AV} {h:T AO} {a:Act} {w:World} {o:Oper} {r:AV} (e:rop P t h o=some r) (ht:TR I t a.tmps) (hs:Sim F I h w):
    ∃v,(execOp a.eval o).run P w= .ok (.value v) w/\VR I r v:=by
  obtain⟨dst,op,ty,pos,after,guard⟩:=o
  have lift:∀{s:Sem Value} {v:Value},s.run P w= .ok v w->(do pure (.value (←s)):Sem Next).run P w= .ok (.value v) w:=λhs=>by simp[hs,Result.andThen]
  cases op with
  | load lt x=>
    simp only[rop]at e
    split at e
    · rename_i id off hx
      have h1:=ev_ok ht hx
      generalize hv:a.eval x=v at h1
      cases h1 with
      | ptr hI=>
        obtain⟨z,g1,g2⟩:=aload_ok hs e hI
        refine⟨z,?_,g2⟩
        simp only[execOp,Instr.loadAt,hv]
        exact lift (by simp[Instr.sureAddr,g1,Result.andThen])
    · cases e
  | convert s d x=>
    simp only[rop]at e
    split at e
    · rename_i hx
      split at e
      · rename_i r' hb
        cases e
        obtain⟨z,g1,g2⟩:=abytes_ok hs hb (ev_ok ht hx)
        exact⟨z,lift g1,g2⟩
      · obtain⟨z,g1,g2⟩:=asafe_ok hs e (ev_ok ht hx)
        exact⟨z,lift g1,g2⟩
    · cases e
  | lookup lt x k ok=>
    simp only[rop]at e
    split at e
    · rename_i hx hk
      obtain⟨z,g1,g2⟩:=alookup_ok hs e (ev_ok ht hx) (ev_ok ht hk)
      exact⟨z,lift g1,g2⟩
    · cases e
  | call c=>
    simp only[rop]at e
    split at e
    · rename_i hb
      split at e
      · rename_i id t0 tr hargs hts
        split at e
        · rename_i kt et hu
          split at e
          · rename_i es cl hm
            cases e
            have h1:=evs_ok ht hargs
            obtain⟨v,hv,hvr⟩:=vrs1 h1
            cases hvr with
            | @map _ bb tt hI=>
              obtain⟨ms,k1,k2,k3,k4⟩:=amap_ok (P:=P) hs hm hI
              refine⟨_,?_, .int _ _⟩
              have e2:c.args.map a.eval=⟨[Value.map (some bb)]⟩:=by apply Array.toList_inj.1;simpa using hv
              have e3:c.argTypes=⟨t0::tr⟩:=by apply Array.toList_inj.1;exact hts
              simp only[execOp,resolve,hb,Sem.run_bind,Sem.run_pure,Result.andThen,invoke,builtin]
              rw[e2,e3]
              simp[Builtin.len_,run_underlying hu,k3,Result.andThen,goInt,k1.len]
          · cases e
        · cases e
      · cases e
    · cases e
  |_=>simp[rop]at e
noncomputable def zrow (z:List AV):Nat->List AV
  |0=>[]
  |n+1=>z++zrow z n
noncomputable def aop (P:Program) (t:T AV) (nx:Nat) (o:Oper):Option (AV×AO):=
  match o.op with
  | .alloc e=>match zeroAV P e with
    |some z=>some (.ptr nx 0, .cells e (some 0) false z)
    |none=>none
  | .box e x=>match ev t x with
    |some a=>some (.ptr nx 0, .cells e (some 0) false (cellsAV a))
    |none=>none
  | .makeMap _ none=>some (.map nx, .map [] 0)
  | .makeMap ty (some x)=>match P.underlying ty,ev t x with
    |some (.map ..),some (.int _ _)=>some (.map nx, .map [] 0)
    |_,_=>none
  | .buildSlice ty n parts=>match P.underlying ty with
    | some (.slice e)=>match P.info? e with
      | some i=>if n*i.size>2 ^ 24 then none else
        match(if n*i.size=0 then some []else zeroAV P e),aparts t parts.toList with
        |some z,some ps=>if z.length=i.size\/n*i.size=0 then
            (match afill (λk=>some (k*i.size,i.size)) (if n*i.size=0 then []else zrow z n) ps with
            |some l=>some (.sl nx 0 n n, .cells e (some 0) false l)
            |none=>none)else none
        |_,_=>none
      |none=>none
    |_=>none
  | .makeSlice ty x y=>match P.underlying ty,ev t x,ev t y with
    | some (.slice e),some (.int .i64 (.ofNat n)),some (.int .i64 (.ofNat c))=>match P.info? e with
      | some i=>if n<=c/\i.bytes*c<=2 ^ 47/\c<2 ^ 47 then
        (match(if c*i.size=0 then some []else zeroAV P e)with
        |some z=>if z.length=i.size\/c*i.size=0 then some (.sl nx 0 n c, .cells e (some 0) false (if c*i.size=0 then []else zrow z c))else none
        |none=>none)else none
      |none=>none
    |_,_,_=>none
  | .convert s d x=>match P.underlying s,P.underlying d,ev t x with
    | some .string,some (.slice e),some (.str l)=>match P.underlying e with
      |some (.int .u8)=>some (.gsl nx 0 l.length 1, .cells e (some 0) true (l.map λb=> .int .u8 (.ofNat (b % 256))))
      |_=>none
    |_,_,_=>none
  |_=>none
noncomputable def zrowV (z:List Value):Nat->List Value
  |0=>[]
  |n+1=>z++zrowV z n
theorem zrow_rel{I:In} {z:List AV} {u:List Value} (h:VRs I z u):∀n,VRs I (zrow z n) (zrowV u n)
  |0=> .nil
  |n+1=>VRs.append h (zrow_rel h n)
theorem range_row(z:Array Value):∀n,(List.range (n*z.size)).map (λi=>z[i % z.size]!)=zrowV z.toList n
  |0=>by simp[zrowV]
  | n + 1=>by
    rw[Nat.succ_mul,Nat.add_comm,List.range_add,List.map_append,zrowV]
    congr 1
    · apply List.ext_getElem?
      intro i
      rw[List.getElem?_map]
      by_cases hi:i<z.size
      · rw[List.getElem?_range hi]
        simp[Nat.mod_eq_of_lt hi,hi]
      · rw[List.getElem?_eq_none (by simpa using hi)]
        simp;omega
    · rw[←range_row z n,List.map_map]
      apply List.map_congr_left
      intro i _
      simp
theorem zrow_array(z:Array Value) (n:Nat):(Array.range (n*z.size)).map (λi=>z[i % z.size]!)=(⟨zrowV z.toList n⟩:Array Value):=by
  apply Array.toList_inj.1
  rw[Array.toList_map,Array.toList_range,range_row]
noncomputable def Makes (P:Program) (I:In) (s:Sem Next) (nx:Nat) (v:AV) (ob:AO):Prop:=
  ∀w,∃z obj tot w',s.run P w= .ok (.value z) w'/\w'.heap=w.heap.push obj/\Same w w'/\∀I':In,I.le I'->I' nx=some (w.heap.size,tot)->VR I' v z/\OR I' tot ob obj
theorem makes_row{P:Program} {I:In} {nx:Nat} {e:TypeId} {l:List AV} {vs:List Value} (h:VRs I l vs) {s:Sem Value} {v:AV} {f:Addr->Value} (hs:∀w,s.run P w= .ok (f ⟨w.heap.size,0,none⟩) (w.alloc (.cells ⟨vs⟩ e)))
    (hv:∀(I':In) b,I' nx=some (b,0,vs.length)->VR I' v (f ⟨b,0,none⟩)):Makes P I (do pure (.value (←s))) nx v (.cells e (some 0) false l):=λw=>by
  refine⟨_, .cells ⟨vs⟩ e,(0,vs.length),w.alloc (.cells ⟨vs⟩ e),by simp[hs w,Result.andThen],rfl,⟨rfl,rfl,rfl⟩,λI' hl hI=>⟨hv I' _ hI,?_⟩⟩
  have:=OR.cells (I:=I') (t:=(0,vs.length)) (elem:=e) (fz:=some 0) (g:=false) (l:=l) (pre:=[]) (vs:=vs) (rest:=[]) (fr:=(0,0)) (VRs.mono hl h) (λ_=>⟨rfl,rfl⟩) rfl (by simp) (λ_ _ o _ _=>by simp) (.inl rfl)
  simpa using this
theorem grownCap_ge(w:World) (n m:Nat) (e:TypeId):n<=grownCap w n m e:=by
  unfold grownCap Question.cut
  exact Nat.le_add_right _ _
theorem bytes_rel(I:In):∀l:List Nat,VRs I (l.map λb=>AV.int .u8 (.ofNat (b % 256))) (l.map λb=>Value.int .u8 ((UInt8.ofNat b).toNat:Int))
  | []=> .nil
  | b ::l=> .cons (by
      show VR I (.int .u8 (.ofNat (b % 256))) (.int .u8 ((UInt8.ofNat b).toNat:Int))
      rw[UInt8.toNat_ofNat'];exact .int _ _) (bytes_rel I l)
theorem bytesWorld_heap(w:World) (e:TypeId) (s:ByteArray):(Lib.bytesWorld w e s).heap=w.heap.push (.cells (Lib.bytesCells w e s) e ((Lib.bytesCells w e s).size,(Lib.bytesCells w e s).size+1)):=by
  apply Array.ext_getElem?
  intro i
  rw[Array.getElem?_push]
  by_cases h:i=w.heap.size
  · subst h;rw[if_pos rfl,Lib.bytesWorld_at_new]
  · rw[if_neg h]
    by_cases h2:i<w.heap.size
    · exact Lib.bytesWorld_at_old w e s i h2
    · rw[Array.getElem?_eq_none (by rw[Lib.bytesWorld_size];omega),Array.getElem?_eq_none (by omega)]
theorem aop_ok {P : Program} {I:In} {t:T AV} {a:Act} {o:Oper} {nx:Nat} {v:AV} {ob:AO} (e:aop P t nx o=some (v,ob)) (ht:TR I t a.tmps):Makes P I (execOp a.eval o) nx v ob:=by
  obtain⟨dst,op,ty,pos,after,guard⟩:=o
  cases op with
  | alloc el=>
    simp only[aop]at e
    split at e
    · rename_i z hz
      cases e
      obtain⟨zv,h1,h2⟩:=zeroAV_ok hz I
      exact makes_row (f:=λad=> .pointer (some ad)) h2 (λw=>by simp[Instr.alloc,h1 w,Result.andThen,newVar,newRow,newObj,Sem.run]) (λI' b hI=> .ptr' hI rfl)
    · cases e
  | box el x=>
    simp only[aop]at e
    split at e
    · rename_i z hz
      cases e
      exact makes_row (f:=λad=> .pointer (some ad)) (cells_rel (ev_ok ht hz)) (λw=>by simp[Instr.box,Result.andThen,newVar,newRow,newObj,Sem.run]) (λI' b hI=> .ptr' hI rfl)
    · cases e
  | makeMap mt r=>
    cases r with
    | none=>
      simp only[aop]at e
      cases e
      intro w
      refine⟨.map (some w.heap.size), .map #[] 0,(0,0),w.alloc (.map #[] 0),by simp[execOp,Instr.makeMap,newObj,Sem.run,Result.andThen],rfl,⟨rfl,rfl,rfl⟩,λI' hl hI=>⟨.map hI, .map .nil⟩⟩
    | some x=>
      simp only[aop]at e
      split at e
      · rename_i kt et k n hu hx
        cases e
        have h1:=ev_ok ht hx
        generalize hv:a.eval x=xv at h1
        cases h1
        intro w
        refine⟨.map (some w.heap.size), .map #[] 0,(0,0),w.alloc (.map #[] 0),by simp[execOp,Instr.makeMap,newObj,Sem.run,Result.andThen,hv,run_underlying hu,asInt,asIntOf],rfl,⟨rfl,rfl,rfl⟩,λI' hl hI=>⟨.map hI, .map .nil⟩⟩
      · cases e
  | buildSlice st n parts=>
    simp only[aop]at e
    split at e
    · rename_i el hu
      split at e
      · rename_i i hi
        split at e
        · cases e
        · rename_i hbig
          split at e
          · rename_i z ps hz hps
            split at e
            · rename_i hzl
              split at e
              · rename_i l hl
                cases e
                have hpr:=aparts_ok ht hps
                have key:∀(zs:List Value) (m:Array Value),VRs I (if n*i.size=0 then []else zrow z n) zs->(n*i.size=0/\m= #[]\/¬n*i.size=0/\∃zv,(∀w,(zeroValue el).run P w= .ok zv w)/\m=zv.cells)->((Array.range (n*i.size)).map (λk=>m[k % m.size]!))=⟨zs⟩->Makes P I (do pure (.value (←Instr.buildSlice st n (parts.map λ(i,x)=>(i,a.eval x))))) nx (.sl nx 0 n n) (.cells el (some 0) false l):=λzs m hr hrun hrow=>by
                  obtain⟨us,h3,h4⟩:=fill_rel (λk=>some (k*i.size,i.size)) hpr _ _ _ hr hl
                  refine makes_row (f:=λad=> .slice (some ad) n n) h4 (λw=> ?_) (λI' b hI=> .sl' hI rfl)
                  have h5:Instr.fill (λi_1=>some (i_1*i.size,i.size)) ⟨zs⟩ (parts.map λ(i,x)=>(i,a.eval x)).toList=some ⟨us⟩:=by simpa using h3
                  simp only[Instr.buildSlice,Sem.run_bind,run_underlying hu,Result.andThen,run_sizeOf hi,if_neg hbig]
                  rcases hrun with⟨g0,rfl⟩|⟨g0,zv,g1,rfl⟩
                  · simp only[if_pos g0,Sem.run_bind,Sem.run_pure,Result.andThen,hrow]
                    rw[h5]
                    simp[newRow,newObj,Sem.run,Result.andThen]
                  · simp only[if_neg g0,Sem.run_bind,Sem.run_pure,Result.andThen,g1 w,hrow]
                    rw[h5]
                    simp[newRow,newObj,Sem.run,Result.andThen]
                by_cases hn:n*i.size=0
                · refine key [] #[] (by rw[if_pos hn];exact .nil) (.inl ⟨hn,rfl⟩) (by rw[hn];simp)
                · rw[if_neg hn]at hz
                  obtain⟨zv,h1,h2⟩:=zeroAV_ok hz I
                  have hsz:zv.cells.size=i.size:=by
                    rw[←Array.length_toList,←h2.len]
                    rcases hzl with h|h
                    · exact h
                    · exact absurd h hn
                  refine key (zrowV zv.cells.toList n) zv.cells (by rw[if_neg hn];exact zrow_rel h2 n) (.inr ⟨hn,zv,h1,rfl⟩) (by rw[←hsz];exact zrow_array zv.cells n)
              · cases e
            · cases e
          · cases e
      · cases e
    · cases e
  | makeSlice st x y=>
    simp only[aop]at e
    split at e
    · rename_i el n c hu hx hy
      split at e
      · rename_i i hi
        split at e
        · rename_i hb
          obtain⟨hnc,hbc,hc⟩:=hb
          split at e
          · rename_i z hz
            split at e
            · rename_i hzl
              cases e
              have hx1:=ev_ok ht hx
              generalize hxv:a.eval x=xv at hx1
              have hy1:=ev_ok ht hy
              generalize hyv:a.eval y=yv at hy1
              cases hx1
              cases hy1
              have wn:IntKind.i64.wrap (Int.ofNat n)=n:=by simp[IntKind.wrap,IntKind.bits,IntKind.signed];omega
              have wc:IntKind.i64.wrap (Int.ofNat c)=c:=by simp[IntKind.wrap,IntKind.bits,IntKind.signed];omega
              have key:∀(zs:List Value) (m:Array Value),VRs I (if c*i.size=0 then []else zrow z c) zs->(c*i.size=0/\m= #[]\/¬c*i.size=0/\∃zv,(∀w,(zeroValue el).run P w= .ok zv w)/\m=zv.cells)->((Array.range (c*i.size)).map (λk=>m[k % m.size]!))=⟨zs⟩->Makes P I (do pure (.value (←Instr.makeSlice st (.int .i64 (.ofNat n)) (.int .i64 (.ofNat c))))) nx (.sl nx 0 n c) (.cells el (some 0) false (if c*i.size=0 then []else zrow z c)):=λzs m hr hrun hrow=>by
                refine makes_row (f:=λad=> .slice (some ad) n c) hr (λw=> ?_) (λI' b hI=> .sl' hI rfl)
                have hti:(typeInfo el).run P w= .ok i w:=by simp[typeInfo,program,Sem.run,hi,bind,Sem.bind,pure]
                have b1:((i.bytes*c:Nat):Int)<=2 ^ 47:=by exact_mod_cast hbc
                have b2:((i.bytes:Int)*(c:Int))<=2 ^ 47:=by rw[←Int.natCast_mul];exact b1
                have t1:((decide ((c:Int)<0))||decide ((i.bytes:Int)*(c:Int)>2 ^ 48))=false:=by
                  simp only[Bool.or_eq_false_iff,decide_eq_false_iff_not]
                  omega
                have t2:¬(c*i.bytes>roomBytes):=Nat.not_lt.2 (by rw[Nat.mul_comm];exact hbc)
                simp only[Instr.makeSlice,asInt,asIntOf,Sem.run_bind,run_underlying hu,Sem.run_pure,Result.andThen,hti,wn,wc]
                have t0:(decide ((c:Int)<0)||decide ((i.bytes:Int)*(c:Int)>2 ^ 48)||decide ((n:Int)<0)||decide ((n:Int)>(c:Int)))=false:=by
                  rw[t1]
                  simp only[Bool.false_or,Bool.or_eq_false_iff,decide_eq_false_iff_not]
                  exact⟨by omega,by omega⟩
                rw[t0]
                simp only[Bool.false_eq_true,if_false,Sem.run_bind,askRoom,Int.toNat_natCast,if_neg t2,Sem.run_pure,Result.andThen,run_sizeOf hi]
                rcases hrun with⟨g0,rfl⟩|⟨g0,zv,g1,rfl⟩
                · simp only[if_pos g0,Sem.run_bind,Sem.run_pure,Result.andThen,hrow]
                  simp[newRow,newObj,Sem.run,Result.andThen]
                · simp only[if_neg g0,Sem.run_bind,Sem.run_pure,Result.andThen,g1 w,hrow]
                  simp[newRow,newObj,Sem.run,Result.andThen]
              simp only[execOp,hxv,hyv]
              by_cases hn:c*i.size=0
              · refine key [] #[] (by rw[if_pos hn];exact .nil) (.inl ⟨hn,rfl⟩) (by rw[hn];simp)
              · rw[if_neg hn]at hz
                obtain⟨zv,h1,h2⟩:=zeroAV_ok hz I
                have hsz:zv.cells.size=i.size:=by
                  rw[←Array.length_toList,←h2.len]
                  rcases hzl with h|h
                  · exact h
                  · exact absurd h hn
                refine key (zrowV zv.cells.toList c) zv.cells (by rw[if_neg hn];exact zrow_rel h2 c) (.inr ⟨hn,zv,h1,rfl⟩) (by rw[←hsz];exact zrow_array zv.cells c)
            · cases e
          · cases e
        · cases e
      · cases e
    · cases e
  | convert s d x=>
    simp only[aop]at e
    split at e
    · rename_i el l hs hd hx
      split at e
      · rename_i he
        cases e
        have hx1:=ev_ok ht hx
        generalize hxv:a.eval x=xv at hx1
        cases hx1
        simp only[execOp,hxv]
        intro w
        have hrun:=Lib.run_convert_string_bytes (P:=P) w s d el (mkS l) hs hd he
        rw[mkS_size]at hrun
        have hheap:=bytesWorld_heap w el (mkS l)
        refine⟨_,_,(0,(Lib.bytesCells w el (mkS l)).size),_,by simp[hrun,Result.andThen];rfl,hheap,⟨rfl,rfl,rfl⟩,λI' hl hI=>⟨.gsl hI ?_ ?_ (.inl rfl),?_⟩⟩
        · exact grownCap_ge w l.length 0 el
        · have:(Lib.bytesCells w el (mkS l)).size=l.length+(grownCap w l.length 0 el- l.length):=by
            simp only[Lib.bytesCells,mkS_size]
            simp[mkS]
          have:=grownCap_ge w l.length 0 el
          omega
        · have hr:=bytes_rel I' l
          have hc:Lib.bytesCells w el (mkS l)=⟨(l.map λb=>Value.int .u8 ((UInt8.ofNat b).toNat:Int))++List.replicate (grownCap w l.length 0 el- l.length) (.int .u8 0)⟩:=by
            apply Array.toList_inj.1
            simp only[Lib.bytesCells,mkS_size]
            simp[mkS]
          rw[hc]
          exact .cells (pre:=[]) hr (λh=>by cases h) rfl rfl (λ_ _ o h1 h2=>by simp at h2⊢;omega) (.inl rfl)
      · cases e
    · cases e
  |_=>simp[aop]at e
end Go.Proofs.YtldhaghgonkknaaDoor.Old
