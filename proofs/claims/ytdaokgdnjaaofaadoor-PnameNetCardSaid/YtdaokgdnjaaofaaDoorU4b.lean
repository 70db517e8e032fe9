/-
  The machine with unknown values: questions reckoned out of the code. No condition but what its theorems ask.
-/
import Derived.Test.YtdaokgdnjaaofaaDoorU4
import Derived.Laws.Externs
import Derived.Lib.Bytealg
import Derived.Lib.MakeNoZero
namespace Go.Proofs.YtdaokgdnjaaofaaDoor.Eng
open Go.RowKit
set_option linter.defProp false
set_option linter.unusedVariables false
set_option linter.unusedSimpArgs false
variable {gl:T AV}
noncomputable section
inductive EK where
 |same
 |idx
 |cnt
def EK.row:EK->Array Value->Sem Value
 | .same=>Extern.AbiNoEscape.same
 | .idx=>Extern.BytealgIndexByte.indexByte
 | .cnt=>Extern.BytealgCount.count
def idxOf:List Nat->Nat->Nat->Option Nat
  | [],_,_=>none
  | a::l,b,i=>match Nat.beq (Nat.mod a 256) b with
    |true=>some i
    |false=>idxOf l b (Nat.add i 1)
def qct:List Nat->Nat->Nat->Nat
  | [],_,n=>n
  | a::l,b,n=>match Nat.beq (Nat.mod a 256) b with
    |true=>qct l b (Nat.add n 1)
    |false=>qct l b n
def qrh:EK->List AV->Option AV
 | .same,[x]=>some x
 | .idx,[.str l, .int .u8 (.ofNat b)]=>if b<256 then some (.int .i64 (match idxOf l b 0 with|some i=> .ofNat i|none=> .negSucc 0))else none
 | .cnt,[.str l, .int .u8 (.ofNat b)]=>if b<256 then some (.int .i64 (.ofNat (qct l b 0)))else none
 |_,_=>none
def qpb:List (Nat×EK)->Nat->Option EK
  | [],_=>none
  | (g,k)::l,f=>match Nat.beq f g with
    |true=>some k
    |false=>qpb l f
def qbm:∀{l f k},qpb l f=some k->(f,k)∈l
  | (g,k')::l,f,k,e=>by
    simp only[qpb]at e
    split at e
    · rename_i h
      have:=Nat.eq_of_beq_eq_true h;subst this;cases e;exact .head _
    · exact .tail _ (qbm e)
def qri(tab:List (Nat×EK)):q14:=λf l=>match qpb tab f with
 |some k=>qrh k l
 |none=>none
def qk3(P:Program) (f:Nat) (e:Array Value->Sem Value):Prop:=∃fn,P.funcs[f]? =some fn/\(fn.name== "runtime.NumGoroutine")=false/\fn.body.isNone=true/\Extern.findNext fn=none/\Extern.find fn=some e
def q9h(a b:Nat) (hb:b<256):(UInt8.ofNat a==UInt8.ofNat b)=Nat.beq (a % 256) b:=by
 rw[qea]
 by_cases h:a % 256=b
 ·rw[decide_eq_true h,beq_iff_eq,ofNat_eq,Nat.mod_eq_of_lt hb];exact h
 ·rw[decide_eq_false h,beq_eq_false_iff_ne]
  intro e;rw[ofNat_eq,Nat.mod_eq_of_lt hb]at e;exact h e
def qbt(b:Nat) (hb:b<256):∀(l:List Nat) (i:Nat),idxOf l b i=((List.range l.length).find? λj=>(l.map UInt8.ofNat)[j]! ==UInt8.ofNat b).map (i+ ·)
  | [],i=>rfl
  | a ::l,i=>by
    rw[List.length_cons,List.range_succ_eq_map,List.find?_cons,idxOf]
    have h0:((List.map UInt8.ofNat (a::l))[0]! ==UInt8.ofNat b)=Nat.beq (Nat.mod a 256) b:=by
      simp only[List.map_cons,List.getElem!_cons_zero];exact q9h a b hb
    rw[h0]
    cases Nat.beq (Nat.mod a 256) b with
    |true=>simp
    | false=>
      simp only
      rw[qbt b hb l (Nat.add i 1),List.find?_map]
      have:((λj=>(List.map UInt8.ofNat (a::l))[j]! ==UInt8.ofNat b)∘Nat.succ)=λj=>(List.map UInt8.ofNat l)[j]! ==UInt8.ofNat b:=by
        funext j;simp
      rw[this,Option.map_map]
      congr 1
      funext j;show i+1+j=i+(j+1);omega
def q8a(b:Nat) (hb:b<256):∀(l:List Nat) (n:Nat),qct l b n=n+(l.map UInt8.ofNat).count (UInt8.ofNat b)
  | [],n=>rfl
  | a ::l,n=>by
    rw[qct,List.map_cons,List.count_cons,q9h a b hb]
    cases h:Nat.beq (a % 256) b with
    | true=>
      have h':Nat.beq (Nat.mod a 256) b=true:=h
      simp only[h']
      rw[q8a b hb l (Nat.add n 1)]
      show n+1+_=_
      simp only[if_true];omega
    | false=>
      have h':Nat.beq (Nat.mod a 256) b=false:=h
      simp only[h']
      rw[q8a b hb l n]
      simp
def qqi {P:Program} {tab:List (Nat×EK)} (h:∀f k,(f,k)∈tab->qk3 P f k.row):q4t P (qri tab):=by
 intro f l r e I vs hv
 unfold qri at e
 split at e
 ·rename_i k hk
  obtain⟨fn,h1,h2,h3,h4,h5⟩:=h f k (qbm hk)
  have hrun:=λw=>run_callFunc_extern h1 h2 h3 h4 h5 ⟨vs⟩ w
  unfold qrh at e
  split at e
  ·cases e
   obtain⟨v,rfl,hvr⟩:=qdc hv
   exact⟨v,λw=>by rw[hrun w];rfl,hvr⟩
  ·rename_i l b
   split at e
   ·rename_i hb
    cases e
    obtain⟨v,u,rfl,hv1,hv2⟩:=qk1 hv
    cases hv1;cases hv2
    have hf:firstIdx (mkS l) (Int.toNat (Int.ofNat b)).toUInt8=match idxOf l b 0 with|some i=>Int.ofNat i|none=> .negSucc 0:=by
     unfold firstIdx
     rw[qbt b hb l 0,q0u]
     have he:(λi:Nat=>(mkS l)[i]! ==(Int.toNat (Int.ofNat b)).toUInt8)=λj=>(l.map UInt8.ofNat)[j]! ==UInt8.ofNat b:=by
      funext j
      have h1:(mkS l)[j]! =(l.map UInt8.ofNat)[j]! :=by
       rw[getElem!_def,getElem!_def,qay,List.getElem?_map]
      rw[h1];rfl
     rw[he]
     cases(List.range l.length).find? λj=>(l.map UInt8.ofNat)[j]! ==UInt8.ofNat b with
     |none=>rfl
     |some i=>simp
    refine⟨_,λw=>by rw[hrun w];exact congrArg (λr=>Result.andThen r λv w'=>Result.ok (Next.value v) w') (run_indexByte_string (P:=P) (mkS l) (Int.ofNat b) w),?_⟩
    rw[hf];exact .int _ _
   ·cases e
  ·rename_i l b
   split at e
   ·rename_i hb
    cases e
    obtain⟨v,u,rfl,hv1,hv2⟩:=qk1 hv
    cases hv1;cases hv2
    refine⟨_,λw=>by rw[hrun w];exact congrArg (λr=>Result.andThen r λv w'=>Result.ok (Next.value v) w') (Lib.run_countString (P:=P) (mkS l) (Int.ofNat b) w),?_⟩
    have hc:Lib.countByte (mkS l).data.toList (Int.toNat (Int.ofNat b)).toUInt8=qct l b 0:=by
     rw[q8a b hb l 0,Nat.zero_add]
     unfold Lib.countByte
     have:(mkS l).data.toList=l.map UInt8.ofNat:=by simp[mkS]
     rw[this];rfl
    rw[hc];exact .int _ _
   ·cases e
  ·cases e
 ·cases e
inductive R3 where
 |bad
 |ok (k:Kd) (v:AV) (ob:Option AO) (h:T AO) (nx:Nat)
abbrev OpF:=Oper->Program->q03->q14->T AV->T AO->Nat->R3
def r3:Option qgq->R3
 |some (k,v,ob,h,nx)=> .ok k v ob h nx
 |none=> .bad
def q0a(o:Oper) (P:Program) (call:q03) (ext:q14) (t:T AV) (h:T AO) (nx:Nat):R3:=r3 (q46 P call ext t h nx o)
def q1(r:Option AV) (h:T AO) (nx:Nat):R3:= @Option.rec AV (λ_=>R3) .bad (λr=> .ok .q r none h nx) r
def rd1(r:Option AV) (h:T AO) (nx:Nat):R3:= @Option.rec AV (λ_=>R3) .bad (λr=> .ok .r r none h nx) r
def s1(r:Option (T AO)) (nx:Nat):R3:= @Option.rec (T AO) (λ_=>R3) .bad (λh'=> .ok .s q0c none h' nx) r
def s3(r:Option (AV×T AO×Nat)):R3:= @Option.rec (AV×T AO×Nat) (λ_=>R3) .bad (λp=> .ok .s p.1 none p.2.1 p.2.2) r
inductive Pth where
 |bad
 |h
 |o (p:Pth)
 |i (p:Pth)
def q1h:Nat->Nat->Pth:= @Nat.rec (λ_=>Nat->Pth) (λ_=> .bad) (λ_ ih k=> @Nat.rec (λ_=>Pth) .h (λk _=> @Bool.rec (λ_=>Pth) (.i (ih (Nat.div k 2))) (.o (ih (Nat.div k 2))) (Nat.beq (Nat.mod k 2) 0)) k)
def pth(k:Nat):Pth:=q1h 19 k
def qjc{α:Type}:T α->Pth->Option α:= @T.rec α (λ_=>Pth->Option α) (λ_=>none) (λ_ v _ gl gr p=> @Pth.rec (λ_=>Option α) none v (λp _=>gl p) (λp _=>gr p) p)
def qic{α:Type} (x:Option α):Pth->Option (T α):= @Pth.rec (λ_=>Option (T α)) none (some (.n .e x .e)) (λ_ ih=> @Option.rec (T α) (λ_=>Option (T α)) none (λu=>some (.n u none .e)) ih) (λ_ ih=> @Option.rec (T α) (λ_=>Option (T α)) none (λu=>some (.n .e none u)) ih)
def qc7{α:Type} (x:Option α):T α->Pth->Option (T α):= @T.rec α (λ_=>Pth->Option (T α)) (qic x) (λl v r pl pr p=> @Pth.rec (λ_=>Option (T α)) none (some (.n l x r))
 (λp _=> @Option.rec (T α) (λ_=>Option (T α)) none (λu=>some (.n u v r)) (pl p))
 (λp _=> @Option.rec (T α) (λ_=>Option (T α)) none (λu=>some (.n l v u)) (pr p)) p)
def qrp:Value->Option AV:= @Value.rec (λ_=>Option AV) (λ_=>PUnit) (λ_=>PUnit) (λb=>some (.bool b)) (λk n=>some (.int k n)) (λk b=>q0n (.float k b)) (λk r i=>q0n (.complex k r i)) (λs=>some (.str (s.data.toList.map UInt8.toNat))) (λa=>q0n (.pointer a)) (λa l c=>q0n (.slice a l c)) (λr=>q0n (.map r)) (λr=>q0n (.chan r)) (λf a b i1 i2=>q0n (.func f a b)) (some .nilf) (λt v ih=>q0n (.iface t v)) (some .nili) (λc ih=>q0n (.agg c)) (λv ih=>q0n (.tuple v)) (λ_ _=>PUnit.unit) PUnit.unit (λ_ _ _ _=>PUnit.unit)
def evF:Operand->T AV->Option AV:= @Operand.rec (λ_=>T AV->Option AV) (λn t=>qjc t (pth n)) (λv _=>qrp v) (λg t=>t.get (q10+g)) (λf _=>some (.fn f []))
def qnr:IntKind->Int->Bool:= @IntKind.rec (λ_=>Int->Bool) (λ_=>false) (λ_=>false) (@Int.rec (λ_=>Bool) (λn=>Nat.ble n 2147483647) (λn=>Nat.ble n 2147483647)) (@Int.rec (λ_=>Bool) (λn=>Nat.ble n 9223372036854775807) (λn=>Nat.ble n 9223372036854775807)) (@Int.rec (λ_=>Bool) (λn=>Nat.ble n 255) (λn=>false)) (λ_=>false) (@Int.rec (λ_=>Bool) (λn=>Nat.ble n 4294967295) (λn=>false)) (@Int.rec (λ_=>Bool) (λn=>Nat.ble n 18446744073709551615) (λn=>false))
def qm8:IntKind->IntKind->Bool:= @IntKind.rec (λ_=>IntKind->Bool) (λ_=>false) (λ_=>false) (@IntKind.rec (λ_=>Bool) (false) (false) (true) (false) (false) (false) (false) (false)) (@IntKind.rec (λ_=>Bool) (false) (false) (false) (true) (false) (false) (false) (false)) (@IntKind.rec (λ_=>Bool) (false) (false) (false) (false) (true) (false) (false) (false)) (λ_=>false) (@IntKind.rec (λ_=>Bool) (false) (false) (false) (false) (false) (false) (true) (false)) (@IntKind.rec (λ_=>Bool) (false) (false) (false) (false) (false) (false) (false) (true))
def qr7(x y:Int):Int:= @Int.rec (λ_=>Int) (λm=> @Int.rec (λ_=>Int) (λn=> .ofNat (Nat.add m n)) (λn=>Int.add (.ofNat m) (.negSucc n)) y) (λm=>Int.add (.negSucc m) y) x
def ltF(x y:Int):Bool:= @Int.rec (λ_=>Bool) (λm=> @Int.rec (λ_=>Bool) (λn=>Nat.blt m n) (λ_=>false) y) (λm=>ltI (.negSucc m) y) x
def eqF(x y:Int):Bool:= @Int.rec (λ_=>Bool) (λm=> @Int.rec (λ_=>Bool) (λn=>Nat.beq m n) (λ_=>false) y) (λm=>eqI (.negSucc m) y) x
def chk(k:IntKind) (r:Int):Option AV:= @Bool.rec (λ_=>Option AV) none (some (.int k r)) (qnr k r)
def ql6:BinOp->IntKind->Int->Int->Option AV:= @BinOp.rec (λ_=>IntKind->Int->Int->Option AV) (λk x y=>chk k (qr7 x y)) (λk x y=>chk k (Int.sub x y)) (λ_ _ _=>none) (λ_ _ _=>none) (λ_ _ _=>none) (λ_ _ _=>none) (λ_ _ _=>none) (λ_ _ _=>none) (λ_ _ _=>none) (λ_ _ _=>none) (λ_ _ _=>none) (λ_ x y=>some (.bool (eqF x y))) (λ_ x y=>some (.bool (!eqF x y))) (λ_ x y=>some (.bool (ltF x y))) (λ_ x y=>some (.bool (!ltF y x))) (λ_ x y=>some (.bool (ltF y x))) (λ_ x y=>some (.bool (!ltF x y)))
def q01(P:Program) (op:BinOp) (xt:TypeId) (y:Operand) (a b:AV):Option AV:=qaa P op xt y a b
def qrc:AV->IntKind->Int->Program->BinOp->TypeId->Operand->AV->Option AV:= @AV.rec (λ_=>IntKind->Int->Program->BinOp->TypeId->Operand->AV->Option AV) (λ_=>PUnit) (λx0=>λ_ _ P op xt y a=>q01 P op xt y a (.bool x0)) (λk' n'=>λk n P op xt y a=> @Bool.rec (λ_=>Option AV) (q01 P op xt y a (.int k' n')) (@Option.rec AV (λ_=>Option AV) (q01 P op xt y a (.int k' n')) some (ql6 op k n n')) (qm8 k k')) (λx0=>λ_ _ P op xt y a=>q01 P op xt y a (.str x0)) (λ_ _ P op xt y a=>q01 P op xt y a (.nilp)) (λx0 x1=>λ_ _ P op xt y a=>q01 P op xt y a (.ptr x0 x1)) (λ_ _ P op xt y a=>q01 P op xt y a (.nsl)) (λx0 x1 x2 x3=>λ_ _ P op xt y a=>q01 P op xt y a (.sl x0 x1 x2 x3)) (λx0 x1 x2 x3=>λ_ _ P op xt y a=>q01 P op xt y a (.gsl x0 x1 x2 x3)) (λ_ _ P op xt y a=>q01 P op xt y a (.nmap)) (λx0=>λ_ _ P op xt y a=>q01 P op xt y a (.map x0)) (λx0 x1 _=>λ_ _ P op xt y a=>q01 P op xt y a (.fn x0 x1)) (λ_ _ P op xt y a=>q01 P op xt y a (.nilf)) (λ_ _ P op xt y a=>q01 P op xt y a (.nili)) (λx0 x1 _=>λ_ _ P op xt y a=>q01 P op xt y a (.ifc x0 x1)) (λ_ _ P op xt y a=>q01 P op xt y a (.ifo)) (λx0=>λ_ _ P op xt y a=>q01 P op xt y a (.anyi x0)) (λx0 x1 x2=>λ_ _ P op xt y a=>q01 P op xt y a (.lin x0 x1 x2)) (λx0 x1 x2 _ _=>λ_ _ P op xt y a=>q01 P op xt y a (.bfn x0 x1 x2)) (λx0 _=>λ_ _ P op xt y a=>q01 P op xt y a (.agg x0)) (λx0 _=>λ_ _ P op xt y a=>q01 P op xt y a (.tup x0)) (λx0=>λ_ _ P op xt y a=>q01 P op xt y a (.sv x0)) (λx0=>λ_ _ P op xt y a=>q01 P op xt y a (.tsl x0)) (λx0 x1 x2 x3 x4=>λ_ _ P op xt y a=>q01 P op xt y a (.ssl x0 x1 x2 x3 x4)) (λx0 x1 x2=>λ_ _ P op xt y a=>q01 P op xt y a (.msl x0 x1 x2)) (λx0 x1 x2 x3=>λ_ _ P op xt y a=>q01 P op xt y a (.usl x0 x1 x2 x3)) (λx0 x1=>λ_ _ P op xt y a=>q01 P op xt y a (.sptr x0 x1)) (λx0=>λ_ _ P op xt y a=>q01 P op xt y a (.tpt x0)) (λx0=>λ_ _ P op xt y a=>q01 P op xt y a (.tmap x0)) PUnit.unit (λ_ _ _ _=>PUnit.unit)
def qrd:AV->AV->Program->BinOp->TypeId->Operand->Option AV:= @AV.rec (λ_=>AV->Program->BinOp->TypeId->Operand->Option AV) (λ_=>PUnit) (λx0=>λb P op xt y=>q01 P op xt y (.bool x0) b) (λk n=>λb P op xt y=>qrc b k n P op xt y (.int k n)) (λx0=>λb P op xt y=>q01 P op xt y (.str x0) b) (λb P op xt y=>q01 P op xt y (.nilp) b) (λx0 x1=>λb P op xt y=>q01 P op xt y (.ptr x0 x1) b) (λb P op xt y=>q01 P op xt y (.nsl) b) (λx0 x1 x2 x3=>λb P op xt y=>q01 P op xt y (.sl x0 x1 x2 x3) b) (λx0 x1 x2 x3=>λb P op xt y=>q01 P op xt y (.gsl x0 x1 x2 x3) b) (λb P op xt y=>q01 P op xt y (.nmap) b) (λx0=>λb P op xt y=>q01 P op xt y (.map x0) b) (λx0 x1 _=>λb P op xt y=>q01 P op xt y (.fn x0 x1) b) (λb P op xt y=>q01 P op xt y (.nilf) b) (λb P op xt y=>q01 P op xt y (.nili) b) (λx0 x1 _=>λb P op xt y=>q01 P op xt y (.ifc x0 x1) b) (λb P op xt y=>q01 P op xt y (.ifo) b) (λx0=>λb P op xt y=>q01 P op xt y (.anyi x0) b) (λx0 x1 x2=>λb P op xt y=>q01 P op xt y (.lin x0 x1 x2) b) (λx0 x1 x2 _ _=>λb P op xt y=>q01 P op xt y (.bfn x0 x1 x2) b) (λx0 _=>λb P op xt y=>q01 P op xt y (.agg x0) b) (λx0 _=>λb P op xt y=>q01 P op xt y (.tup x0) b) (λx0=>λb P op xt y=>q01 P op xt y (.sv x0) b) (λx0=>λb P op xt y=>q01 P op xt y (.tsl x0) b) (λx0 x1 x2 x3 x4=>λb P op xt y=>q01 P op xt y (.ssl x0 x1 x2 x3 x4) b) (λx0 x1 x2=>λb P op xt y=>q01 P op xt y (.msl x0 x1 x2) b) (λx0 x1 x2 x3=>λb P op xt y=>q01 P op xt y (.usl x0 x1 x2 x3) b) (λx0 x1=>λb P op xt y=>q01 P op xt y (.sptr x0 x1) b) (λx0=>λb P op xt y=>q01 P op xt y (.tpt x0) b) (λx0=>λb P op xt y=>q01 P op xt y (.tmap x0) b) PUnit.unit (λ_ _ _ _=>PUnit.unit)
def ldA:AV->TypeId->Program->T AO->Nat->R3:= @AV.rec (λ_=>TypeId->Program->T AO->Nat->R3) (λ_=>PUnit) (λ_=>λ_ _ _ _=> .bad) (λ_ _=>λ_ _ _ _=> .bad) (λ_=>λ_ _ _ _=> .bad) (λ_ _ _ _=> .bad) (λid off=>λty P h nx=>rd1 (qcl P h ty id off) h nx) (λ_ _ _ _=> .bad) (λ_ _ _ _=>λ_ _ _ _=> .bad) (λ_ _ _ _=>λ_ _ _ _=> .bad) (λ_ _ _ _=> .bad) (λ_=>λ_ _ _ _=> .bad) (λ_ _ _=>λ_ _ _ _=> .bad) (λ_ _ _ _=> .bad) (λ_ _ _ _=> .bad) (λ_ _ _=>λ_ _ _ _=> .bad) (λ_ _ _ _=> .bad) (λ_=>λ_ _ _ _=> .bad) (λ_ _ _=>λ_ _ _ _=> .bad) (λ_ _ _ _ _=>λ_ _ _ _=> .bad) (λ_ _=>λ_ _ _ _=> .bad) (λ_ _=>λ_ _ _ _=> .bad) (λ_=>λ_ _ _ _=> .bad) (λ_=>λ_ _ _ _=> .bad) (λ_ _ _ _ _=>λ_ _ _ _=> .bad) (λ_ _ _=>λ_ _ _ _=> .bad) (λ_ _ _ _=>λ_ _ _ _=> .bad) (λ_ _=>λ_ _ _ _=> .bad) (λ_=>λ_ _ _ _=> .bad) (λ_=>λ_ _ _ _=> .bad) PUnit.unit (λ_ _ _ _=>PUnit.unit)
def stA:AV->TypeId->AV->Program->T AO->Nat->R3:= @AV.rec (λ_=>TypeId->AV->Program->T AO->Nat->R3) (λ_=>PUnit) (λ_=>λ_ _ _ _ _=> .bad) (λ_ _=>λ_ _ _ _ _=> .bad) (λ_=>λ_ _ _ _ _=> .bad) (λ_ _ _ _ _=> .bad) (λid off=>λty b P h nx=>s1 (q5n P h ty id off b) nx) (λ_ _ _ _ _=> .bad) (λ_ _ _ _=>λ_ _ _ _ _=> .bad) (λ_ _ _ _=>λ_ _ _ _ _=> .bad) (λ_ _ _ _ _=> .bad) (λ_=>λ_ _ _ _ _=> .bad) (λ_ _ _=>λ_ _ _ _ _=> .bad) (λ_ _ _ _ _=> .bad) (λ_ _ _ _ _=> .bad) (λ_ _ _=>λ_ _ _ _ _=> .bad) (λ_ _ _ _ _=> .bad) (λ_=>λ_ _ _ _ _=> .bad) (λ_ _ _=>λ_ _ _ _ _=> .bad) (λ_ _ _ _ _=>λ_ _ _ _ _=> .bad) (λ_ _=>λ_ _ _ _ _=> .bad) (λ_ _=>λ_ _ _ _ _=> .bad) (λ_=>λ_ _ _ _ _=> .bad) (λ_=>λ_ _ _ _ _=> .bad) (λ_ _ _ _ _=>λ_ _ _ _ _=> .bad) (λ_ _ _=>λ_ _ _ _ _=> .bad) (λ_ _ _ _=>λ_ _ _ _ _=> .bad) (λ_ _=>λ_ _ _ _ _=> .bad) (λ_=>λ_ _ _ _ _=> .bad) (λ_=>λ_ _ _ _ _=> .bad) PUnit.unit (λ_ _ _ _=>PUnit.unit)
def qno(x:Operand) (o:Oper) (P:Program) (call:q03) (ext:q14) (t:T AV) (h:T AO) (nx:Nat):R3:=q1 (evF x t) h nx
def qqk(ty:TypeId) (x:Operand) (o:Oper) (P:Program) (call:q03) (ext:q14) (t:T AV) (h:T AO) (nx:Nat):R3:= @Option.rec AV (λ_=>R3) .bad (λa=>ldA a ty P h nx) (evF x t)
def qnq(ty:TypeId) (x y:Operand) (o:Oper) (P:Program) (call:q03) (ext:q14) (t:T AV) (h:T AO) (nx:Nat):R3:= @Option.rec AV (λ_=>R3) .bad (λa=> @Option.rec AV (λ_=>R3) .bad (λb=>stA a ty b P h nx) (evF y t)) (evF x t)
def qrz(op:BinOp) (xt:TypeId) (x y:Operand) (yt:TypeId) (o:Oper) (P:Program) (call:q03) (ext:q14) (t:T AV) (h:T AO) (nx:Nat):R3:= @Option.rec AV (λ_=>R3) .bad (λa=> @Option.rec AV (λ_=>R3) .bad (λb=>q1 (qrd a b P op xt y) h nx) (evF y t)) (evF x t)
def qcw(xt:TypeId) (x:Operand) (f:Nat) (o:Oper) (P:Program) (call:q03) (ext:q14) (t:T AV) (h:T AO) (nx:Nat):R3:= @Option.rec AV (λ_=>R3) .bad (λa=>q1 (qbd P xt a f) h nx) (evF x t)
def qnm(xt:TypeId) (x:Operand) (f:Nat) (o:Oper) (P:Program) (call:q03) (ext:q14) (t:T AV) (h:T AO) (nx:Nat):R3:= @Option.rec AV (λ_=>R3) .bad (λa=>q1 (qp5 P xt a f) h nx) (evF x t)
def qho(x:Operand) (i:Nat) (o:Oper) (P:Program) (call:q03) (ext:q14) (t:T AV) (h:T AO) (nx:Nat):R3:= @Option.rec AV (λ_=>R3) .bad (λa=>q1 (qp4 a i) h nx) (evF x t)
def qcx(xt:TypeId) (x y:Operand) (o:Oper) (P:Program) (call:q03) (ext:q14) (t:T AV) (h:T AO) (nx:Nat):R3:= @Option.rec AV (λ_=>R3) .bad (λa=> @Option.rec AV (λ_=>R3) .bad (λb=>q1 (q2y P xt a b) h nx) (evF y t)) (evF x t)
def qnn(xt:TypeId) (x y:Operand) (o:Oper) (P:Program) (call:q03) (ext:q14) (t:T AV) (h:T AO) (nx:Nat):R3:= @Option.rec AV (λ_=>R3) .bad (λa=> @Option.rec AV (λ_=>R3) .bad (λb=>q1 (qbf P xt a b) h nx) (evF y t)) (evF x t)
def qqz(b:Bool) (a:Operand) (c:Operand) (t:T AV) (h:T AO) (nx:Nat):R3:= @Bool.rec (λ_=>R3) (q1 (evF c t) h nx) (q1 (evF a t) h nx) b
def qeg:AV->Option Bool:= @AV.rec (λ_=>Option Bool) (λ_=>PUnit) (λb=>some b) (λ_ _=>none) (λ_=>none) (none) (λ_ _=>none) (none) (λ_ _ _ _=>none) (λ_ _ _ _=>none) (none) (λ_=>none) (λ_ _ _=>none) (none) (none) (λ_ _ _=>none) (none) (λ_=>none) (λ_ _ _=>none) (λ_ _ _ _ _=>none) (λ_ _=>none) (λ_ _=>none) (λ_=>none) (λ_=>none) (λ_ _ _ _ _=>none) (λ_ _ _=>none) (λ_ _ _ _=>none) (λ_ _=>none) (λ_=>none) (λ_=>none) PUnit.unit (λ_ _ _ _=>PUnit.unit)
def qql(c a b:Operand) (o:Oper) (P:Program) (call:q03) (ext:q14) (t:T AV) (h:T AO) (nx:Nat):R3:= @Option.rec AV (λ_=>R3) .bad (λa'=> @Option.rec Bool (λ_=>R3) .bad (λv=>qqz v a b t h nx) (qeg a')) (evF c t)
def qs4:AV->T AO->Nat->R3:= @AV.rec (λ_=>T AO->Nat->R3) (λ_=>PUnit) (λ_=>λ_ _=> .bad) (λ_ _=>λ_ _=> .bad) (λ_=>λ_ _=> .bad) (λ_ _=> .bad) (λi f=>λh nx=> .ok .q (.ptr i f) none h nx) (λ_ _=> .bad) (λ_ _ _ _=>λ_ _=> .bad) (λ_ _ _ _=>λ_ _=> .bad) (λ_ _=> .bad) (λ_=>λ_ _=> .bad) (λf c _=>λh nx=> .ok .q (.fn f c) none h nx) (λ_ _=> .bad) (λ_ _=> .bad) (λf c _=>λh nx=> .ok .q (.ifc f c) none h nx) (λ_ _=> .bad) (λ_=>λ_ _=> .bad) (λ_ _ _=>λ_ _=> .bad) (λf b c _ _=>λh nx=> .ok .q (.bfn f b c) none h nx) (λ_ _=>λ_ _=> .bad) (λ_ _=>λ_ _=> .bad) (λ_=>λ_ _=> .bad) (λ_=>λ_ _=> .bad) (λ_ _ _ _ _=>λ_ _=> .bad) (λ_ _ _=>λ_ _=> .bad) (λ_ _ _ _=>λ_ _=> .bad) (λ_ _=>λ_ _=> .bad) (λ_=>λ_ _=> .bad) (λ_=>λ_ _=> .bad) PUnit.unit (λ_ _ _ _=>PUnit.unit)
def qez(x:Operand) (o:Oper) (P:Program) (call:q03) (ext:q14) (t:T AV) (h:T AO) (nx:Nat):R3:= @Option.rec AV (λ_=>R3) .bad (λa=>qs4 a h nx) (evF x t)
def mkF(v:AV) (ob:AO) (h:T AO) (nx:Nat):R3:= @Option.rec (T AO) (λ_=>R3) .bad (λh'=> .ok .a v (some ob) h' (nx+1)) (T.put 64 nx (some ob) h)
def qnl(e:TypeId) (o:Oper) (P:Program) (call:q03) (ext:q14) (t:T AV) (h:T AO) (nx:Nat):R3:= @Option.rec (List AV) (λ_=>R3) .bad (λz=>mkF (.ptr nx 0) (.cells e (some 0) false z) h nx) (q1v P e)
def qs0(e:TypeId) (x:Operand) (o:Oper) (P:Program) (call:q03) (ext:q14) (t:T AV) (h:T AO) (nx:Nat):R3:= @Option.rec AV (λ_=>R3) .bad (λa=>mkF (.ptr nx 0) (.cells e (some 0) false (q2p a)) h nx) (evF x t)
def qnk(t:T AV) (x:Option Operand):Option (Option AV):= @Option.rec Operand (λ_=>Option (Option AV)) (some none) (λx=> @Option.rec AV (λ_=>Option (Option AV)) none (λa=>some (some a)) (evF x t)) x
def qnp(ty:TypeId) (x:Operand) (lo hi mx:Option Operand) (o:Oper) (P:Program) (call:q03) (ext:q14) (t:T AV) (h:T AO) (nx:Nat):R3:= @Option.rec Operand (λ_=>R3) (@Option.rec AV (λ_=>R3) .bad (λa=> @Option.rec (Option AV) (λ_=>R3) .bad (λl=> @Option.rec (Option AV) (λ_=>R3) .bad (λr=>q1 (qbg P ty a l r) h nx) (qnk t hi)) (qnk t lo)) (evF x t)) (λ_=> .bad) mx
def qhn(s d:TypeId) (x:Operand) (o:Oper) (P:Program) (call:q03) (ext:q14) (t:T AV) (h:T AO) (nx:Nat):R3:= @Option.rec AV (λ_=>R3) .bad (λa=> @Option.rec AV (λ_=>R3) (q0a o P call ext t h nx) (λr=> .ok .q r none h nx) (qds P s d a)) (evF x t)
def qei(call:q03) (ext:q14) (h:T AO) (nx:Nat) (g:Nat) (l:List AV):R3:= @Option.rec AV (λ_=>R3) (s3 (call g l h nx)) (λr=> .ok .s r none h nx) (ext g l)
def qew(t:T AV):List Operand->Option (List AV):= @List.rec Operand (λ_=>Option (List AV)) (some []) (λx _ ih=> @Option.rec AV (λ_=>Option (List AV)) none (λa=> @Option.rec (List AV) (λ_=>Option (List AV)) none (λr=>some (a::r)) ih) (evF x t))
def clA:AV->Option (List AV)->q03->q14->T AO->Nat->R3:= @AV.rec (λ_=>Option (List AV)->q03->q14->T AO->Nat->R3) (λ_=>PUnit) (λ_=>λ_ _ _ _ _=> .bad) (λ_ _=>λ_ _ _ _ _=> .bad) (λ_=>λ_ _ _ _ _=> .bad) (λ_ _ _ _ _=> .bad) (λ_ _=>λ_ _ _ _ _=> .bad) (λ_ _ _ _ _=> .bad) (λ_ _ _ _=>λ_ _ _ _ _=> .bad) (λ_ _ _ _=>λ_ _ _ _ _=> .bad) (λ_ _ _ _ _=> .bad) (λ_=>λ_ _ _ _ _=> .bad) (λg caps _=>λl call ext h nx=> @Option.rec (List AV) (λ_=>R3) .bad (λl=>qei call ext h nx g (l++caps)) l) (λ_ _ _ _ _=> .bad) (λ_ _ _ _ _=> .bad) (λ_ _ _=>λ_ _ _ _ _=> .bad) (λ_ _ _ _ _=> .bad) (λ_=>λ_ _ _ _ _=> .bad) (λ_ _ _=>λ_ _ _ _ _=> .bad) (λg first caps _ _=>λl call ext h nx=> @Option.rec (List AV) (λ_=>R3) .bad (λl=>qei call ext h nx g (first++(l++caps))) l) (λ_ _=>λ_ _ _ _ _=> .bad) (λ_ _=>λ_ _ _ _ _=> .bad) (λ_=>λ_ _ _ _ _=> .bad) (λ_=>λ_ _ _ _ _=> .bad) (λ_ _ _ _ _=>λ_ _ _ _ _=> .bad) (λ_ _ _=>λ_ _ _ _ _=> .bad) (λ_ _ _ _=>λ_ _ _ _ _=> .bad) (λ_ _=>λ_ _ _ _ _=> .bad) (λ_=>λ_ _ _ _ _=> .bad) (λ_=>λ_ _ _ _ _=> .bad) PUnit.unit (λ_ _ _ _=>PUnit.unit)
def qs1(c:Call) (o:Oper) (P:Program) (call:q03) (ext:q14) (t:T AV) (h:T AO) (nx:Nat):R3:= @Option.rec AV (λ_=>R3) (q0a o P call ext t h nx) (λr=> .ok .q r none h nx) (@Option.rec (List AV) (λ_=>Option AV) none (λl=>q2x P .len c.argTypes.toList l) (qew t c.args.toList))
def ql4(c:Call) (o:Oper) (P:Program) (call:q03) (ext:q14) (t:T AV) (h:T AO) (nx:Nat):R3:=s3 (match qew t c.args.toList with|some [d,x]=>q1q P h nx c.argTypes.toList d x|_=>none)
def qhm:Builtin->Call->OpF:= @Builtin.rec (λ_=>Call->OpF) (ql4) (λ_=>q0a) (λ_=>q0a) (λ_=>q0a) (λ_=>q0a) (λ_=>q0a) (λ_=>q0a) (λ_=>q0a) (qs1) (λ_=>q0a) (λ_=>q0a) (λ_=>q0a) (λ_=>q0a) (λ_=>q0a) (λ_=>q0a) (λ_=>q0a) (λ_=>q0a) (λ_=>q0a) (λ_=>q0a) (λ_=>q0a) (λ_=>q0a) (λ_=>q0a) (λ_=>q0a) (λ_=>q0a) (λ_=>q0a) (λ_=>q0a)
def ql5:Callee->Call->OpF:= @Callee.rec (λ_=>Call->OpF) (λf c o P call ext t h nx=> @Option.rec AV (λ_=>R3) .bad (λa=>clA a (qew t c.args.toList) call ext h nx) (evF f t)) (λ_ _ _=>q0a) qhm
def qqj(c:Call) (o:Oper) (P:Program) (call:q03) (ext:q14) (t:T AV) (h:T AO) (nx:Nat):R3:=ql5 c.callee c o P call ext t h nx
def opF:Op->OpF:= @Op.rec (λ_=>OpF) qno qno qql qnl qs0 (λ_ _=>q0a) (λ_ _ _=>q0a) (λ_ _ _ _=>q0a) qqk qnq (λ_=>q0a) (λ_=>q0a) qez qrz (λ_ _ _=>q0a) qhn (λ_ _=>q0a) (λ_ _=>q0a) (λ_ _ _=>q0a) (λ_ _=>q0a) (λ_ _=>q0a) (λ_ _ _=>q0a) qnp qcw qnm qcx qnn (λ_ _ _ _=>q0a) (λ_ _ _ _=>q0a) (λ_ _ _=>q0a) (λ_ _ _ _=>q0a) (λ_ _=>q0a) (λ_ _=>q0a) (λ_=>q0a) (λ_ _ _ _=>q0a) qho qqj (λ_=>q0a) (λ_=>q0a) (λ_=>q0a) (λ_ _=>q0a) (λ_ _ _=>q0a) (λ_ _=>q0a)
def qmy(o:Oper):Program->q03->q14->T AV->T AO->Nat->R3:=opF o.op o
inductive Res where
 |bad
 |nrm (t:T AV) (h:T AO) (nx:Nat)
 |ex (id:Nat) (t:T AV) (h:T AO) (nx:Nat)
 |rt (t:T AV) (h:T AO) (nx:Nat)
structure Env where
 P:Program
 call:q03
 ext:q14
 reg:Array Oper->T AV->T AO->Nat->Res
 n:Nat
 N:Nat
def qid(n:Nat) (dst:Option Tmp) (v:AV) (t:T AV):Option (T AV):= @Option.rec Tmp (λ_=>Option (T AV)) (some t) (λd=> @Bool.rec (λ_=>Option (T AV)) none (qc7 (some v) t (pth d)) (Nat.blt d n)) dst
def q9v(E:Env) (o:Oper) (ih:T AV->T AO->Nat->Res) (t:T AV) (h:T AO) (nx:Nat):Res:=
 @R3.rec (λ_=>Res) .bad (λk v ob h' nx'=> @Option.rec (T AV) (λ_=>Res) .bad (λt'=>ih t' h' nx') (qid E.n o.dst v t)) (qmy o E.P E.call E.ext t h nx)
def stepG(E:Env) (ops:Array Oper) (o:Oper) (ih:T AV->T AO->Nat->Res) (t:T AV) (h:T AO) (nx:Nat):Res:=
 @Option.rec Bool (λ_=>Res) .bad (λb=> @Bool.rec (λ_=>Res)
  (@Option.rec (T AV) (λ_=>Res) .bad (λt'=>ih t' h nx) (qid E.n o.dst q0c t)) (q9v E o ih t h nx) b) (q21 t ops o)
def qd3(E:Env) (ops:Array Oper):List Oper->T AV->T AO->Nat->Res:= @List.rec Oper (λ_=>T AV->T AO->Nat->Res) (λt h nx=> .nrm t h nx) (λo _ ih t h nx=>
 @Option.rec (Nat×Bool) (λ_=>Res) (q9v E o ih t h nx) (λ_=>stepG E ops o ih t h nx) o.guard)
abbrev qmt:=Env->T AV->T AO->Nat->Res
def qos(r:Res) (k:T AV->T AO->Nat->Res):Res:= @Res.rec (λ_=>Res) .bad k (λid t h nx=> .ex id t h nx) (λt h nx=> .rt t h nx) r
def qre(id:Nat) (r:Res):Res:= @Res.rec (λ_=>Res) .bad (λt h nx=> .nrm t h nx) (λj t h nx=> @Bool.rec (λ_=>Res) (.ex j t h nx) (.nrm t h nx) (Nat.beq j id)) (λt h nx=> .rt t h nx) r
def qn7(a:Option AV) (x y:Res):Res:= @Option.rec AV (λ_=>Res) .bad (λa=> @Option.rec Bool (λ_=>Res) .bad (λb=> @Bool.rec (λ_=>Res) y x b) (qeg a)) a
def qli(c:T AV->T AO->Nat->Res) (N:Nat):T AV->T AO->Nat->Res:= @Nat.rec (λ_=>T AV->T AO->Nat->Res) (λ_ _ _=> .bad) (λ_ ih t h nx=>qos (c t h nx) ih) N
def q3v:Code->qmt:= @Code.rec (λ_=>qmt)
 (λ_ t h nx=> .nrm t h nx)
 (λ_ ops draw E t h nx=> @Bool.rec (λ_=>Res) (qd3 E ops ops.toList t h nx) (E.reg ops t h nx) draw)
 (λ_ _ ia ib E t h nx=>qos (ia E t h nx) (ib E))
 (λx _ _ ia ib E t h nx=>qn7 (evF x t) (ia E t h nx) (ib E t h nx))
 (λid _ ia E t h nx=>qre id (ia E t h nx))
 (λ_ ia E t h nx=>qli (ia E) E.N t h nx)
 (λ_ _ _ _ _ _ _ _ _ _=> .bad)
 (λid _ t h nx=> .ex id t h nx)
 (λ_ _ _ _ _ _=> .bad)
 (λ_ _ t h nx=> .nrm t h nx)
 (λ_ _ _ _ _=> .bad)
 (λ_ t h nx=> .rt t h nx)
 (λ_ _ _ _ _=> .bad)
def qmm(P:Program) (fn:Func) (t:T AV) (h:T AO) (nx:Nat):Option (AV×T AO×Nat):= @Option.rec (List AV) (λ_=>Option (AV×T AO×Nat)) none (λr=>some (q9i r,h,nx)) (q0o P t h fn.results.toList)
def qaj(P:Program) (ext:q14) (regOf:q03->Nat->Array Oper->T AV->T AO->Nat->Res) (N:Nat) (gl:T AV) (wrap:q03->q03):Nat->q03:= @Nat.rec (λ_=>q03) (λ_ _ _ _=>none) (λ_ ih f args h nx=>
  match P.funcs[f]? with
  | some fn=>match fn.body with
    | some c=>match(if args.length<q10 then q8h args 0 gl else none)with
      |some t=> @Res.rec (λ_=>Option (AV×T AO×Nat)) none (λt' h' nx'=>qmm P fn t' h' nx') (λ_ _ _ _=>none) (λt' h' nx'=>qmm P fn t' h' nx') (q3v c ⟨P,wrap ih,ext,regOf (wrap ih) (args.length+(fn.ntmps- args.length)),args.length+(fn.ntmps- args.length),N⟩ t h nx)
      |none=>none
    |none=>none
  |none=>none)
inductive RD where
 |bad
 |ok (rs:List Rc) (t:T AV) (h:T AO) (nx:Nat)
def qkv(c:Rc) (r:RD):RD:= @RD.rec (λ_=>RD) .bad (λrs t h nx=> .ok (c::rs) t h nx) r
def q8s(t:T AV):List Nat->T AV->Option (T AV):= @List.rec Nat (λ_=>T AV->Option (T AV)) (λacc=>some acc) (λn _ ih acc=>
 @Option.rec AV (λ_=>Option (T AV)) (@Bool.rec (λ_=>Option (T AV)) (match q2d t [n] acc with|some acc'=>ih acc'|none=>none) (ih acc) (Nat.blt n 500000)) (λa=> @Option.rec (T AV) (λ_=>Option (T AV)) none (λacc'=>ih acc') (qc7 (some a) acc (pth n))) (qjc t (pth n)))
def qiq(P:Program) (call:q03) (ext:q14) (n:Nat) (o:Oper) (ih:T AV->T AO->Nat->RD) (tr t:T AV) (h:T AO) (nx:Nat):RD:=
 @R3.rec (λ_=>RD) .bad (λk v ob h' nx'=> @Option.rec (T AV) (λ_=>RD) .bad (λt'=>qkv ⟨o,true,k,tr,v,ob,nx,h⟩ (ih t' h' nx')) (qid n o.dst v t)) (qmy o P call ext tr h nx)
def qjz(P:Program) (call:q03) (ext:q14) (n:Nat) (ops:Array Oper) (o:Oper) (ih:T AV->T AO->Nat->RD) (tr t:T AV) (h:T AO) (nx:Nat):RD:=
 @Option.rec Bool (λ_=>RD) .bad (λb=> @Bool.rec (λ_=>RD)
  (@Option.rec (T AV) (λ_=>RD) .bad (λt'=>qkv ⟨o,false, .q,tr,q0c,none,nx,h⟩ (ih t' h nx)) (qid n o.dst q0c t)) (qiq P call ext n o ih tr t h nx) b) (q21 tr ops o)
def qor(P:Program) (call:q03) (ext:q14) (n:Nat) (ops:Array Oper):List Oper->T AV->T AO->Nat->RD:= @List.rec Oper (λ_=>T AV->T AO->Nat->RD) (λt h nx=> .ok [] t h nx) (λo _ ih t h nx=>
 @Option.rec (T AV) (λ_=>RD) .bad (λtr=> @Option.rec (Nat×Bool) (λ_=>RD) (qiq P call ext n o ih tr t h nx) (λ_=>qjz P call ext n ops o ih tr t h nx) o.guard) (q8s t (slotsOf ops o) .e))
def qgz(P:Program) (call:q03) (ext:q14) (n:Nat) (ops:Array Oper) (t:T AV) (h:T AO) (nx:Nat):Res:=
 @Option.rec (List Nat) (λ_=>Res) .bad (λA=> @Option.rec q4u (λ_=>Res) .bad (λpr=>
  @RD.rec (λ_=>Res) .bad (λrs t' h' nx'=> @Bool.rec (λ_=>Res) .bad (.nrm t' h' nx') (qeo P ops A rs h'&&q4h P pr rs h')) (qor P call ext n ops ops.toList t h nx)) (qif P ops A)) (q86 ops.toList 0 [])
def q33(f:Nat):q1h (f+1) 0= .h:=rfl
def q23(f k:Nat):q1h (f+1) (k+1)=match Nat.beq (Nat.mod k 2) 0 with|true=> .o (q1h f (Nat.div k 2))|false=> .i (q1h f (Nat.div k 2)):=by
 show @Bool.rec (λ_=>Pth) (.i (q1h f (Nat.div k 2))) (.o (q1h f (Nat.div k 2))) (Nat.beq (Nat.mod k 2) 0)=_
 cases Nat.beq (Nat.mod k 2) 0<;>rfl
def q8f{α:Type}:∀(f:Nat) (t:T α) (k:Nat) (a:α),qjc t (q1h f k)=some a->t.get k=some a/\k+1<2 ^ f
  | 0,t,k,a,e=>by
    have:qjc t .bad=some a:=e
    cases t<;>cases this
  | f+1, .e,k,a,e=>by
    have:(none:Option α)=some a:=e
    cases this
  | f+1, .n l v r,0,a,e=>by
    rw[q33]at e
    refine⟨e,?_⟩
    have:=Nat.one_lt_two_pow (n:=f+1) (by omega);omega
  | f +1, .n l v r,k+1,a,e=>by
    rw[q23]at e
    rw[T.get_n]
    have hp:2 ^ (f+1)=2*2 ^ f:=by rw[Nat.pow_succ];omega
    cases hb:Nat.beq (Nat.mod k 2) 0 with
    | true=>
      rw[hb]at e
      have:=q8f f l (Nat.div k 2) a e
      refine⟨this.1,?_⟩
      have h2:=this.2
      rw[T.div2]at h2
      omega
    | false=>
      rw[hb]at e
      have:=q8f f r (Nat.div k 2) a e
      refine⟨this.1,?_⟩
      have h2:=this.2
      rw[T.div2]at h2
      omega
def q65{α:Type}:∀(f:Nat) (t:T α) (k:Nat),k+1<2 ^ f->qjc t (q1h f k)=none->t.get k=none
  |0,t,k,h,e=>by simp at h
  |f+1, .e,k,h,e=>rfl
  |f+1, .n l v r,0,h,e=>by rw[q33]at e;exact e
  | f +1, .n l v r,k+1,h,e=>by
    rw[q23]at e
    rw[T.get_n]
    have hp:2 ^ (f+1)=2*2 ^ f:=by rw[Nat.pow_succ];omega
    cases hb:Nat.beq (Nat.mod k 2) 0 with
    |true=>rw[hb]at e;exact q65 f l (Nat.div k 2) (by rw[T.div2];omega) e
    | false=>
      rw[hb]at e
      have:=(T.parity k).2 hb
      exact q65 f r (Nat.div k 2) (by rw[T.div2];omega) e
def qb1{α:Type} (x:Option α):∀(f:Nat) (k:Nat) (u:T α),qic x (q1h f k)=some u->∀g,f<=g->T.putS g k x .e=some u
  | 0,k,u,e,g,hg=>by
    have:(none:Option (T α))=some u:=e
    cases this
  | f+1,0,u,e,g,hg=>by
    rw[q33]at e
    cases g with
    |zero=>omega
    |succ g=>exact e
  | f + 1,k+1,u,e,g,hg=>by
    rw[q23]at e
    cases g with
    |zero=>omega
    | succ g=>
      simp only[T.putS]
      cases hb:Nat.beq (Nat.mod k 2) 0 with
      | true=>
        rw[hb]at e
        have e': @Option.rec (T α) (λ_=>Option (T α)) none (λu=>some (.n u none .e)) (qic x (q1h f (Nat.div k 2)))=some u:=e
        cases h:qic x (q1h f (Nat.div k 2))with
        |none=>rw[h]at e';cases e'
        | some w=>
          rw[h]at e'
          simp only[qb1 x f _ w h g (by omega)]
          exact e'
      | false=>
        rw[hb]at e
        have e': @Option.rec (T α) (λ_=>Option (T α)) none (λu=>some (.n .e none u)) (qic x (q1h f (Nat.div k 2)))=some u:=e
        cases h:qic x (q1h f (Nat.div k 2))with
        |none=>rw[h]at e';cases e'
        | some w=>
          rw[h]at e'
          simp only[qb1 x f _ w h g (by omega)]
          exact e'
def q8p{α:Type} (x:Option α):∀(f:Nat) (t:T α) (k:Nat) (u:T α),f<=64->qc7 x t (q1h f k)=some u->T.putR x t k=some u
  | f, .e,k,u,hf,e=>by
    have e':qic x (q1h f k)=some u:=e
    exact qb1 x f k u e' 64 hf
  | 0, .n l v r,k,u,hf,e=>by
    have:(none:Option (T α))=some u:=e
    cases this
  |f+1, .n l v r,0,u,hf,e=>by rw[q33]at e;exact e
  | f + 1, .n l v r,k+1,u,hf,e=>by
    rw[q23]at e
    rw[T.putR_n]
    cases hb:Nat.beq (Nat.mod k 2) 0 with
    | true=>
      rw[hb]at e
      have e': @Option.rec (T α) (λ_=>Option (T α)) none (λu=>some (.n u v r)) (qc7 x l (q1h f (Nat.div k 2)))=some u:=e
      cases h:qc7 x l (q1h f (Nat.div k 2))with
      |none=>rw[h]at e';cases e'
      | some w=>
        rw[h]at e'
        simp only[q8p x f l _ w (by omega) h]
        exact e'
    | false=>
      rw[hb]at e
      have e': @Option.rec (T α) (λ_=>Option (T α)) none (λu=>some (.n l v u)) (qc7 x r (q1h f (Nat.div k 2)))=some u:=e
      cases h:qc7 x r (q1h f (Nat.div k 2))with
      |none=>rw[h]at e';cases e'
      | some w=>
        rw[h]at e'
        simp only[q8p x f r _ w (by omega) h]
        exact e'
def qj7{a b:Nat} (h:Nat.blt a b=true):a<b:=by simpa[Nat.blt_eq]using h
def qlm(v:Value):qrp v=ofC v:=by cases v<;>rfl
variable {t:T AV}
def q0k{x:Operand} {a:AV} (e:evF x t=some a):ev t x=some a:=by
  cases x with
  | tmp n=>
    have e':qjc t (pth n)=some a:=e
    obtain⟨h1,h2⟩:=q8f _ _ _ _ e'
    have h4:(2:Nat) ^ 19=524288:=by decide
    have h3:Nat.blt n q10=true:=by
      rw[blt_eq]
      exact decide_eq_true (by unfold q10;omega)
    simp only[ev,h3];exact h1
  |const v=>exact(qlm v).symm.trans e
  |global g=>exact e
  |func f=>exact e
def q1d{α β:Type} {r:Option α} {f:α->β} {b x:β} (e: @Option.rec α (λ_=>β) b f r=x) (hb:b≠x):∃a,r=some a/\f a=x:=by
 cases r with
 |none=>exact absurd e hb
 |some a=>exact⟨a,rfl,e⟩
variable {r:Option AV} {h:T AO} {nx:Nat}
def qb3{k v ob h' nx'} (e:q1 r h nx= .ok k v ob h' nx'):mk3 .q h nx r=some (k,v,ob,h',nx'):=by
 obtain⟨a,rfl,e⟩:=q1d e (by simp)
 cases e;rfl
def qom{k v ob h' nx'} (e:rd1 r h nx= .ok k v ob h' nx'):mk3 .r h nx r=some (k,v,ob,h',nx'):=by
 obtain⟨a,rfl,e⟩:=q1d e (by simp)
 cases e;rfl
def qm7{r:Option (AV×T AO×Nat)} {k v ob h' nx'} (e:s3 r= .ok k v ob h' nx'):qgx r=some (k,v,ob,h',nx'):=by
 obtain⟨⟨a,b,c⟩,rfl,e⟩:=q1d e (by simp)
 cases e;rfl
variable {o:Oper}
def q6q{P call ext t h nx k v ob h' nx'} (e:q0a o P call ext t h nx= .ok k v ob h' nx'):q46 P call ext t h nx o=some (k,v,ob,h',nx'):=by
 unfold q0a r3 at e
 split at e
 ·rename_i he;cases e;exact he
 ·cases e
def qhr(k:IntKind) (n:Int):qnr k n=fits k n:=by cases k<;>cases n<;>rfl
def qik(k k':IntKind):qm8 k k'=q9t k k':=by cases k<;>cases k'<;>rfl
def qka(x y:Int):qr7 x y=Int.add x y:=by cases x<;>cases y<;>rfl
def qo3(x y:Int):ltF x y=ltI x y:=by cases x<;>cases y<;>rfl
def qng(x y:Int):eqF x y=eqI x y:=by cases x<;>cases y<;>rfl
def qn5(k:IntKind) (r:Int):chk k r=match fits k r with|true=>some (.int k r)|false=>none:=by
 unfold chk;rw[qhr];cases fits k r<;>rfl
def qhp(op:BinOp) (k:IntKind) (x y:Int):ql6 op k x y=q9c op k x y:=by
 cases op<;>first|rfl| (show chk k _=_;rw[qn5];simp only[q9c,qka];cases fits k _<;>rfl)| (show some (AV.bool _)=_;simp only[q9c,qo3,qng])
def qkn(P:Program) (op:BinOp) (xt:TypeId) (y:Operand) (k:IntKind) (n:Int) (b:AV):qrc b k n P op xt y (.int k n)=qaa P op xt y (.int k n) b:=by
  cases b with
  | int k' n'=>
    show @Bool.rec (λ_=>Option AV) (q01 P op xt y (.int k n) (.int k' n')) (@Option.rec AV (λ_=>Option AV) (q01 P op xt y (.int k n) (.int k' n')) some (ql6 op k n n')) (qm8 k k')=_
    rw[qik,qhp]
    show _=qa9 P op xt (.int k n) (.int k' n')
    unfold q01
    have h0:qaa P op xt y (.int k n) (.int k' n')=qa9 P op xt (.int k n) (.int k' n'):=rfl
    rw[h0]
    cases hs:q9t k k' with
    |false=>rfl
    | true=>
      show @Option.rec AV (λ_=>Option AV) (qa9 P op xt (.int k n) (.int k' n')) some (q9c op k n n')=_
      cases hf:q9c op k n n' with
      |none=>rfl
      |some r=>unfold qa9;simp only[hs,hf]
  |_=>rfl
def qko(P:Program) (op:BinOp) (xt:TypeId) (y:Operand) (a b:AV):qrd a b P op xt y=qaa P op xt y a b:=by
 cases a with
 |int k n=>exact qkn P op xt y k n b
 |_=>rfl
def q60{t:T AV}:∀{l:List Operand} {r:List AV},qew t l=some r->evs t l=some r
  | [],r,e=>e
  | x::l,r,e=>by
    obtain⟨a,ha,e⟩:=q1d (r:=evF x t) e (by simp)
    obtain⟨q,hq,e⟩:=q1d (r:=qew t l) e (by simp)
    simp only[evs,q0k ha,q60 hq];exact e
def qev{x:Option Operand} {v:Option AV} (e:qnk t x=some v):evo t x=some v:=by
  cases x with
  |none=>exact e
  | some x=>
    obtain⟨a,ha,e⟩:=q1d (r:=evF x t) e (by simp)
    simp only[evo,q0k ha];exact e
def qjn{v0:AV} {ob0:AO} {k v ob h' nx'} (e:mkF v0 ob0 h nx= .ok k v ob h' nx'):mkA h nx (some (v0,ob0))=some (k,v,ob,h',nx'):=by
 obtain⟨h2,hp,e⟩:=q1d e (by simp)
 cases e
 simp only[mkA,hp]
def qbi{a:AV} {b:Bool} (e:qeg a=some b):a= .bool b:=by
 cases a<;>first| (cases e;rfl)|cases e
def qdt{P:Program} {call:q03} {ext:q14} {k v ob h' nx'} (e:qmy o P call ext t h nx= .ok k v ob h' nx'):q46 P call ext t h nx o=some (k,v,ob,h',nx'):=by
  obtain⟨dst,op,ty,pos,after,guard⟩:=o
  cases op
  case move x=>
    have e':q1 (evF x t) h nx= .ok k v ob h' nx':=e
    obtain⟨a,ha,e'⟩:=q1d e' (by simp)
    cases e'
    simp only[q46,qop,q0k ha,mk3]
  case assign x=>
    have e':q1 (evF x t) h nx= .ok k v ob h' nx':=e
    obtain⟨a,ha,e'⟩:=q1d e' (by simp)
    cases e'
    simp only[q46,qop,q0k ha,mk3]
  case pick c a b=>
    obtain⟨x,hx,e⟩:=q1d (r:=evF c t) e (by simp)
    obtain⟨v',hv,e⟩:=q1d (r:=qeg x) e (by simp)
    have:=qbi hv;subst this
    cases v' with
    | true=>
      have e':q1 (evF a t) h nx= .ok k v ob h' nx':=e
      obtain⟨z,hz,e'⟩:=q1d e' (by simp)
      cases e'
      simp only[q46,qop,q0k hx,q0k hz,mk3]
    | false=>
      have e':q1 (evF b t) h nx= .ok k v ob h' nx':=e
      obtain⟨z,hz,e'⟩:=q1d e' (by simp)
      cases e'
      simp only[q46,qop,q0k hx,q0k hz,mk3]
  case alloc el=>
    obtain⟨z,hz,e⟩:=q1d (r:=q1v P el) e (by simp)
    have:=qjn e
    simp only[q46,aop,hz];exact this
  case box el x=>
    obtain⟨z,hz,e⟩:=q1d (r:=evF x t) e (by simp)
    have:=qjn e
    simp only[q46,aop,q0k hz];exact this
  case load lt x=>
    obtain⟨a,ha,e⟩:=q1d (r:=evF x t) e (by simp)
    cases a<;>first|cases e|skip
    have:=qom e
    simp only[q46,rop,q0k ha];exact this
  case store st x y=>
    obtain⟨a,ha,e⟩:=q1d (r:=evF x t) e (by simp)
    obtain⟨b,hb,e⟩:=q1d (r:=evF y t) e (by simp)
    cases a<;>first|cases e|skip
    rename_i id off _
    obtain⟨h2,hp,e⟩:=q1d (r:=q5n P h st id off b) e (by simp)
    cases e
    simp only[q46,sop,q0k ha,q0k hb,hp,qgx]
  case nilCheck x=>
    obtain⟨a,ha,e⟩:=q1d (r:=evF x t) e (by simp)
    cases a<;>first|cases e|skip
    all_goals simp only[q46,qop,q0k ha,mk3]
  case binOp op xt x y yt=>
    obtain⟨a,ha,e⟩:=q1d (r:=evF x t) e (by simp)
    obtain⟨b,hb,e⟩:=q1d (r:=evF y t) e (by simp)
    rw[qko]at e
    have:=qb3 e
    simp only[q46,qop,q0k ha,q0k hb];exact this
  case convert s d x=>
    obtain⟨a,ha,e⟩:=q1d (r:=evF x t) e (by simp)
    cases hc:qds P s d a with
    | none=>
      rw[hc]at e
      exact q6q e
    | some r=>
      rw[hc]at e
      cases e
      simp only[q46,qop,q0k ha,hc,mk3,or3]
  case slice st x lo hi mx=>
    cases mx with
    |some m=>cases e
    | none=>
      obtain⟨a,ha,e⟩:=q1d (r:=evF x t) e (by simp)
      obtain⟨l,hl,e⟩:=q1d (r:=qnk t lo) e (by simp)
      obtain⟨r,hr,e⟩:=q1d (r:=qnk t hi) e (by simp)
      have:=qb3 e
      simp only[q46,qop,q0k ha,qev hl,qev hr];exact this
  case fieldAddr s x f=>
    obtain⟨a,ha,e⟩:=q1d (r:=evF x t) e (by simp)
    have:=qb3 e
    simp only[q46,qop,q0k ha];exact this
  case field s x f=>
    obtain⟨a,ha,e⟩:=q1d (r:=evF x t) e (by simp)
    have:=qb3 e
    simp only[q46,qop,q0k ha];exact this
  case indexAddr s x i=>
    obtain⟨a,ha,e⟩:=q1d (r:=evF x t) e (by simp)
    obtain⟨b,hb,e⟩:=q1d (r:=evF i t) e (by simp)
    have:=qb3 e
    simp only[q46,qop,q0k ha,q0k hb];exact this
  case index s x i=>
    obtain⟨a,ha,e⟩:=q1d (r:=evF x t) e (by simp)
    obtain⟨b,hb,e⟩:=q1d (r:=evF i t) e (by simp)
    have:=qb3 e
    simp only[q46,qop,q0k ha,q0k hb];exact this
  case extract x i=>
    obtain⟨a,ha,e⟩:=q1d (r:=evF x t) e (by simp)
    have:=qb3 e
    simp only[q46,qop,q0k ha];exact this
  case call c=>
    obtain⟨callee,args,argTypes⟩:=c
    cases callee with
    | value f=>
      obtain⟨a,ha,e⟩:=q1d (r:=evF f t) e (by simp)
      cases a<;>first|cases e|skip
      case fn g caps=>
        obtain⟨l,hl,e⟩:=q1d (r:=qew t args.toList) e (by simp)
        simp only[q46,q1l,q0k ha,q60 hl,called]
        have e': @Option.rec AV (λ_=>R3) (s3 (call g (l++caps) h nx)) (λr=> .ok .s r none h nx) (ext g (l++caps))= .ok k v ob h' nx':=e
        cases hx:ext g (l++caps)with
        |none=>rw[hx]at e';exact qm7 e'
        |some r=>rw[hx]at e';cases e';rfl
      case bfn g first caps=>
        obtain⟨l,hl,e⟩:=q1d (r:=qew t args.toList) e (by simp)
        simp only[q46,q1l,q0k ha,q60 hl,called]
        have e': @Option.rec AV (λ_=>R3) (s3 (call g (first++(l++caps)) h nx)) (λr=> .ok .s r none h nx) (ext g (first++(l++caps)))= .ok k v ob h' nx':=e
        cases hx:ext g (first++(l++caps))with
        |none=>rw[hx]at e';exact qm7 e'
        |some r=>rw[hx]at e';cases e';rfl
    |invoke r m=>exact q6q e
    | builtin b=>
      cases b
      case append=>
        have e':s3 (match qew t args.toList with|some [d,x]=>q1q P h nx argTypes.toList d x|_=>none)= .ok k v ob h' nx':=e
        have:=qm7 e'
        simp only[q46,sop]
        cases hl:qew t args.toList with
        |none=>rw[hl]at this;cases this
        |some l=>rw[hl]at this;rw[q60 hl];exact this
      case len=>
        have e': @Option.rec AV (λ_=>R3) (q0a ⟨dst, .call ⟨.builtin .len,args,argTypes⟩,ty,pos,after,guard⟩ P call ext t h nx) (λr=> .ok .q r none h nx) (@Option.rec (List AV) (λ_=>Option AV) none (λl=>q2x P .len argTypes.toList l) (qew t args.toList))= .ok k v ob h' nx':=e
        cases hr:(@Option.rec (List AV) (λ_=>Option AV) none (λl=>q2x P .len argTypes.toList l) (qew t args.toList))with
        |none=>rw[hr]at e';exact q6q e'
        | some r=>
          rw[hr]at e'
          cases e'
          obtain⟨l,hl,hr⟩:=q1d hr (by simp)
          simp only[q46,qop,q60 hl,hr,mk3,or3]
      all_goals exact q6q e
  all_goals exact q6q e
variable {h:T AO} {nx:Nat} {r:Option AV}
def q32{k0:Kd} {k v ob h' nx'} (e:mk3 k0 h nx r=some (k,v,ob,h',nx')):keep h nx r=some (v,h',nx'):=by
 cases r with
 |none=>cases e
 |some a=>cases e;rfl
def qbz{r:Option (AV×AO)} {k v ob h' nx'} (e:mkA h nx r=some (k,v,ob,h',nx')):made h nx r=some (v,h',nx'):=by
  cases r with
  |none=>cases e
  | some a=>
    obtain⟨a,b⟩:=a
    simp only[mkA]at e
    simp only[made]
    split at e
    · rename_i hp;cases e;first|rw[hp]|rfl
    · cases e
def q3i{r:Option (AV×T AO×Nat)} {k v ob h' nx'} (e:qgx r=some (k,v,ob,h',nx')):r=some (v,h',nx'):=by
 cases r with
 |none=>cases e
 |some a=>obtain⟨a,b,c⟩:=a;cases e;rfl
def q8l{a b:Option qgq} {x:qgq} (e:or3 a b=some x):a=some x\/a=none/\b=some x:=by
 cases a with
 |none=>exact .inr ⟨rfl,e⟩
 |some y=>cases e;exact .inl rfl
def q8j{k0:Kd} (e:mk3 k0 h nx r=none):keep h nx r=none:=by
 cases r with
 |none=>rfl
 |some a=>cases e
def q31{a b:Option (AV×T AO×Nat)} {x:AV×T AO×Nat} (h:a=some x\/a=none/\b=some x):first a b=some x:=by
 rcases h with h|⟨h,g⟩
 ·rw[h];rfl
 ·rw[h];exact g
variable {t:T AV} {o:Oper}
def qdu{P:Program} {call:q03} {ext:q14} {k v ob h' nx'} (e:q46 P call ext t h nx o=some (k,v,ob,h',nx')):qmx P call ext t h nx o=some (v,h',nx'):=by
  obtain⟨dst,op,ty,pos,after,guard⟩:=o
  cases op
  case call c=>
    obtain⟨callee,args,argTypes⟩:=c
    cases callee with
    |value f=>exact q3i e
    |invoke r m=>exact q3i e
    | builtin b=>
      cases b
      case append=>exact q3i e
      case copy=>exact q3i e
      case unsafeString=>exact q3i e
      case len=>
        rcases q8l e with e|⟨e1,e2⟩
        · exact q31 (.inl (q32 e))
        · exact q31 (.inr ⟨q8j e1,q32 e2⟩)
      all_goals exact q32 e
  case convert s d x=>
    rcases q8l e with e|⟨e1,e2⟩
    · exact q31 (.inl (q32 e))
    · refine q31 (.inr ⟨q8j e1,?_⟩)
      rcases q8l e2 with e|⟨e3,e4⟩
      · exact q31 (.inl (q32 e))
      · refine q31 (.inr ⟨q8j e3,?_⟩)
        cases hsd:Nat.beq s d with
        |true=>rw[hsd]at e4;exact q3i e4
        |false=>rw[hsd]at e4;exact qbz e4
  all_goals first
    |exact q32 e
    |exact qbz e
    |exact q3i e
def q8o {n:Nat} {dst:Option Tmp} {v:AV} {t t':T AV} (e:qid n dst v t=some t'):q6w n dst v t=some t':=by
  cases dst with
  |none=>exact e
  | some d=>
    have e': @Bool.rec (λ_=>Option (T AV)) none (qc7 (some v) t (pth d)) (Nat.blt d n)=some t':=e
    cases hb:Nat.blt d n with
    |false=>rw[hb]at e';cases e'
    | true=>
      rw[hb]at e'
      have h1:=qj7 hb
      have h2:T.put 64 d (some v) t=some t':=q8p (some v) 19 t d t' (by omega) e'
      have h3 : d <q10:=by
        have h4 : ∀ (f : Nat) (t:T AV) (k:Nat) (u:T AV),qc7 (some v) t (q1h f k)=some u->k+1<2 ^ f:=by
          intro f
          induction f with
          | zero=>
            intro t k u e
            cases t with
            | e => have:(none:Option (T AV))=some u:=e
                   cases this
            | n l w r => have:(none:Option (T AV))=some u:=e
                         cases this
          | succ f ih=>
            intro t k u e
            have hp:2 ^ (f+1)=2*2 ^ f:=by rw[Nat.pow_succ];omega
            cases k with
            |zero=>have:=Nat.one_lt_two_pow (n:=f+1) (by omega);omega
            | succ k=>
              rw[q23]at e
              have sub:∀q,q1h f (Nat.div k 2)=q->(∃t u,qc7 (some v) t q=some u)->k+1+1<2 ^ (f+1):=λq hq hx=>by
                obtain⟨t1,u1,hx⟩:=hx
                rw[←hq]at hx
                have:=ih t1 _ u1 hx
                rw[T.div2]at this
                omega
              cases hb:Nat.beq (Nat.mod k 2) 0 with
              | true=>
                rw[hb]at e
                cases t with
                | e=>
                  obtain⟨u1,h1,_⟩:=q1d (r:=qic (some v) (q1h f (Nat.div k 2))) (f:=λu=>some (T.n u none T.e)) e (by simp)
                  exact sub _ rfl ⟨.e,u1,h1⟩
                | n l w r=>
                  obtain⟨u1,h1,_⟩:=q1d (r:=qc7 (some v) l (q1h f (Nat.div k 2))) (f:=λu=>some (T.n u w r)) e (by simp)
                  exact sub _ rfl ⟨l,u1,h1⟩
              | false=>
                rw[hb]at e
                cases t with
                | e=>
                  obtain⟨u1,h1,_⟩:=q1d (r:=qic (some v) (q1h f (Nat.div k 2))) (f:=λu=>some (T.n T.e none u)) e (by simp)
                  exact sub _ rfl ⟨.e,u1,h1⟩
                | n l w r=>
                  obtain⟨u1,h1,_⟩:=q1d (r:=qc7 (some v) r (q1h f (Nat.div k 2))) (f:=λu=>some (T.n l w u)) e (by simp)
                  exact sub _ rfl ⟨r,u1,h1⟩
        have h5:=h4 19 t d t' e'
        have h6:(2:Nat) ^ 19<=q10:=by decide
        exact Nat.lt_of_lt_of_le (Nat.lt_of_succ_lt h5) h6
      simp only[q6w]
      rw[if_pos h1,if_pos h3];exact h2
def qir{E:Env} {ih:T AV->T AO->Nat->Res} {r:Res} (e:q9v E o ih t h nx=r) (hr:r≠ .bad):
    ∃v h' nx' t',qmx E.P E.call E.ext t h nx o=some (v,h',nx')/\q6w E.n o.dst v t=some t'/\ih t' h' nx'=r:=by
  unfold q9v at e
  cases ha:qmy o E.P E.call E.ext t h nx with
  |bad=>rw[ha]at e;exact absurd e.symm hr
  | ok k v ob h' nx'=>
    rw[ha]at e
    obtain⟨t',ht,e⟩:=q1d (r:=qid E.n o.dst v t) e (λh=>hr h.symm)
    exact⟨v,h',nx',t',qdu (qdt ha),q8o ht,e⟩
def qfv{E:Env} {ops:Array Oper}:∀(l:List Oper) (i:Nat) (t:T AV) (h:T AO) (nx:Nat) (r:Res),ops.toList.drop i=l->qd3 E ops l t h nx=r->r≠ .bad->
    ∃t' h' nx',r= .nrm t' h' nx'/\qi7 E.P E.call E.ext E.n ops (List.range' i l.length) t h nx=some (t',h',nx')
  | [],i,t,h,nx,r,hl,e,hr=>⟨t,h,nx,e.symm,rfl⟩
  | o ::l,i,t,h,nx,r,hl,e,hr=>by
    have hn:nth ops.toList i=some o:=by
      rw[q0f,←List.head?_drop,hl];rfl
    have hd:ops.toList.drop (i+1)=l:=by rw[←List.tail_drop,hl];rfl
    have go:∀t1 h1 nx1,op1 E.P E.call E.ext E.n ops t h nx o=some (t1,h1,nx1)->qd3 E ops l t1 h1 nx1=r->∃t' h' nx',r= .nrm t' h' nx'/\qi7 E.P E.call E.ext E.n ops (List.range' i (o::l).length) t h nx=some (t',h',nx'):=by
      intro t1 h1 nx1 g1 g2
      obtain⟨t',h',nx',k1,k2⟩:=qfv l (i+1) t1 h1 nx1 r hd g2 hr
      refine⟨t',h',nx',k1,?_⟩
      rw[List.length_cons,List.range'_succ,qi7]
      simp only[hn,g1]
      exact k2
    have run:q21 t ops o=some true->q9v E o (qd3 E ops l) t h nx=r->∃t' h' nx',r= .nrm t' h' nx'/\qi7 E.P E.call E.ext E.n ops (List.range' i (o::l).length) t h nx=some (t',h',nx'):=λhg e=>by
      obtain⟨v,h1,nx1,t1,k1,k2,k3⟩:=qir e hr
      exact go t1 h1 nx1 (by unfold op1;simp only[hg,k1,k2]) k3
    cases hgd:o.guard with
    | none=>
      have e':q9v E o (qd3 E ops l) t h nx=r:=by
        have:qd3 E ops (o::l) t h nx= @Option.rec (Nat×Bool) (λ_=>Res) (q9v E o (qd3 E ops l) t h nx) (λ_=>stepG E ops o (qd3 E ops l) t h nx) o.guard:=rfl
        rw[this,hgd]at e;exact e
      exact run (by unfold q21;rw[hgd]) e'
    | some g=>
      have e':stepG E ops o (qd3 E ops l) t h nx=r:=by
        have:qd3 E ops (o::l) t h nx= @Option.rec (Nat×Bool) (λ_=>Res) (q9v E o (qd3 E ops l) t h nx) (λ_=>stepG E ops o (qd3 E ops l) t h nx) o.guard:=rfl
        rw[this,hgd]at e;exact e
      obtain⟨b,hb,e'⟩:=q1d (r:=q21 t ops o) e' (λh=>hr h.symm)
      cases b with
      |true=>exact run hb e'
      | false=>
        obtain⟨t1,h1,e'⟩:=q1d (r:=qid E.n o.dst q0c t) e' (λh=>hr h.symm)
        exact go t1 h nx (by unfold op1;simp only[hb,q8o h1]) e'
def Res.is:Res->AX×T AV×T AO×Nat->Prop
 | .nrm t h nx,r=>r=(.nrm,t,h,nx)
 | .ex i t h nx,r=>r=(.ex i,t,h,nx)
 | .rt t h nx,r=>r=(.rt,t,h,nx)
 | .bad,_=>False
def qmv(E:Env) (reg:qgr):Prop:=∀ops t h nx r,E.reg ops t h nx=r->r≠ .bad->∃t' h' nx',r= .nrm t' h' nx'/\reg ops t h nx=some (t',h',nx')
def q7n{r:Res} {k:T AV->T AO->Nat->Res} {q:Res} (e:qos r k=q) (hq:q≠ .bad):(∃t h nx,r= .nrm t h nx/\k t h nx=q)\/(r=q/\∀t h nx,r≠ .nrm t h nx):=by
 cases r with
 |bad=>exact absurd e.symm hq
 |nrm t h nx=>exact .inl ⟨t,h,nx,rfl,e⟩
 |ex id t h nx=>exact .inr ⟨e,λ_ _ _ h=>by cases h⟩
 |rt t h nx=>exact .inr ⟨e,λ_ _ _ h=>by cases h⟩
def qhl{E:Env} {reg:qgr} (hreg:qmv E reg):∀(c:Code) (t:T AV) (h:T AO) (nx:Nat) (q:Res),q3v c E t h nx=q->∀r,q.is r->Ex E.P E.call E.ext reg E.n c t h nx r:=by
  have nb:∀{q:Res} {r},q.is r->q≠ .bad:=λ{q r} h e=>by rw[e]at h;exact h
  have out:∀{q:Res} {z r'},q.is (z,r')->(∀t h nx,q≠ .nrm t h nx)->z≠ .nrm:=λ{q z r'} h hn e=>by
    subst e
    obtain⟨a,b,c⟩:=r'
    cases q with
    |bad=>exact h
    |nrm t h' nx=>exact hn _ _ _ rfl
    |ex id t h' nx=>cases h
    |rt t h' nx=>cases h
  intro c
  induction c with
  |skip=>intro t h nx q e r hr;subst e;cases hr;exact⟨1,rfl⟩
  | region id ops draw=>
    intro t h nx q e r hr
    cases draw with
    | false=>
      have e':qd3 E ops ops.toList t h nx=q:=e
      obtain⟨t',h',nx',k1,k2⟩:=qfv ops.toList 0 t h nx q rfl e' (nb hr)
      subst k1
      cases hr
      refine⟨1,?_⟩
      have hs:List.range ops.size=List.range' 0 ops.toList.length:=by rw[List.range_eq_range'];simp
      simp only[exec,hs,k2]
    | true=>
      have e':E.reg ops t h nx=q:=e
      obtain⟨t',h',nx',k1,k2⟩:=hreg ops t h nx q e' (nb hr)
      subst k1
      cases hr
      exact⟨1,by simp only[exec,k2]⟩
  | seq a b iha ihb=>
    intro t h nx q e r hr
    have e':qos (q3v a E t h nx) (q3v b E)=q:=e
    rcases q7n e' (nb hr)with⟨t1,h1,nx1,k1,k2⟩|⟨k1,k2⟩
    · exact Ex.seq (iha t h nx _ k1 _ rfl) (ihb t1 h1 nx1 q k2 r hr)
    · obtain⟨z,r'⟩:=r
      exact Ex.seq_out (iha t h nx q k1 (z,r') hr) (out hr (by rw[←k1];exact k2))
  | cond x a b iha ihb=>
    intro t h nx q e r hr
    have e':qn7 (evF x t) (q3v a E t h nx) (q3v b E t h nx)=q:=e
    obtain⟨y,hy,e'⟩:=q1d (r:=evF x t) e' (λh=>nb hr h.symm)
    obtain⟨v,hv,e'⟩:=q1d (r:=qeg y) e' (λh=>nb hr h.symm)
    have:=qbi hv;subst this
    cases v with
    |true=>exact Ex.cond_true (q0k hy) (iha t h nx q e' r hr)
    |false=>exact Ex.cond_false (q0k hy) (ihb t h nx q e' r hr)
  | block id a iha=>
    intro t h nx q e r hr
    have e':qre id (q3v a E t h nx)=q:=e
    cases hb:q3v a E t h nx with
    |bad=>rw[hb]at e';exact absurd e'.symm (nb hr)
    | nrm t' h' nx'=>
      rw[hb]at e'
      have e':Res.nrm t' h' nx'=q:=e'
      subst e';cases hr
      exact Ex.block (id:=id) (iha t h nx _ hb (.nrm,t',h',nx') rfl)
    | rt t' h' nx'=>
      rw[hb]at e'
      have e':Res.rt t' h' nx'=q:=e'
      subst e';cases hr
      exact Ex.block (id:=id) (iha t h nx _ hb (.rt,t',h',nx') rfl)
    | ex j t' h' nx'=>
      rw[hb]at e'
      have e': @Bool.rec (λ_=>Res) (.ex j t' h' nx') (.nrm t' h' nx') (Nat.beq j id)=q:=e'
      have k:=Ex.block (id:=id) (iha t h nx _ hb (.ex j,t',h',nx') rfl)
      cases hj:Nat.beq j id with
      | true=>
        rw[hj]at e'
        have e':Res.nrm t' h' nx'=q:=e'
        subst e';cases hr
        have:=Nat.eq_of_beq_eq_true hj;subst this
        simpa[blk]using k
      | false=>
        rw[hj]at e'
        have e':Res.ex j t' h' nx'=q:=e'
        subst e';cases hr
        have hne:j≠id:=Nat.ne_of_beq_eq_false hj
        simpa[blk,hne]using k
  | loop a iha=>
    intro t h nx q e r hr
    have key:∀N t h nx,qli (q3v a E) N t h nx=q->Ex E.P E.call E.ext reg E.n (.loop a) t h nx r:=by
      intro N
      induction N with
      |zero=>intro t h nx e;exact absurd e.symm (nb hr)
      | succ N ih=>
        intro t h nx e
        have e':qos (q3v a E t h nx) (qli (q3v a E) N)=q:=e
        rcases q7n e' (nb hr)with⟨t1,h1,nx1,k1,k2⟩|⟨k1,k2⟩
        · exact Ex.loop (iha t h nx _ k1 _ rfl) (ih t1 h1 nx1 k2)
        · obtain⟨z,r'⟩:=r
          exact Ex.loop_out (iha t h nx q k1 (z,r') hr) (out hr (by rw[←k1];exact k2))
    exact key E.N t h nx e
  |rangeFunc f params a b iha ihb=>intro t h nx q e r hr;exact absurd e.symm (nb hr)
  |exit id=>intro t h nx q e r hr;subst e;cases hr;exact⟨1,rfl⟩
  |scope a iha=>intro t h nx q e r hr;exact absurd e.symm (nb hr)
  |label l=>intro t h nx q e r hr;subst e;cases hr;exact⟨1,rfl⟩
  |goto l=>intro t h nx q e r hr;exact absurd e.symm (nb hr)
  |ret=>intro t h nx q e r hr;subst e;cases hr;exact⟨1,rfl⟩
  |refuse w=>intro t h nx q e r hr;exact absurd e.symm (nb hr)
def q44{t:T AV}:∀{l:List Nat} {acc r:T AV},q8s t l acc=some r->q2d t l acc=some r
  | [],acc,r,e=>e
  | n ::l,acc,r,e=>by
    have e': @Option.rec AV (λ_=>Option (T AV)) (@Bool.rec (λ_=>Option (T AV)) (match q2d t [n] acc with|some acc'=>q8s t l acc'|none=>none) (q8s t l acc) (Nat.blt n 500000)) (λa=> @Option.rec (T AV) (λ_=>Option (T AV)) none (λacc'=>q8s t l acc') (qc7 (some a) acc (pth n))) (qjc t (pth n))=some r:=e
    cases hg:qjc t (pth n)with
    | none=>
      rw[hg]at e'
      have e': @Bool.rec (λ_=>Option (T AV)) (match q2d t [n] acc with|some acc'=>q8s t l acc'|none=>none) (q8s t l acc) (Nat.blt n 500000)=some r:=e'
      cases hb:Nat.blt n 500000 with
      | true=>
        rw[hb]at e'
        have h1:t.get n=none:=q65 19 t n (by have:=qj7 hb;have h6:(2:Nat) ^ 19=524288:=(by decide);omega) hg
        simp only[q2d,h1]
        exact q44 e'
      | false=>
        rw[hb]at e'
        have e':(match q2d t [n] acc with|some acc'=>q8s t l acc'|none=>none)=some r:=e'
        simp only[q2d]at e'⊢
        cases h1:t.get n with
        |none=>simp only[h1]at e';simp only;exact q44 e'
        | some a=>
          simp only[h1]at e'
          simp only
          cases h2:T.put 64 n (some a) acc with
          |none=>simp only[h2]at e';cases e'
          |some acc'=>simp only[h2]at e';simp only;exact q44 e'
    | some a=>
      rw[hg]at e'
      obtain⟨acc',h1,e'⟩:=q1d (r:=qc7 (some a) acc (pth n)) e' (by simp)
      have h2:=(q8f 19 t n a hg).1
      have h3:T.put 64 n (some a) acc=some acc':=q8p (some a) 19 acc n acc' (by omega) h1
      simp only[q2d,h2,h3]
      exact q44 e'
def qbj{c:Rc} {r:RD} {rs t h nx} (e:qkv c r= .ok rs t h nx):∃rs',r= .ok rs' t h nx/\rs=c::rs':=by
 cases r with
 |bad=>cases e
 |ok rs' t' h' nx'=>cases e;exact⟨rs',rfl,rfl⟩
def qb5{P:Program} {call:q03} {ext:q14} {n:Nat} {ops:Array Oper}:∀(l:List Oper) {t t':T AV} {h h':T AO} {nx nx':Nat} {rs:List Rc},qor P call ext n ops l t h nx= .ok rs t' h' nx'->qg9 P call ext n ops l t h nx=some (rs,t',h',nx')
  | [],t,t',h,h',nx,nx',rs,e=>by cases e;rfl
  | o ::l,t,t',h,h',nx,nx',rs,e=>by
    obtain⟨tr,htr,e⟩:=q1d (r:=q8s t (slotsOf ops o) .e) e (by simp)
    have htr:=q44 htr
    have run:q21 tr ops o=some true->qiq P call ext n o (qor P call ext n ops l) tr t h nx= .ok rs t' h' nx'->qg9 P call ext n ops (o::l) t h nx=some (rs,t',h',nx'):=λhg e=>by
      unfold qiq at e
      cases ha:qmy o P call ext tr h nx with
      |bad=>rw[ha]at e;cases e
      | ok k v ob h1 nx1=>
        rw[ha]at e
        obtain⟨t1,ht,e⟩:=q1d (r:=qid n o.dst v t) e (by simp)
        obtain⟨rs',k1,rfl⟩:=qbj e
        simp only[qg9,htr,hg,qdt ha,q8o ht,qb5 l k1]
    cases hgd:o.guard with
    |none=>exact run (by unfold q21;rw[hgd]) (by rw[hgd]at e;exact e)
    | some g=>
      rw[hgd]at e
      have e':qjz P call ext n ops o (qor P call ext n ops l) tr t h nx= .ok rs t' h' nx':=e
      obtain⟨b,hb,e'⟩:=q1d (r:=q21 tr ops o) e' (by simp)
      cases b with
      |true=>exact run hb e'
      | false=>
        obtain⟨t1,ht,e'⟩:=q1d (r:=qid n o.dst q0c t) e' (by simp)
        obtain⟨rs',k1,rfl⟩:=qbj e'
        simp only[qg9,htr,hb,q8o ht,qb5 l k1]
variable {t:T AV} {h:T AO} {nx:Nat}
def qm2{P:Program} {call:q03} {ext:q14} {n:Nat} {ops:Array Oper} {r:Res} (e:qgz P call ext n ops t h nx=r) (hr:r≠ .bad):∃t' h' nx',r= .nrm t' h' nx'/\qm0 P call ext n ops t h nx=some (t',h',nx'):=by
  obtain⟨A,hA,e⟩:=q1d (r:=q86 ops.toList 0 []) e (λh=>hr h.symm)
  obtain⟨pr,hs,e'⟩:=q1d (r:=qif P ops A) e (λh=>hr h.symm)
  cases hrun:qor P call ext n ops ops.toList t h nx with
  |bad=>rw[hrun]at e';exact absurd e'.symm hr
  | ok rs t' h' nx'=>
    rw[hrun]at e'
    have e': @Bool.rec (λ_=>Res) .bad (.nrm t' h' nx') (qeo P ops A rs h'&&q4h P pr rs h')=r:=e'
    cases hd:qeo P ops A rs h'&&q4h P pr rs h' with
    |false=>rw[hd]at e';exact absurd e'.symm hr
    | true=>
      rw[hd]at e'
      refine⟨t',h',nx',e'.symm,?_⟩
      simp only[qm0,hA,hs,qb5 _ hrun,hd]
def ql1{P:Program} {fn:Func} {r h' nx'} (e:qmm P fn t h nx=some (r,h',nx')):∃rs,q0o P t h fn.results.toList=some rs/\r=q9i rs/\h'=h/\nx'=nx:=by
 obtain⟨rs,h1,e⟩:=q1d (r:=q0o P t h fn.results.toList) e (by simp)
 cases e
 exact⟨rs,h1,rfl,rfl,rfl⟩
def qcq{P:Program} {call:q03} {ext:q14} (hm:P.follows .mixedOrders=true) (hc:q11 gl P call) (he:q4t P ext) (hn:∀(f:Nat) (fn:Func),P.funcs[f]? =some fn->(fn.name== "runtime.NumGoroutine")=false)
  {f:Nat} {fn:Func} {c:Code} {args:List AV} {t t1:T AV} {h h1:T AO} {nx nx1:Nat} {x:AX} {rs:List AV} (hfn:P.funcs[f]? =some fn) (hb:fn.body=some c) (ht:(if args.length<q10 then q8h args 0 gl else none)=some t)
  (hx:Ex P call ext (qm0 P call ext (args.length+(fn.ntmps- args.length))) (args.length+(fn.ntmps- args.length)) c t h nx (x,t1,h1,nx1)) (hne:∀i,x≠ .ex i) (hrs:q0o P t1 h1 fn.results.toList=some rs):
  nx<=nx1/\(∀args w,(callFunc f args).run P w= .ok (.enter f args) w)/\
  ∀ (F:Bool->Nat->Prop) (I:In) (w:World) (vs:List Value),VRs I args vs->Sim F I h w->(∀b,F true b->b<w.heap.size)->GOK gl I->(∀b,F false b->F true b)->q0g I nx nx1->
   Calls P f ⟨vs⟩ w λe w'=>∃z I',e= .returned z/\VR I' (q9i rs) z/\Grow F I nx w I' nx1 h1 w':=by
 obtain⟨M,hM⟩:=hx
 obtain⟨k1,k2⟩:=ql3 hc he (qm1 hm hc he _) _ _ _ _ _ _ _ _ _ hM
 refine⟨k1,λargs w=> ?_,λF I w vs hv hs hF hG hZ fr=> ?_⟩
 ·have hnn:¬fn.name= "runtime.NumGoroutine" :=by have:=hn f fn hfn;simpa using this
  simp[callFunc,program,Sem.run,bind,Sem.bind,pure,hfn,hnn,hb]
 ·refine calls_of_wp hfn hb (k2 F I _ w ?_ fr _ λe a' I' w' hxe st' g'=> ?_)
  ·split at ht
   case isFalse=>cases ht
   rename_i hlg
   refine⟨λk b hk=> ?_,by rw[Array.size_append,Array.size_replicate];show vs.length+(fn.ntmps- vs.length)=_;rw[hv.len],rfl,hs,hF,hG,hZ⟩
   have hg:=q40 _ _ _ _ ht k
   rw[hk]at hg
   simp only[Nat.not_lt_zero,if_false,Nat.zero_add,Nat.sub_zero]at hg
   split at hg
   ·rename_i hlt
    obtain⟨v,g1,g2⟩:=hv.get k b hg.symm
    have hkv:k<vs.length:=by rw[←hv.len];exact hlt
    have:((⟨vs⟩:Array Value)++Array.replicate (fn.ntmps- (⟨vs⟩:Array Value).size) undef).getD k undef=v:=by
     rw[Array.getD_eq_getD_getElem?,Array.getElem?_append_left (by simpa using hkv)]
     simp[g1]
    rw[q1e (by omega),this];exact g2
   ·obtain⟨g1,g2⟩:=hG k b hg.symm
    unfold slot
    rw[if_neg (by omega)];exact g2
  ·obtain⟨v,r1,r2⟩:=q3l (P:=P) st' hrs
   cases e with
   |normal=>exact⟨st'.defers,v,r1,v,I',rfl,r2,g'⟩
   |ret=>exact⟨st'.defers,v,r1,v,I',rfl,r2,g'⟩
   |exit i=>cases x<;>simp only[AX.is]at hxe;exact(hne _ rfl).elim
   |_=>cases x<;>simp only[AX.is]at hxe
def qp9 {P :Program} {ext:q14} {N:Nat} (hm:P.follows .mixedOrders=true) (he:q4t P ext) (hn:∀(f:Nat) (fn:Func),P.funcs[f]? =some fn->(fn.name== "runtime.NumGoroutine")=false) (wrap:q03->q03) (hw:∀c,q11 gl P c->q11 gl P (wrap c)):∀d,q11 gl P (qaj P ext (λcall n=>qgz P call ext n) N gl wrap d):=by
  intro d
  induction d with
  |zero=>intro f args h nx r h' nx' e;cases e
  | succ d ih =>
    have ih:=hw _ ih
    intro f args h nx r h' nx' e
    have e':(match P.funcs[f]? with
      | some fn=>match fn.body with
        | some c=>match(if args.length<q10 then q8h args 0 gl else none)with
          |some t=> @Res.rec (λ_=>Option (AV×T AO×Nat)) none (λt' h' nx'=>qmm P fn t' h' nx') (λ_ _ _ _=>none) (λt' h' nx'=>qmm P fn t' h' nx') (q3v c ⟨P,wrap (qaj P ext (λcall n=>qgz P call ext n) N gl wrap d),ext,qgz P (wrap (qaj P ext (λcall n=>qgz P call ext n) N gl wrap d)) ext (args.length+(fn.ntmps- args.length)),args.length+(fn.ntmps- args.length),N⟩ t h nx)
          |none=>none
        |none=>none
      |none=>none)=some (r,h',nx'):=e
    split at e'
    · rename_i fn hfn
      split at e'
      · rename_i c hc
        split at e'
        · rename_i t ht
          have go:∀(q:Res) (x:AX) t1 h1 nx1,q3v c ⟨P,wrap (qaj P ext (λcall n=>qgz P call ext n) N gl wrap d),ext,qgz P (wrap (qaj P ext (λcall n=>qgz P call ext n) N gl wrap d)) ext (args.length+(fn.ntmps- args.length)),args.length+(fn.ntmps- args.length),N⟩ t h nx=q->q.is (x,t1,h1,nx1)->(∀i,x≠ .ex i)->qmm P fn t1 h1 nx1=some (r,h',nx')->nx<=nx'/\(∀args w,(callFunc f args).run P w= .ok (.enter f args) w)/\
              ∀ (F:Bool->Nat->Prop) (I:In) (w:World) (vs:List Value),VRs I args vs->Sim F I h w->(∀b,F true b->b<w.heap.size)->GOK gl I->(∀b,F false b->F true b)->q0g I nx nx'->
                Calls P f ⟨vs⟩ w λe w'=>∃z I',e= .returned z/\VR I' r z/\Grow F I nx w I' nx' h' w':=λq x t1 h1 nx1 hq hqi hx he1=>by
            obtain⟨rs,k1,rfl,rfl,rfl⟩:=ql1 he1
            exact qcq hm ih he hn hfn hc ht (qhl (reg:=qm0 P (wrap (qaj P ext (λcall n=>qgz P call ext n) N gl wrap d)) ext (args.length+(fn.ntmps- args.length))) (λops t h nx r e hr=>qm2 e hr) c t h nx q hq _ hqi) hx k1
          generalize hq:q3v c _ t h nx=q at e'
          cases q with
          |bad=>cases e'
          |nrm t1 h1 nx1=>exact .inl (go _ .nrm t1 h1 nx1 hq rfl (by simp) e')
          |ex i t1 h1 nx1=>cases e'
          |rt t1 h1 nx1=>exact .inl (go _ .rt t1 h1 nx1 hq rfl (by simp) e')
        · cases e'
      · cases e'
    · cases e'
def smN:List Nat->List Nat->Bool
 | [],[]=>true
 |a::l,b::m=>Nat.beq a b&&smN l m
 |_,_=>false
def qjx:∀{l m:List Nat},smN l m=true->l=m
  | [],[],_=>rfl
  | a::l,b::m,e=>by
    simp only[smN,Bool.and_eq_true]at e
    rw[Nat.eq_of_beq_eq_true e.1,qjx e.2]
  | [],b::m,e=>by cases e
  |a::l,[],e=>by cases e
def qot:Int->Int->Bool
 | .ofNat a, .ofNat b=>Nat.beq a b
 | .negSucc a, .negSucc b=>Nat.beq a b
 |_,_=>false
def qio:∀{x y:Int},qot x y=true->x=y
 | .ofNat a, .ofNat b,e=>by rw[Nat.eq_of_beq_eq_true e]
 | .negSucc a, .negSucc b,e=>by rw[Nat.eq_of_beq_eq_true e]
 | .ofNat a, .negSucc b,e=>by cases e
 | .negSucc a, .ofNat b,e=>by cases e
def qcd(a b:IntKind):Bool:=decide (a=b)
mutual
def qpt:AV->AV->Bool
 | .bool a, .bool b=>decide (a=b)
 | .int k n, .int k' n'=>qcd k k'&&qot n n'
 | .str l, .str m=>smN l m
 | .nilp, .nilp=>true
 | .ptr i o, .ptr i' o'=>Nat.beq i i'&&Nat.beq o o'
 | .nsl, .nsl=>true
 | .sl i o n c, .sl i' o' n' c'=>Nat.beq i i'&&Nat.beq o o'&&Nat.beq n n'&&Nat.beq c c'
 | .gsl i o n c, .gsl i' o' n' c'=>Nat.beq i i'&&Nat.beq o o'&&Nat.beq n n'&&Nat.beq c c'
 | .nmap, .nmap=>true
 | .map i, .map j=>Nat.beq i j
 | .nilf, .nilf=>true
 | .nili, .nili=>true
 | .ifo, .ifo=>true
 | .anyi k, .anyi j=>qcd k j
 | .lin k c l, .lin j d m=>qcd k j&&(eqI c d&&qnj l m)
 | .ifc t a, .ifc u b=>Nat.beq t u&&qpt a b
 | .agg l, .agg m=>smAVs l m
 | .tup l, .tup m=>smAVs l m
 | .fn f l, .fn g m=>Nat.beq f g&&smAVs l m
 | .bfn f a l, .bfn g b m=>Nat.beq f g&&(smAVs a b&&smAVs l m)
 |_,_=>false
def smAVs:List AV->List AV->Bool
 | [],[]=>true
 |a::l,b::m=>qpt a b&&smAVs l m
 |_,_=>false
end
mutual
def qge:∀{a b:AV},qpt a b=true->a=b
  | a,b,e=>by
    cases a<;>cases b<;>simp only[qpt,Bool.and_eq_true,decide_eq_true_eq,qcd]at e<;>first
      |rfl
      | (cases e;done)
      | (rw[e];done)
      | (rw[e.1,qio e.2];done)
      | (rw[qjx e];done)
      | (rw[Nat.eq_of_beq_eq_true e.1,Nat.eq_of_beq_eq_true e.2];done)
      | (rw[Nat.eq_of_beq_eq_true e.1.1.1,Nat.eq_of_beq_eq_true e.1.1.2,Nat.eq_of_beq_eq_true e.1.2,Nat.eq_of_beq_eq_true e.2];done)
      | (rw[Nat.eq_of_beq_eq_true e];done)
      | (rw[e.1,q5y e.2.1,qar e.2.2];done)
      | (rw[smAVs_ok e];done)
      | (rw[Nat.eq_of_beq_eq_true e.1,smAVs_ok e.2];done)
      | (rw[Nat.eq_of_beq_eq_true e.1,qge e.2];done)
      | (rw[Nat.eq_of_beq_eq_true e.1,smAVs_ok e.2.1,smAVs_ok e.2.2];done)
def smAVs_ok:∀{a b:List AV},smAVs a b=true->a=b
  | [],[],_=>rfl
  | a::l,b::m,e=>by
    simp only[smAVs,Bool.and_eq_true]at e
    rw[qge e.1,smAVs_ok e.2]
  | [],b::m,e=>by simp[smAVs]at e
  |a::l,[],e=>by simp[smAVs]at e
end
def qrv:Option Nat->Option Nat->Bool
 |none,none=>true
 |some a,some b=>Nat.beq a b
 |_,_=>false
def qma:∀{a b:Option Nat},qrv a b=true->a=b
 |none,none,_=>rfl
 |some a,some b,e=>by rw[Nat.eq_of_beq_eq_true e]
 |none,some b,e=>by cases e
 |some a,none,e=>by cases e
def qjw:AO->AO->Bool
 | .cells e f g l, .cells e' f' g' l'=>Nat.beq e e'&&qrv f f'&&decide (g=g')&&smAVs l l'
 | .map [] c, .map [] c'=>Nat.beq c c'
 |_,_=>false
def qm9:∀{a b:AO},qjw a b=true->a=b
  | .cells e f g l, .cells e' f' g' l',h=>by
    simp only[qjw,Bool.and_eq_true,decide_eq_true_eq]at h
    rw[Nat.eq_of_beq_eq_true h.1.1.1,qma h.1.1.2,h.1.2,smAVs_ok h.2]
  | .map [] c, .map [] c',h=>by
    simp only[qjw]at h
    rw[Nat.eq_of_beq_eq_true h]
  | .map (_::_) c, .map _ c',h=>by simp[qjw]at h
  | .map [] c, .map (_::_) c',h=>by simp[qjw]at h
  | .cells .., .map ..,h=>by simp[qjw]at h
  | .map .., .cells ..,h=>by simp[qjw]at h
def qqg:Option AO->Option AO->Bool
 |none,_=>true
 |some a,some b=>qjw a b
 |some _,none=>false
def qme:T AO->T AO->Bool
 | .e,_=>true
 | .n l v r, .n l' v' r'=>qqg v v'&&qme l l'&&qme r r'
 | .n _ _ _, .e=>false
def qb9:∀{a b:T AO},qme a b=true->∀id o,a.get id=some o->b.get id=some o
  | .e,_,_,id,o,h=>by rw[T.get_e]at h;cases h
  | .n l v r, .n l' v' r',e,id,o,h=>by
    simp only[qme,Bool.and_eq_true]at e
    rw[T.get_eq]at h⊢
    cases id with
    | zero=>
      simp only[T.getS]at h⊢
      subst h
      cases hv:v' with
      |none=>rw[hv]at e;cases e.1.1
      |some b=>rw[hv]at e;rw[qm9 e.1.1]
    | succ k=>
      simp only[T.getS]at h⊢
      split at h
      · rename_i hb;rw[←T.get_eq]at h⊢;exact qb9 e.1.2 _ _ h
      · rename_i hb;rw[←T.get_eq]at h⊢;exact qb9 e.2 _ _ h
  | .n l v r, .e,e,id,o,h=>by simp[qme]at e
def q74:T AO->T AO->T AO
 |h, .e=>h
 | .e, .n l v r=> .n l v r
 | .n l v r, .n l' v' r'=> .n (q74 l l') (match v' with|some x=>some x|none=>v) (q74 r r')
def q6i:∀(a b:T AO) (id:Nat),(q74 a b).get id=match b.get id with|some x=>some x|none=>a.get id
  |a, .e,id=>by rw[T.get_e];cases a<;>rfl
  | .e, .n l v r,id=>by
    rw[T.get_e]
    show(T.n l v r).get id=_
    cases(T.n l v r).get id<;>rfl
  | .n l v r, .n l' v' r',id=>by
    rw[T.get_eq,T.get_eq,T.get_eq]
    cases id with
    |zero=>simp only[q74,T.getS]
    | succ k=>
      simp only[q74,T.getS]
      split
      · rename_i hb
        rw[←T.get_eq,q6i l l']
        simp only[T.get_eq]
      · rename_i hb
        rw[←T.get_eq,q6i r r']
        simp only[T.get_eq]
def q5q:T AO->Nat->Nat->Nat->Bool
 | .e,_,_,_=>true
 | .n l v r,m,b,nx=>(match v with|none=>true|some _=>Nat.blt b nx)&&q5q l (2*m) (m+b) nx&&q5q r (2*m) (2*m+b) nx
def q5r:∀{t:T AO} {m b nx:Nat},q5q t m b nx=true->∀id o,t.get id=some o->m*id+b<nx
  | .e,m,b,nx,_,id,o,h=>by rw[T.get_e]at h;cases h
  | .n l v r,m,b,nx,e,id,o,h=>by
    simp only[q5q,Bool.and_eq_true]at e
    rw[T.get_eq]at h
    cases id with
    | zero=>
      simp only[T.getS]at h
      subst h
      have:=e.1.1
      simp only[Nat.mul_zero,Nat.zero_add]
      exact Eq.mp Nat.blt_eq this
    | succ k=>
      simp only[T.getS]at h
      have hd:=T.div2 k
      split at h
      · rename_i hb
        have hk:=(T.parity k).1 hb
        rw[←T.get_eq]at h
        have:=q5r e.1.2 _ _ h
        rw[hd]at this
        have h2:k=2*(k / 2):=by omega
        have h3:m*(k+1)=2*m*(k / 2)+m:=by
          conv=>lhs;rw[h2]
          rw[Nat.mul_add,Nat.mul_one,←Nat.mul_assoc,Nat.mul_comm m 2]
        omega
      · rename_i hb
        have hk:=(T.parity k).2 hb
        rw[←T.get_eq]at h
        have:=q5r e.2 _ _ h
        rw[hd]at this
        have h2:k+1=2*(k / 2)+2:=by omega
        have h3:m*(k+1)=2*m*(k / 2)+2*m:=by
          rw[h2,Nat.mul_add,←Nat.mul_assoc,Nat.mul_comm m 2]
        omega
def qi1(v:Option AO) (b nx:Nat):Bool:=match v with|none=>true|some o=>Nat.ble nx b&&o.rw
def q72:T AO->T AO->Nat->Nat->Nat->Bool
 | .e, .e,_,_,_=>true
 | .e, .n l v r,m,b,nx=>qi1 v b nx&&q72 .e l (2*m) (m+b) nx&&q72 .e r (2*m) (2*m+b) nx
 | .n _ _ _, .e,_,_,_=>false
 | .n l v r, .n l' v' r',m,b,nx=>(match v,v' with|some _,some _=>true|some _,none=>false|none,v'=>qi1 v' b nx)&&q72 l l' (2*m) (m+b) nx&&q72 r r' (2*m) (2*m+b) nx
def qc0{v:Option AO} {b nx:Nat} (e:qi1 v b nx=true) {o} (h:v=some o):nx<=b/\o.rw=true:=by
 subst h
 simp only[qi1,Bool.and_eq_true]at e
 exact⟨Nat.le_of_ble_eq_true e.1,e.2⟩
def q3y:∀{a t:T AO} {m b nx:Nat},q72 a t m b nx=true->∀id,((∃o,a.get id=some o)->∃o,t.get id=some o)/\∀o,t.get id=some o->(∃o,a.get id=some o)\/nx<=m*id+b/\o.rw=true
  | .e, .e,m,b,nx,_,id=>by
    rw[T.get_e]
    exact⟨λ⟨o,h⟩=>(by cases h),λo h=>(by cases h)⟩
  | .n _ _ _, .e,m,b,nx,e,id=>by simp[q72]at e
  | .e, .n l v r,m,b,nx,e,id=>by
    simp only[q72,Bool.and_eq_true]at e
    rw[T.get_e,T.get_eq]
    refine⟨λ⟨o,h⟩=>(by cases h),λo h=> ?_⟩
    cases id with
    | zero=>
      simp only[T.getS]at h
      have:=qc0 e.1.1 h
      exact .inr ⟨by omega,this.2⟩
    | succ k=>
      simp only[T.getS]at h
      have hd:=T.div2 k
      split at h
      · rename_i hb
        have hk:=(T.parity k).1 hb
        rw[←T.get_eq]at h
        rcases(q3y e.1.2 _).2 _ h with⟨o',h'⟩|⟨h1,h2⟩
        · rw[T.get_e]at h';cases h'
        · refine .inr ⟨?_,h2⟩
          rw[hd]at h1
          have h2:k=2*(k / 2):=by omega
          have h3:m*(k+1)=2*m*(k / 2)+m:=by
            conv=>lhs;rw[h2]
            rw[Nat.mul_add,Nat.mul_one,←Nat.mul_assoc,Nat.mul_comm m 2]
          omega
      · rename_i hb
        have hk:=(T.parity k).2 hb
        rw[←T.get_eq]at h
        rcases(q3y e.2 _).2 _ h with⟨o',h'⟩|⟨h1,h2⟩
        · rw[T.get_e]at h';cases h'
        · refine .inr ⟨?_,h2⟩
          rw[hd]at h1
          have h2:k+1=2*(k / 2)+2:=by omega
          have h3:m*(k+1)=2*m*(k / 2)+2*m:=by
            rw[h2,Nat.mul_add,←Nat.mul_assoc,Nat.mul_comm m 2]
          omega
  | .n l v r, .n l' v' r',m,b,nx,e,id=>by
    simp only[q72,Bool.and_eq_true]at e
    rw[T.get_eq,T.get_eq]
    cases id with
    | zero=>
      simp only[T.getS]
      have h1:=e.1.1
      cases v with
      | none=>
        refine⟨λ⟨o,h⟩=>(by cases h),λo h=> ?_⟩
        have:=qc0 (by simpa using h1) h
        exact .inr ⟨by omega,this.2⟩
      | some x=>
        cases v' with
        |none=>cases h1
        |some y=>exact⟨λ_=>⟨y,rfl⟩,λo h=> .inl ⟨x,rfl⟩⟩
    | succ k=>
      simp only[T.getS]
      have hd:=T.div2 k
      split
      · rename_i hb
        have hk:=(T.parity k).1 hb
        have:=q3y e.1.2 (Nat.div k 2)
        rw[T.get_eq,T.get_eq]at this
        refine⟨this.1,λo h=> ?_⟩
        rcases this.2 o h with h1|⟨h1,h2⟩
        · exact .inl h1
        · refine .inr ⟨?_,h2⟩
          rw[hd]at h1
          have h2:k=2*(k / 2):=by omega
          have h3:m*(k+1)=2*m*(k / 2)+m:=by
            conv=>lhs;rw[h2]
            rw[Nat.mul_add,Nat.mul_one,←Nat.mul_assoc,Nat.mul_comm m 2]
          omega
      · rename_i hb
        have hk:=(T.parity k).2 hb
        have:=q3y e.2 (Nat.div k 2)
        rw[T.get_eq,T.get_eq]at this
        refine⟨this.1,λo h=> ?_⟩
        rcases this.2 o h with h1|⟨h1,h2⟩
        · exact .inl h1
        · refine .inr ⟨?_,h2⟩
          rw[hd]at h1
          have h2:k+1=2*(k / 2)+2:=by omega
          have h3:m*(k+1)=2*m*(k / 2)+2*m:=by
            rw[h2,Nat.mul_add,←Nat.mul_assoc,Nat.mul_comm m 2]
          omega
structure Memo where
 f:Nat
 args:List AV
 hin:T AO
 nx:Nat
 r:AV
 hout:T AO
 nx':Nat
def qj0(gl:T AV) (P:Program) (m:Memo):Prop:=m.nx<=m.nx'/\(∀args w,(callFunc m.f args).run P w= .ok (.enter m.f args) w)/\
 ∀ (F:Bool->Nat->Prop) (I:In) (w:World) (vs:List Value),VRs I m.args vs->Sim F I m.hin w->(∀b,F true b->b<w.heap.size)->GOK gl I->(∀b,F false b->F true b)->q0g I m.nx m.nx'->
  Calls P m.f ⟨vs⟩ w λe w'=>∃z I',e= .returned z/\VR I' m.r z/\Grow F I m.nx w I' m.nx' m.hout w'
def Sim.sub{F I w} {a b:T AO} (s:Sim F I b w) (h:∀id o,a.get id=some o->b.get id=some o):Sim F I a w:=
 ⟨λid o b t h1 h2=>s.obj id o b t (h id o h1) h2,λid id' o o' b t t' h1 h2=>s.inj id id' o o' b t t' (h _ _ h1) (h _ _ h2),λid o b t h1=>s.fr id o b t (h _ _ h1)⟩
def meets(m:Memo) (f:Nat) (args:List AV) (h:T AO) (nx:Nat):Bool:=
 Nat.beq nx m.nx&&(Nat.beq f m.f&&(smAVs args m.args&&(qme m.hin h&&(q5q h 1 0 nx&&q72 m.hin m.hout 1 0 nx))))
def qfi{P:Program} {m:Memo} {h:T AO} {nx:Nat} (hm:qj0 gl P m) {f:Nat} {args:List AV} (e:meets m f args h nx=true):f=m.f/\nx<=m.nx'/\
  ∀ (F:Bool->Nat->Prop) (I:In) (w:World) (vs:List Value),VRs I args vs->Sim F I h w->(∀b,F true b->b<w.heap.size)->GOK gl I->(∀b,F false b->F true b)->q0g I nx m.nx'->
    Calls P f ⟨vs⟩ w λe w'=>∃z I',e= .returned z/\VR I' m.r z/\Grow F I nx w I' m.nx' (q74 h m.hout) w':=by
  simp only[meets,Bool.and_eq_true]at e
  obtain⟨e1,e2,e3,e4,e5,e6⟩:=e
  have e1:=Nat.eq_of_beq_eq_true e1
  have e2:=Nat.eq_of_beq_eq_true e2
  have e3:=smAVs_ok e3
  subst e1 e2 e3
  have sub:=qb9 e4
  have low:∀id o,h.get id=some o->id<m.nx:=λid o k=>by have:=q5r e5 id o k;omega
  have good:=q3y e6
  obtain⟨k1,k2,k3⟩:=hm
  refine⟨rfl,k1,λF I w vs hv hs hF hG hZ fr=> ?_⟩
  let O:Nat->Prop:=λb=>∃id o t,h.get id=some o/\m.hin.get id=none/\I id=some (b,t)
  let F':Bool->Nat->Prop:=λs b=>match s with|true=>F true b\/O b|false=>F false b
  have far:∀id o b t,m.hin.get id=some o->I id=some (b,t)->¬O b:=by
    rintro id o b t h1 h2 ⟨id',o',t',g1,g2,g3⟩
    have:=hs.inj id id' o o' b t t' (sub _ _ h1) g1 h2 g3
    subst this
    rw[h1]at g2;cases g2
  have hs':Sim F' I m.hin w:=by
    have s0:=hs.sub sub
    refine⟨s0.obj,s0.inj,λid o b t h1 h2 h3=> ?_⟩
    rcases h3 with h3|h3
    · exact s0.fr id o b t h1 h2 h3
    · exact(far id o b t h1 h2 h3).elim
  refine(k3 F' I w vs hv hs' (λb hb=> ?_) hG (λb hb=> .inl (hZ b hb)) fr).mono λe w' hh=> ?_
  · rcases hb with hb|⟨id,o,t,g1,g2,g3⟩
    · exact hF b hb
    · obtain⟨ob,h1,_⟩:=hs.obj id o b t g1 g3
      exact(Array.getElem?_eq_some_iff.1 h1).1
  obtain⟨z,I',h1,h2,g⟩:=hh
  refine⟨z,I',h1,h2,g.le,g.new,?_,λb hb=>g.fr b (.inl hb),g.size,g.same⟩
  have split:∀id o,(q74 h m.hout).get id=some o->m.hout.get id=some o\/(m.hin.get id=none/\m.hout.get id=none/\h.get id=some o):=λid o k=>by
    rw[q6i]at k
    cases hq:m.hout.get id with
    |some x=>rw[hq]at k;cases k;exact .inl rfl
    | none=>
      rw[hq]at k
      refine .inr ⟨?_,rfl,k⟩
      cases hi:m.hin.get id with
      |none=>rfl
      | some x=>
        obtain⟨y,hy⟩:=(good id).1 ⟨x,hi⟩
        rw[hq]at hy;cases hy
  have old:∀id o x,h.get id=some o->I' id=some x->I id=some x:=λid o x k1 k2=>by
    rcases g.new id x k2 with h|⟨h,_⟩
    · exact h
    · have:=low id o k1;omega
  have cross:∀id o b t,m.hout.get id=some o->I' id=some (b,t)->∀id' o' t',m.hin.get id'=none->h.get id'=some o'->I id'=some (b,t')->id=id':=λid o b t k1 k2 id' o' t' k3 k4 k5=>by
    rcases(good id).2 o k1 with⟨x,hx⟩|⟨_,hrw⟩
    · have hh:=sub _ _ hx
      exact hs.inj id id' _ _ b t t' hh k4 (old id _ _ hh k2) k5
    · have:=g.sim.fr id o b t k1 k2 (.inr ⟨id',o',t',k4,k3,k5⟩)
      rw[hrw]at this;cases this.1
  refine⟨λid o b t h1 h2=> ?_,λid id' o o' b t t' h1 h2 h3 h4=> ?_,λid o b t h1 h2 h3=> ?_⟩
  · rcases split id o h1 with k|⟨k,_,k'⟩
    · exact g.sim.obj id o b t k h2
    · have hI:=old id o _ k' h2
      obtain⟨ob,j1,j2⟩:=hs.obj id o b t k' hI
      refine⟨ob,?_,j2.mono g.le⟩
      rw[g.fr b (.inr ⟨id,o,t,k',k,hI⟩)]
      exact j1
  · rcases split id o h1 with k|⟨k,_,k'⟩
    · rcases split id' o' h2 with q|⟨q,_,q'⟩
      · exact g.sim.inj id id' o o' b t t' k q h3 h4
      · exact cross id o b t k h3 id' o' t' q q' (old _ _ _ q' h4)
    · rcases split id' o' h2 with q|⟨q,_,q'⟩
      · exact(cross id' o' b t' q h4 id o t k k' (old _ _ _ k' h3)).symm
      · exact hs.inj id id' o o' b t t' k' q' (old _ _ _ k' h3) (old _ _ _ q' h4)
  · rcases split id o h1 with k|⟨k,_,k'⟩
    · exact g.sim.fr id o b t k h2 (.inl h3)
    · exact hs.fr id o b t k' (old _ _ _ k' h2) h3
def q9l:T AO->T AO->Option (T AO)
  |h, .e=>some h
  | .e, .n l v r=>some (.n l v r)
  | .n l v r, .n l' v' r'=>match q9l l l' with
    | some a=>match q9l r r' with
      | some b=>match v' with
        |some x=>some (.n a (some x) b)
        |none=>some (.n a v b)
      |none=>none
    |none=>none
def q8m:∀{a b c:T AO},q9l a b=some c->c=q74 a b
  | a, .e,c,e=>by
    cases a<;>(simp only[q9l]at e;cases e;rfl)
  | .e, .n l v r,c,e=>by simp only[q9l]at e;cases e;rfl
  | .n l v r, .n l' v' r',c,e=>by
    simp only[q9l]at e
    split at e
    · rename_i a ha
      split at e
      · rename_i b hb
        have h1:=q8m ha
        have h2:=q8m hb
        cases v' with
        |none=>cases e;simp only[q74];rw[h1,h2]
        |some x=>cases e;simp only[q74];rw[h1,h2]
      · cases e
    · cases e
def qbh:T AO->Nat->Nat->Nat->Bool:= @T.rec AO (λ_=>Nat->Nat->Nat->Bool) (λ_ _ _=>true) (λ_ v _ pl pr m b nx=>
 @Bool.rec (λ_=>Bool) false (@Bool.rec (λ_=>Bool) false (pr (Nat.mul 2 m) (Nat.add (Nat.mul 2 m) b) nx) (pl (Nat.mul 2 m) (Nat.add m b) nx)) (@Option.rec AO (λ_=>Bool) true (λ_=>Nat.blt b nx) v))
def q8q(x y:Bool): @Bool.rec (λ_=>Bool) false y x=(x&&y):=by cases x<;>rfl
def q5p:∀(t:T AO) (m b nx:Nat),qbh t m b nx=q5q t m b nx
  | .e,m,b,nx=>rfl
  | .n l v r,m,b,nx=>by
    have h1:=q5p l (2*m) (m+b) nx
    have h2:=q5p r (2*m) (2*m+b) nx
    show @Bool.rec (λ_=>Bool) false (@Bool.rec (λ_=>Bool) false (qbh r (2*m) (2*m+b) nx) (qbh l (2*m) (m+b) nx)) (@Option.rec AO (λ_=>Bool) true (λ_=>Nat.blt b nx) v)=_
    rw[q8q,q8q,h1,h2]
    simp only[q5q]
    cases v<;>simp[Bool.and_assoc]
def qby(m:Memo) (f:Nat) (args:List AV) (h:T AO) (nx:Nat):Bool:=
 @Bool.rec (λ_=>Bool) false (@Bool.rec (λ_=>Bool) false (smAVs args m.args&&(qme m.hin h&&(qbh h 1 0 nx&&q72 m.hin m.hout 1 0 nx))) (Nat.beq f m.f)) (Nat.beq nx m.nx)
def qfh(m:Memo) (f:Nat) (args:List AV) (h:T AO) (nx:Nat):qby m f args h nx=meets m f args h nx:=by
 unfold qby meets
 rw[q8q,q8q,q5p]
def qkp:List Memo->q03->q03
  | [],call=>call
  | m ::l,call=>λf args h nx=>match qby m f args h nx with
    | true=>match q9l h m.hout with
      |some h'=>some (m.r,h',m.nx')
      |none=>none
    |false=>qkp l call f args h nx
def qha{P:Program} {call:q03} (hc:q11 gl P call):∀(l:List Memo),(∀m∈l,qj0 gl P m)->q11 gl P (qkp l call)
  | [],_=>hc
  | m ::l,hl=>by
    have ih:=qha hc l λm hm=>hl m (.tail _ hm)
    intro f args h nx r h' nx' e
    have e':(match qby m f args h nx with|true=>(match q9l h m.hout with|some h'=>some (m.r,h',m.nx')|none=>none)|false=>qkp l call f args h nx)=some (r,h',nx'):=e
    rw[qfh]at e'
    cases hm:meets m f args h nx with
    | true=>
      rw[hm]at e'
      simp only at e'
      split at e'
      · rename_i h1 ho
        cases e'
        have:=q8m ho
        subst this
        have ok:=hl m (.head _)
        obtain⟨rfl,k1,k2⟩:=qfi ok hm
        exact .inl ⟨k1,ok.2.1,k2⟩
      · cases e'
    |false=>rw[hm]at e';exact ih _ _ _ _ _ _ _ e'
def qks{P:Program} {call:q03} (hc:q11 gl P call) {f:Nat} {b:Bool} {h0 h:T AO} {nx0 nx:Nat} (hb:hasB P f=true) (e:call f [] h0 nx0=some (.bool b,h,nx)) (w:World) (I0:In)
  (obj:∀id o b t,h0.get id=some o->I0 id=some (b,t)->o.rw=false/\∃ob,w.heap[b]? =some ob/\OR I0 t o ob)
  (inj:∀id id' o o' b t t',h0.get id=some o->h0.get id'=some o'->I0 id=some (b,t)->I0 id'=some (b,t')->id=id')
  (low:∀id b t,I0 id=some (b,t)->id<nx0/\b<w.heap.size)
  (hG:GOK gl I0):
  Calls P f #[] w λe w'=>e= .returned (.bool b)/\Below w.heap.size w w':=by
 obtain⟨_,_,k⟩:=hc.enter hb e
 refine(k (λs b=>match s with|true=>b<w.heap.size|false=>∃id t,I0 id=some (b,t)) I0 w [] .nil ⟨λid o b t h1 h2=>(obj id o b t h1 h2).2,inj,λid o b t h1 h2 h3=>⟨(obj id o b t h1 h2).1,id,t,h2⟩⟩ (λb h=>h) hG (λb h=>(by obtain⟨id,t,h⟩:=h;exact(low id b t h).2)) (λi h1 _=> ?_)).mono λe' w' hh=> ?_
 ·cases hI:I0 i with
  |none=>rfl
  |some x=>obtain⟨b,t⟩:=x;exact absurd (low i b t hI).1 (by omega)
 ·obtain⟨z,I',rfl,h1,h2⟩:=hh
  cases h1
  exact⟨rfl,h2.same.os,h2.same.tape,h2.same.output,h2.size,λk hk=>h2.fr k hk⟩
def qry(P:Program) (ext:q14) (gl:T AV) (wrap:q03->q03) (d:Nat):q03:=qaj P ext (λcall n=>qgz P call ext n) 10000000 gl wrap d
def qk4(P:Program) (g tu:Nat):Prop:=∃fn rt,P.funcs[g]? =some fn/\(fn.name== "runtime.NumGoroutine")=false/\fn.body.isNone=true/\Extern.findNext fn=none/\Extern.find fn=some (Extern.BytealgMakeNoZero.makeNoZero fn.params #[rt])/\P.underlying rt=some (.slice tu)
def qqq(g0 tu:Nat) (call:q03):q03:=λf args h nx=>match Nat.beq f g0 with
  | true=>match args with
    | [.int .i64 (.ofNat n)]=>match Nat.ble n 1000000 with
      | true=>match T.put 64 nx (some (.cells tu (some 0) true [])) h with
        |some h'=>some (.gsl nx 0 n 1,h',nx+1)
        |none=>none
      |false=>none
    |_=>none
  |false=>call f args h nx
def qrn {P :Program} {g0 tu:Nat} (hf:qk4 P g0 tu) {call:q03} (hc:q11 gl P call):q11 gl P (qqq g0 tu call):=by
  intro f args h nx r h' nx' e
  cases hg:Nat.beq f g0 with
  |false=>simp only[qqq,hg]at e;exact hc _ _ _ _ _ _ _ e
  | true=>
    simp only[qqq,hg]at e
    have hg:=Nat.eq_of_beq_eq_true hg
    subst hg
    split at e
    · rename_i n
      cases hn:Nat.ble n 1000000 with
      |false=>simp[hn]at e
      | true=>
        simp only[hn]at e
        have hn:n<=1000000:=Nat.le_of_ble_eq_true hn
        cases hp:T.put 64 nx (some (.cells tu (some 0) true [])) h with
        |none=>simp[hp]at e
        | some h2=>
          simp only[hp]at e
          cases e
          obtain⟨fn,rt,h1,h3,h4,h5,h6,h7⟩:=hf
          refine .inr ⟨Nat.le_succ _,?_,λF I w vs hv hs hF fr=> ?_⟩
          · unfold hasB;rw[h1]
            cases hb:fn.body with
            |none=>simp[hb]
            |some c=>rw[hb]at h4;cases h4
          · obtain⟨v,rfl,hvr⟩:=qdc hv
            cases hvr
            obtain⟨cs,q1,q2,_⟩:=Lib.run_makeNoZero (P:=P) w fn.params rt tu h7 n (by omega)
            have hrun:=run_callFunc_extern h1 h3 h4 h5 h6 ⟨[.int .i64 (.ofNat n)]⟩ w
            have hI:I nx=none:=fr nx (Nat.le_refl _) (Nat.lt_succ_self _)
            have ho:OR (ext I nx (w.heap.size,0,cs.size)) (0,cs.size) (.cells tu (some 0) true []) (.cells cs tu):=by
              have:=OR.cells (I:=ext I nx (w.heap.size,0,cs.size)) (t:=(0,cs.size)) (elem:=tu) (elem':=tu) (fz:=some 0) (g:=true) (pre:=[]) (vs:=[]) (rest:=cs.toList) (fr:=(0,0)) .nil (λh=>by cases h) rfl (by simp) (λ_ _ o _ _=>by simp) (.inl rfl)
              exact this
            have hg:=hs.push hI hF hp rfl ho (w':=w.drew.drew.alloc (.cells cs tu)) ⟨rfl,rfl,rfl⟩
            refine⟨_,_,_,?_, .gsl (q07 _ _ _) q2 (by omega) (.inl rfl),hg⟩
            rw[hrun]
            exact congrArg (λr=>Result.andThen r λv w'=>Result.ok (Next.value v) w') q1
    · cases e
end
end Go.Proofs.YtdaokgdnjaaofaaDoor.Eng
