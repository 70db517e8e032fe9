/-
  The machine once more, with small bodies: the same runs, quicker. No condition but what its last theorems ask.
-/
import Derived.Test.YtldhaghgonkknaaDoorEng5
namespace Go.Proofs.YtldhaghgonkknaaDoor.Old
open Go.RowKit
set_option linter.unusedVariables false
set_option linter.unusedSimpArgs false
variable {gl : T AV}
inductive R3 where
  |bad
  |ok (k:Kd) (v:AV) (ob:Option AO) (h:T AO) (nx:Nat)
abbrev OpF:=Oper->Program->CallF->ExtF->T AV->T AO->Nat->R3
noncomputable def r3:Option Act3->R3
  |some (k,v,ob,h,nx)=> .ok k v ob h nx
  |none=> .bad
noncomputable def slowF (o:Oper) (P:Program) (call:CallF) (ext:ExtF) (t:T AV) (h:T AO) (nx:Nat):R3:=r3 (actK P call ext t h nx o)
noncomputable def q1 (r:Option AV) (h:T AO) (nx:Nat):R3:= @Option.rec AV (λ_=>R3) .bad (λr=> .ok .q r none h nx) r
noncomputable def rd1 (r:Option AV) (h:T AO) (nx:Nat):R3:= @Option.rec AV (λ_=>R3) .bad (λr=> .ok .r r none h nx) r
noncomputable def s1 (r:Option (T AO)) (nx:Nat):R3:= @Option.rec (T AO) (λ_=>R3) .bad (λh'=> .ok .s undefA none h' nx) r
noncomputable def s3 (r:Option (AV×T AO×Nat)):R3:= @Option.rec (AV×T AO×Nat) (λ_=>R3) .bad (λp=> .ok .s p.1 none p.2.1 p.2.2) r
inductive Pth where
  |bad
  |h
  |o (p:Pth)
  |i (p:Pth)
noncomputable def pathF:Nat->Nat->Pth:= @Nat.rec (λ_=>Nat->Pth) (λ_=> .bad) (λ_ ih k=> @Nat.rec (λ_=>Pth) .h (λk _=> @Bool.rec (λ_=>Pth) (.i (ih (Nat.div k 2))) (.o (ih (Nat.div k 2))) (Nat.beq (Nat.mod k 2) 0)) k)
noncomputable def pth (k:Nat):Pth:=pathF 19 k
noncomputable def getP {α:Type}:T α->Pth->Option α:= @T.rec α (λ_=>Pth->Option α) (λ_=>none) (λ_ v _ gl gr p=> @Pth.rec (λ_=>Option α) none v (λp _=>gl p) (λp _=>gr p) p)
noncomputable def putE {α:Type} (x:Option α):Pth->Option (T α):= @Pth.rec (λ_=>Option (T α)) none (some (.n .e x .e)) (λ_ ih=> @Option.rec (T α) (λ_=>Option (T α)) none (λu=>some (.n u none .e)) ih) (λ_ ih=> @Option.rec (T α) (λ_=>Option (T α)) none (λu=>some (.n .e none u)) ih)
noncomputable def putP {α:Type} (x:Option α):T α->Pth->Option (T α):= @T.rec α (λ_=>Pth->Option (T α)) (putE x) (λl v r pl pr p=> @Pth.rec (λ_=>Option (T α)) none (some (.n l x r))
  (λp _=> @Option.rec (T α) (λ_=>Option (T α)) none (λu=>some (.n u v r)) (pl p))
  (λp _=> @Option.rec (T α) (λ_=>Option (T α)) none (λu=>some (.n l v u)) (pr p)) p)
noncomputable def ofCF:Value->Option AV:= @Value.rec (λ_=>Option AV) (λ_=>PUnit) (λ_=>PUnit) (λb=>some (.bool b)) (λk n=>some (.int k n)) (λk b=>ofVal (.float k b)) (λk r i=>ofVal (.complex k r i)) (λs=>some (.str (s.data.toList.map UInt8.toNat))) (λa=>ofVal (.pointer a)) (λa l c=>ofVal (.slice a l c)) (λr=>ofVal (.map r)) (λr=>ofVal (.chan r)) (λf a b i1 i2=>ofVal (.func f a b)) (some .nilf) (λt v ih=>ofVal (.iface t v)) (some .nili) (λc ih=>ofVal (.agg c)) (λv ih=>ofVal (.tuple v)) (λ_ _=>PUnit.unit) PUnit.unit (λ_ _ _ _=>PUnit.unit)
noncomputable def evF:Operand->T AV->Option AV:= @Operand.rec (λ_=>T AV->Option AV) (λn t=>getP t (pth n)) (λv _=>ofCF v) (λg t=>t.get (gBase+g)) (λf _=>some (.fn f []))
noncomputable def fitsF:IntKind->Int->Bool:= @IntKind.rec (λ_=>Int->Bool) (λ_=>false) (λ_=>false) (@Int.rec (λ_=>Bool) (λn=>Nat.ble n 2147483647) (λn=>Nat.ble n 2147483647)) (@Int.rec (λ_=>Bool) (λn=>Nat.ble n 9223372036854775807) (λn=>Nat.ble n 9223372036854775807)) (@Int.rec (λ_=>Bool) (λn=>Nat.ble n 255) (λn=>false)) (λ_=>false) (@Int.rec (λ_=>Bool) (λn=>Nat.ble n 4294967295) (λn=>false)) (@Int.rec (λ_=>Bool) (λn=>Nat.ble n 18446744073709551615) (λn=>false))
noncomputable def sameF:IntKind->IntKind->Bool:= @IntKind.rec (λ_=>IntKind->Bool) (λ_=>false) (λ_=>false) (@IntKind.rec (λ_=>Bool) (false) (false) (true) (false) (false) (false) (false) (false)) (@IntKind.rec (λ_=>Bool) (false) (false) (false) (true) (false) (false) (false) (false)) (@IntKind.rec (λ_=>Bool) (false) (false) (false) (false) (true) (false) (false) (false)) (λ_=>false) (@IntKind.rec (λ_=>Bool) (false) (false) (false) (false) (false) (false) (true) (false)) (@IntKind.rec (λ_=>Bool) (false) (false) (false) (false) (false) (false) (false) (true))
noncomputable def addI (x y:Int):Int:= @Int.rec (λ_=>Int) (λm=> @Int.rec (λ_=>Int) (λn=> .ofNat (Nat.add m n)) (λn=>Int.add (.ofNat m) (.negSucc n)) y) (λm=>Int.add (.negSucc m) y) x
noncomputable def ltF (x y:Int):Bool:= @Int.rec (λ_=>Bool) (λm=> @Int.rec (λ_=>Bool) (λn=>Nat.blt m n) (λ_=>false) y) (λm=>ltI (.negSucc m) y) x
noncomputable def eqF (x y:Int):Bool:= @Int.rec (λ_=>Bool) (λm=> @Int.rec (λ_=>Bool) (λn=>Nat.beq m n) (λ_=>false) y) (λm=>eqI (.negSucc m) y) x
noncomputable def chk (k:IntKind) (r:Int):Option AV:= @Bool.rec (λ_=>Option AV) none (some (.int k r)) (fitsF k r)
noncomputable def fastF:BinOp->IntKind->Int->Int->Option AV:= @BinOp.rec (λ_=>IntKind->Int->Int->Option AV) (λk x y=>chk k (addI x y)) (λk x y=>chk k (Int.sub x y)) (λ_ _ _=>none) (λ_ _ _=>none) (λ_ _ _=>none) (λ_ _ _=>none) (λ_ _ _=>none) (λ_ _ _=>none) (λ_ _ _=>none) (λ_ _ _=>none) (λ_ _ _=>none) (λ_ x y=>some (.bool (eqF x y))) (λ_ x y=>some (.bool (!eqF x y))) (λ_ x y=>some (.bool (ltF x y))) (λ_ x y=>some (.bool (!ltF y x))) (λ_ x y=>some (.bool (ltF y x))) (λ_ x y=>some (.bool (!ltF x y)))
noncomputable def slowBin (P:Program) (op:BinOp) (xt:TypeId) (y:Operand) (a b:AV):Option AV:=abinL P op xt y a b
noncomputable def bin2:AV->IntKind->Int->Program->BinOp->TypeId->Operand->AV->Option AV:= @AV.rec (λ_=>IntKind->Int->Program->BinOp->TypeId->Operand->AV->Option AV) (λ_=>PUnit) (λx0=>λ_ _ P op xt y a=>slowBin P op xt y a (.bool x0)) (λk' n'=>λk n P op xt y a=> @Bool.rec (λ_=>Option AV) (slowBin P op xt y a (.int k' n')) (@Option.rec AV (λ_=>Option AV) (slowBin P op xt y a (.int k' n')) some (fastF op k n n')) (sameF k k')) (λx0=>λ_ _ P op xt y a=>slowBin P op xt y a (.str x0)) (λ_ _ P op xt y a=>slowBin P op xt y a (.nilp)) (λx0 x1=>λ_ _ P op xt y a=>slowBin P op xt y a (.ptr x0 x1)) (λ_ _ P op xt y a=>slowBin P op xt y a (.nsl)) (λx0 x1 x2 x3=>λ_ _ P op xt y a=>slowBin P op xt y a (.sl x0 x1 x2 x3)) (λx0 x1 x2 x3=>λ_ _ P op xt y a=>slowBin P op xt y a (.gsl x0 x1 x2 x3)) (λ_ _ P op xt y a=>slowBin P op xt y a (.nmap)) (λx0=>λ_ _ P op xt y a=>slowBin P op xt y a (.map x0)) (λx0 x1 _=>λ_ _ P op xt y a=>slowBin P op xt y a (.fn x0 x1)) (λ_ _ P op xt y a=>slowBin P op xt y a (.nilf)) (λ_ _ P op xt y a=>slowBin P op xt y a (.nili)) (λx0 x1 _=>λ_ _ P op xt y a=>slowBin P op xt y a (.ifc x0 x1)) (λ_ _ P op xt y a=>slowBin P op xt y a (.ifo)) (λx0=>λ_ _ P op xt y a=>slowBin P op xt y a (.anyi x0)) (λx0 x1 x2=>λ_ _ P op xt y a=>slowBin P op xt y a (.lin x0 x1 x2)) (λx0 x1 x2 _ _=>λ_ _ P op xt y a=>slowBin P op xt y a (.bfn x0 x1 x2)) (λx0 _=>λ_ _ P op xt y a=>slowBin P op xt y a (.agg x0)) (λx0 _=>λ_ _ P op xt y a=>slowBin P op xt y a (.tup x0)) PUnit.unit (λ_ _ _ _=>PUnit.unit)
noncomputable def binF:AV->AV->Program->BinOp->TypeId->Operand->Option AV:= @AV.rec (λ_=>AV->Program->BinOp->TypeId->Operand->Option AV) (λ_=>PUnit) (λx0=>λb P op xt y=>slowBin P op xt y (.bool x0) b) (λk n=>λb P op xt y=>bin2 b k n P op xt y (.int k n)) (λx0=>λb P op xt y=>slowBin P op xt y (.str x0) b) (λb P op xt y=>slowBin P op xt y (.nilp) b) (λx0 x1=>λb P op xt y=>slowBin P op xt y (.ptr x0 x1) b) (λb P op xt y=>slowBin P op xt y (.nsl) b) (λx0 x1 x2 x3=>λb P op xt y=>slowBin P op xt y (.sl x0 x1 x2 x3) b) (λx0 x1 x2 x3=>λb P op xt y=>slowBin P op xt y (.gsl x0 x1 x2 x3) b) (λb P op xt y=>slowBin P op xt y (.nmap) b) (λx0=>λb P op xt y=>slowBin P op xt y (.map x0) b) (λx0 x1 _=>λb P op xt y=>slowBin P op xt y (.fn x0 x1) b) (λb P op xt y=>slowBin P op xt y (.nilf) b) (λb P op xt y=>slowBin P op xt y (.nili) b) (λx0 x1 _=>λb P op xt y=>slowBin P op xt y (.ifc x0 x1) b) (λb P op xt y=>slowBin P op xt y (.ifo) b) (λx0=>λb P op xt y=>slowBin P op xt y (.anyi x0) b) (λx0 x1 x2=>λb P op xt y=>slowBin P op xt y (.lin x0 x1 x2) b) (λx0 x1 x2 _ _=>λb P op xt y=>slowBin P op xt y (.bfn x0 x1 x2) b) (λx0 _=>λb P op xt y=>slowBin P op xt y (.agg x0) b) (λx0 _=>λb P op xt y=>slowBin P op xt y (.tup x0) b) PUnit.unit (λ_ _ _ _=>PUnit.unit)
noncomputable def ldA:AV->TypeId->Program->T AO->Nat->R3:= @AV.rec (λ_=>TypeId->Program->T AO->Nat->R3) (λ_=>PUnit) (λ_=>λ_ _ _ _=> .bad) (λ_ _=>λ_ _ _ _=> .bad) (λ_=>λ_ _ _ _=> .bad) (λ_ _ _ _=> .bad) (λid off=>λty P h nx=>rd1 (aload P h ty id off) h nx) (λ_ _ _ _=> .bad) (λ_ _ _ _=>λ_ _ _ _=> .bad) (λ_ _ _ _=>λ_ _ _ _=> .bad) (λ_ _ _ _=> .bad) (λ_=>λ_ _ _ _=> .bad) (λ_ _ _=>λ_ _ _ _=> .bad) (λ_ _ _ _=> .bad) (λ_ _ _ _=> .bad) (λ_ _ _=>λ_ _ _ _=> .bad) (λ_ _ _ _=> .bad) (λ_=>λ_ _ _ _=> .bad) (λ_ _ _=>λ_ _ _ _=> .bad) (λ_ _ _ _ _=>λ_ _ _ _=> .bad) (λ_ _=>λ_ _ _ _=> .bad) (λ_ _=>λ_ _ _ _=> .bad) PUnit.unit (λ_ _ _ _=>PUnit.unit)
noncomputable def stA:AV->TypeId->AV->Program->T AO->Nat->R3:= @AV.rec (λ_=>TypeId->AV->Program->T AO->Nat->R3) (λ_=>PUnit) (λ_=>λ_ _ _ _ _=> .bad) (λ_ _=>λ_ _ _ _ _=> .bad) (λ_=>λ_ _ _ _ _=> .bad) (λ_ _ _ _ _=> .bad) (λid off=>λty b P h nx=>s1 (astore P h ty id off b) nx) (λ_ _ _ _ _=> .bad) (λ_ _ _ _=>λ_ _ _ _ _=> .bad) (λ_ _ _ _=>λ_ _ _ _ _=> .bad) (λ_ _ _ _ _=> .bad) (λ_=>λ_ _ _ _ _=> .bad) (λ_ _ _=>λ_ _ _ _ _=> .bad) (λ_ _ _ _ _=> .bad) (λ_ _ _ _ _=> .bad) (λ_ _ _=>λ_ _ _ _ _=> .bad) (λ_ _ _ _ _=> .bad) (λ_=>λ_ _ _ _ _=> .bad) (λ_ _ _=>λ_ _ _ _ _=> .bad) (λ_ _ _ _ _=>λ_ _ _ _ _=> .bad) (λ_ _=>λ_ _ _ _ _=> .bad) (λ_ _=>λ_ _ _ _ _=> .bad) PUnit.unit (λ_ _ _ _=>PUnit.unit)
noncomputable def fMove (x:Operand) (o:Oper) (P:Program) (call:CallF) (ext:ExtF) (t:T AV) (h:T AO) (nx:Nat):R3:=q1 (evF x t) h nx
noncomputable def fLoad (ty:TypeId) (x:Operand) (o:Oper) (P:Program) (call:CallF) (ext:ExtF) (t:T AV) (h:T AO) (nx:Nat):R3:= @Option.rec AV (λ_=>R3) .bad (λa=>ldA a ty P h nx) (evF x t)
noncomputable def fStore (ty:TypeId) (x y:Operand) (o:Oper) (P:Program) (call:CallF) (ext:ExtF) (t:T AV) (h:T AO) (nx:Nat):R3:= @Option.rec AV (λ_=>R3) .bad (λa=> @Option.rec AV (λ_=>R3) .bad (λb=>stA a ty b P h nx) (evF y t)) (evF x t)
noncomputable def fBin (op:BinOp) (xt:TypeId) (x y:Operand) (yt:TypeId) (o:Oper) (P:Program) (call:CallF) (ext:ExtF) (t:T AV) (h:T AO) (nx:Nat):R3:= @Option.rec AV (λ_=>R3) .bad (λa=> @Option.rec AV (λ_=>R3) .bad (λb=>q1 (binF a b P op xt y) h nx) (evF y t)) (evF x t)
noncomputable def fFieldAddr (xt:TypeId) (x:Operand) (f:Nat) (o:Oper) (P:Program) (call:CallF) (ext:ExtF) (t:T AV) (h:T AO) (nx:Nat):R3:= @Option.rec AV (λ_=>R3) .bad (λa=>q1 (afield P xt a f) h nx) (evF x t)
noncomputable def fField (xt:TypeId) (x:Operand) (f:Nat) (o:Oper) (P:Program) (call:CallF) (ext:ExtF) (t:T AV) (h:T AO) (nx:Nat):R3:= @Option.rec AV (λ_=>R3) .bad (λa=>q1 (afld P xt a f) h nx) (evF x t)
noncomputable def fExtract (x:Operand) (i:Nat) (o:Oper) (P:Program) (call:CallF) (ext:ExtF) (t:T AV) (h:T AO) (nx:Nat):R3:= @Option.rec AV (λ_=>R3) .bad (λa=>q1 (aext a i) h nx) (evF x t)
noncomputable def fIndexAddr (xt:TypeId) (x y:Operand) (o:Oper) (P:Program) (call:CallF) (ext:ExtF) (t:T AV) (h:T AO) (nx:Nat):R3:= @Option.rec AV (λ_=>R3) .bad (λa=> @Option.rec AV (λ_=>R3) .bad (λb=>q1 (aindexAddr P xt a b) h nx) (evF y t)) (evF x t)
noncomputable def fIndex (xt:TypeId) (x y:Operand) (o:Oper) (P:Program) (call:CallF) (ext:ExtF) (t:T AV) (h:T AO) (nx:Nat):R3:= @Option.rec AV (λ_=>R3) .bad (λa=> @Option.rec AV (λ_=>R3) .bad (λb=>q1 (aindex P xt a b) h nx) (evF y t)) (evF x t)
noncomputable def pickB (b:Bool) (a:Operand) (c:Operand) (t:T AV) (h:T AO) (nx:Nat):R3:= @Bool.rec (λ_=>R3) (q1 (evF c t) h nx) (q1 (evF a t) h nx) b
noncomputable def boolA:AV->Option Bool:= @AV.rec (λ_=>Option Bool) (λ_=>PUnit) (λb=>some b) (λ_ _=>none) (λ_=>none) (none) (λ_ _=>none) (none) (λ_ _ _ _=>none) (λ_ _ _ _=>none) (none) (λ_=>none) (λ_ _ _=>none) (none) (none) (λ_ _ _=>none) (none) (λ_=>none) (λ_ _ _=>none) (λ_ _ _ _ _=>none) (λ_ _=>none) (λ_ _=>none) PUnit.unit (λ_ _ _ _=>PUnit.unit)
noncomputable def fPick (c a b:Operand) (o:Oper) (P:Program) (call:CallF) (ext:ExtF) (t:T AV) (h:T AO) (nx:Nat):R3:= @Option.rec AV (λ_=>R3) .bad (λa'=> @Option.rec Bool (λ_=>R3) .bad (λv=>pickB v a b t h nx) (boolA a')) (evF c t)
noncomputable def nilA:AV->T AO->Nat->R3:= @AV.rec (λ_=>T AO->Nat->R3) (λ_=>PUnit) (λ_=>λ_ _=> .bad) (λ_ _=>λ_ _=> .bad) (λ_=>λ_ _=> .bad) (λ_ _=> .bad) (λi f=>λh nx=> .ok .q (.ptr i f) none h nx) (λ_ _=> .bad) (λ_ _ _ _=>λ_ _=> .bad) (λ_ _ _ _=>λ_ _=> .bad) (λ_ _=> .bad) (λ_=>λ_ _=> .bad) (λf c _=>λh nx=> .ok .q (.fn f c) none h nx) (λ_ _=> .bad) (λ_ _=> .bad) (λf c _=>λh nx=> .ok .q (.ifc f c) none h nx) (λ_ _=> .bad) (λ_=>λ_ _=> .bad) (λ_ _ _=>λ_ _=> .bad) (λf b c _ _=>λh nx=> .ok .q (.bfn f b c) none h nx) (λ_ _=>λ_ _=> .bad) (λ_ _=>λ_ _=> .bad) PUnit.unit (λ_ _ _ _=>PUnit.unit)
noncomputable def fNilCheck (x:Operand) (o:Oper) (P:Program) (call:CallF) (ext:ExtF) (t:T AV) (h:T AO) (nx:Nat):R3:= @Option.rec AV (λ_=>R3) .bad (λa=>nilA a h nx) (evF x t)
noncomputable def mkF (v:AV) (ob:AO) (h:T AO) (nx:Nat):R3:= @Option.rec (T AO) (λ_=>R3) .bad (λh'=> .ok .a v (some ob) h' (nx+1)) (T.put 64 nx (some ob) h)
noncomputable def fAlloc (e:TypeId) (o:Oper) (P:Program) (call:CallF) (ext:ExtF) (t:T AV) (h:T AO) (nx:Nat):R3:= @Option.rec (List AV) (λ_=>R3) .bad (λz=>mkF (.ptr nx 0) (.cells e (some 0) false z) h nx) (zeroAV P e)
noncomputable def fBox (e:TypeId) (x:Operand) (o:Oper) (P:Program) (call:CallF) (ext:ExtF) (t:T AV) (h:T AO) (nx:Nat):R3:= @Option.rec AV (λ_=>R3) .bad (λa=>mkF (.ptr nx 0) (.cells e (some 0) false (cellsAV a)) h nx) (evF x t)
noncomputable def evoF (t:T AV) (x:Option Operand):Option (Option AV):= @Option.rec Operand (λ_=>Option (Option AV)) (some none) (λx=> @Option.rec AV (λ_=>Option (Option AV)) none (λa=>some (some a)) (evF x t)) x
noncomputable def fSlice (ty:TypeId) (x:Operand) (lo hi mx:Option Operand) (o:Oper) (P:Program) (call:CallF) (ext:ExtF) (t:T AV) (h:T AO) (nx:Nat):R3:= @Option.rec Operand (λ_=>R3) (@Option.rec AV (λ_=>R3) .bad (λa=> @Option.rec (Option AV) (λ_=>R3) .bad (λl=> @Option.rec (Option AV) (λ_=>R3) .bad (λr=>q1 (aslice P ty a l r) h nx) (evoF t hi)) (evoF t lo)) (evF x t)) (λ_=> .bad) mx
noncomputable def fConvert (s d:TypeId) (x:Operand) (o:Oper) (P:Program) (call:CallF) (ext:ExtF) (t:T AV) (h:T AO) (nx:Nat):R3:= @Option.rec AV (λ_=>R3) .bad (λa=> @Option.rec AV (λ_=>R3) (slowF o P call ext t h nx) (λr=> .ok .q r none h nx) (aconv P s d a)) (evF x t)
noncomputable def calledF (call:CallF) (ext:ExtF) (h:T AO) (nx:Nat) (g:Nat) (l:List AV):R3:= @Option.rec AV (λ_=>R3) (s3 (call g l h nx)) (λr=> .ok .s r none h nx) (ext g l)
noncomputable def evsF (t:T AV):List Operand->Option (List AV):= @List.rec Operand (λ_=>Option (List AV)) (some []) (λx _ ih=> @Option.rec AV (λ_=>Option (List AV)) none (λa=> @Option.rec (List AV) (λ_=>Option (List AV)) none (λr=>some (a::r)) ih) (evF x t))
noncomputable def clA:AV->Option (List AV)->CallF->ExtF->T AO->Nat->R3:= @AV.rec (λ_=>Option (List AV)->CallF->ExtF->T AO->Nat->R3) (λ_=>PUnit) (λ_=>λ_ _ _ _ _=> .bad) (λ_ _=>λ_ _ _ _ _=> .bad) (λ_=>λ_ _ _ _ _=> .bad) (λ_ _ _ _ _=> .bad) (λ_ _=>λ_ _ _ _ _=> .bad) (λ_ _ _ _ _=> .bad) (λ_ _ _ _=>λ_ _ _ _ _=> .bad) (λ_ _ _ _=>λ_ _ _ _ _=> .bad) (λ_ _ _ _ _=> .bad) (λ_=>λ_ _ _ _ _=> .bad) (λg caps _=>λl call ext h nx=> @Option.rec (List AV) (λ_=>R3) .bad (λl=>calledF call ext h nx g (l++caps)) l) (λ_ _ _ _ _=> .bad) (λ_ _ _ _ _=> .bad) (λ_ _ _=>λ_ _ _ _ _=> .bad) (λ_ _ _ _ _=> .bad) (λ_=>λ_ _ _ _ _=> .bad) (λ_ _ _=>λ_ _ _ _ _=> .bad) (λg first caps _ _=>λl call ext h nx=> @Option.rec (List AV) (λ_=>R3) .bad (λl=>calledF call ext h nx g (first++(l++caps))) l) (λ_ _=>λ_ _ _ _ _=> .bad) (λ_ _=>λ_ _ _ _ _=> .bad) PUnit.unit (λ_ _ _ _=>PUnit.unit)
noncomputable def fLen (c:Call) (o:Oper) (P:Program) (call:CallF) (ext:ExtF) (t:T AV) (h:T AO) (nx:Nat):R3:= @Option.rec AV (λ_=>R3) (slowF o P call ext t h nx) (λr=> .ok .q r none h nx) (@Option.rec (List AV) (λ_=>Option AV) none (λl=>abuiltin P .len c.argTypes.toList l) (evsF t c.args.toList))
noncomputable def fAppend (c:Call) (o:Oper) (P:Program) (call:CallF) (ext:ExtF) (t:T AV) (h:T AO) (nx:Nat):R3:=s3 (match evsF t c.args.toList with|some [d,x]=>aappend2 P h nx c.argTypes.toList d x|_=>none)
noncomputable def fBuiltin:Builtin->Call->OpF:= @Builtin.rec (λ_=>Call->OpF) (fAppend) (λ_=>slowF) (λ_=>slowF) (λ_=>slowF) (λ_=>slowF) (λ_=>slowF) (λ_=>slowF) (λ_=>slowF) (fLen) (λ_=>slowF) (λ_=>slowF) (λ_=>slowF) (λ_=>slowF) (λ_=>slowF) (λ_=>slowF) (λ_=>slowF) (λ_=>slowF) (λ_=>slowF) (λ_=>slowF) (λ_=>slowF) (λ_=>slowF) (λ_=>slowF) (λ_=>slowF) (λ_=>slowF) (λ_=>slowF) (λ_=>slowF)
noncomputable def fCallee:Callee->Call->OpF:= @Callee.rec (λ_=>Call->OpF) (λf c o P call ext t h nx=> @Option.rec AV (λ_=>R3) .bad (λa=>clA a (evsF t c.args.toList) call ext h nx) (evF f t)) (λ_ _ _=>slowF) fBuiltin
noncomputable def fCall (c:Call) (o:Oper) (P:Program) (call:CallF) (ext:ExtF) (t:T AV) (h:T AO) (nx:Nat):R3:=fCallee c.callee c o P call ext t h nx
noncomputable def opF:Op->OpF:= @Op.rec (λ_=>OpF) fMove fMove fPick fAlloc fBox (λ_ _=>slowF) (λ_ _ _=>slowF) (λ_ _ _ _=>slowF) fLoad fStore (λ_=>slowF) (λ_=>slowF) fNilCheck fBin (λ_ _ _=>slowF) fConvert (λ_ _=>slowF) (λ_ _=>slowF) (λ_ _ _=>slowF) (λ_ _=>slowF) (λ_ _=>slowF) (λ_ _ _=>slowF) fSlice fFieldAddr fField fIndexAddr fIndex (λ_ _ _ _=>slowF) (λ_ _ _ _=>slowF) (λ_ _ _=>slowF) (λ_ _ _ _=>slowF) (λ_ _=>slowF) (λ_ _=>slowF) (λ_=>slowF) (λ_ _ _ _=>slowF) fExtract fCall (λ_=>slowF) (λ_=>slowF) (λ_=>slowF) (λ_ _=>slowF) (λ_ _ _=>slowF) (λ_ _=>slowF)
noncomputable def actF (o:Oper):Program->CallF->ExtF->T AV->T AO->Nat->R3:=opF o.op o
inductive Res where
  |bad
  |nrm (t:T AV) (h:T AO) (nx:Nat)
  |ex (id:Nat) (t:T AV) (h:T AO) (nx:Nat)
  |rt (t:T AV) (h:T AO) (nx:Nat)
structure Env where
  P:Program
  call:CallF
  ext:ExtF
  reg:Array Oper->T AV->T AO->Nat->Res
  n:Nat
  N:Nat
noncomputable def putF (n:Nat) (dst:Option Tmp) (v:AV) (t:T AV):Option (T AV):= @Option.rec Tmp (λ_=>Option (T AV)) (some t) (λd=> @Bool.rec (λ_=>Option (T AV)) none (putP (some v) t (pth d)) (Nat.blt d n)) dst
noncomputable def stepF (E:Env) (o:Oper) (ih:T AV->T AO->Nat->Res) (t:T AV) (h:T AO) (nx:Nat):Res:=
  @R3.rec (λ_=>Res) .bad (λk v ob h' nx'=> @Option.rec (T AV) (λ_=>Res) .bad (λt'=>ih t' h' nx') (putF E.n o.dst v t)) (actF o E.P E.call E.ext t h nx)
noncomputable def stepG (E:Env) (ops:Array Oper) (o:Oper) (ih:T AV->T AO->Nat->Res) (t:T AV) (h:T AO) (nx:Nat):Res:=
  @Option.rec Bool (λ_=>Res) .bad (λb=> @Bool.rec (λ_=>Res)
    (@Option.rec (T AV) (λ_=>Res) .bad (λt'=>ih t' h nx) (putF E.n o.dst undefA t)) (stepF E o ih t h nx) b) (guardT t ops o)
noncomputable def opsF (E:Env) (ops:Array Oper):List Oper->T AV->T AO->Nat->Res:= @List.rec Oper (λ_=>T AV->T AO->Nat->Res) (λt h nx=> .nrm t h nx) (λo _ ih t h nx=>
  @Option.rec (Nat×Bool) (λ_=>Res) (stepF E o ih t h nx) (λ_=>stepG E ops o ih t h nx) o.guard)
abbrev CodeF:=Env->T AV->T AO->Nat->Res
noncomputable def seqF (r:Res) (k:T AV->T AO->Nat->Res):Res:= @Res.rec (λ_=>Res) .bad k (λid t h nx=> .ex id t h nx) (λt h nx=> .rt t h nx) r
noncomputable def blkF (id:Nat) (r:Res):Res:= @Res.rec (λ_=>Res) .bad (λt h nx=> .nrm t h nx) (λj t h nx=> @Bool.rec (λ_=>Res) (.ex j t h nx) (.nrm t h nx) (Nat.beq j id)) (λt h nx=> .rt t h nx) r
noncomputable def condF (a:Option AV) (x y:Res):Res:= @Option.rec AV (λ_=>Res) .bad (λa=> @Option.rec Bool (λ_=>Res) .bad (λb=> @Bool.rec (λ_=>Res) y x b) (boolA a)) a
noncomputable def loopF (c:T AV->T AO->Nat->Res) (N:Nat):T AV->T AO->Nat->Res:= @Nat.rec (λ_=>T AV->T AO->Nat->Res) (λ_ _ _=> .bad) (λ_ ih t h nx=>seqF (c t h nx) ih) N
noncomputable def execF:Code->CodeF:= @Code.rec (λ_=>CodeF)
  (λ_ t h nx=> .nrm t h nx)
  (λ_ ops draw E t h nx=> @Bool.rec (λ_=>Res) (opsF E ops ops.toList t h nx) (E.reg ops t h nx) draw)
  (λ_ _ ia ib E t h nx=>seqF (ia E t h nx) (ib E))
  (λx _ _ ia ib E t h nx=>condF (evF x t) (ia E t h nx) (ib E t h nx))
  (λid _ ia E t h nx=>blkF id (ia E t h nx))
  (λ_ ia E t h nx=>loopF (ia E) E.N t h nx)
  (λ_ _ _ _ _ _ _ _ _ _=> .bad)
  (λid _ t h nx=> .ex id t h nx)
  (λ_ _ _ _ _ _=> .bad)
  (λ_ _ t h nx=> .nrm t h nx)
  (λ_ _ _ _ _=> .bad)
  (λ_ t h nx=> .rt t h nx)
  (λ_ _ _ _ _=> .bad)
noncomputable def endR (P:Program) (fn:Func) (t:T AV) (h:T AO) (nx:Nat):Option (AV×T AO×Nat):= @Option.rec (List AV) (λ_=>Option (AV×T AO×Nat)) none (λr=>some (oneOr r,h,nx)) (aresults P t h fn.results.toList)
noncomputable def callF (P:Program) (ext:ExtF) (regOf:CallF->Nat->Array Oper->T AV->T AO->Nat->Res) (N:Nat) (gl:T AV) (wrap:CallF->CallF):Nat->CallF:= @Nat.rec (λ_=>CallF) (λ_ _ _ _=>none) (λ_ ih f args h nx=>
  match P.funcs[f]? with
  | some fn=>match fn.body with
    | some c=>match(if args.length<gBase then initT args 0 gl else none)with
      |some t=> @Res.rec (λ_=>Option (AV×T AO×Nat)) none (λt' h' nx'=>endR P fn t' h' nx') (λ_ _ _ _=>none) (λt' h' nx'=>endR P fn t' h' nx') (execF c ⟨P,wrap ih,ext,regOf (wrap ih) (args.length+(fn.ntmps- args.length)),args.length+(fn.ntmps- args.length),N⟩ t h nx)
      |none=>none
    |none=>none
  |none=>none)
inductive RD where
  |bad
  |ok (rs:List Rc) (t:T AV) (h:T AO) (nx:Nat)
noncomputable def consD (c:Rc) (r:RD):RD:= @RD.rec (λ_=>RD) .bad (λrs t h nx=> .ok (c::rs) t h nx) r
noncomputable def restF (t:T AV):List Nat->T AV->Option (T AV):= @List.rec Nat (λ_=>T AV->Option (T AV)) (λacc=>some acc) (λn _ ih acc=>
  @Option.rec AV (λ_=>Option (T AV)) (@Bool.rec (λ_=>Option (T AV)) (match restr t [n] acc with|some acc'=>ih acc'|none=>none) (ih acc) (Nat.blt n 500000)) (λa=> @Option.rec (T AV) (λ_=>Option (T AV)) none (λacc'=>ih acc') (putP (some a) acc (pth n))) (getP t (pth n)))
noncomputable def stepD (P:Program) (call:CallF) (ext:ExtF) (n:Nat) (o:Oper) (ih:T AV->T AO->Nat->RD) (tr t:T AV) (h:T AO) (nx:Nat):RD:=
  @R3.rec (λ_=>RD) .bad (λk v ob h' nx'=> @Option.rec (T AV) (λ_=>RD) .bad (λt'=>consD ⟨o,true,k,tr,v,ob,nx,h⟩ (ih t' h' nx')) (putF n o.dst v t)) (actF o P call ext tr h nx)
noncomputable def stepDG (P:Program) (call:CallF) (ext:ExtF) (n:Nat) (ops:Array Oper) (o:Oper) (ih:T AV->T AO->Nat->RD) (tr t:T AV) (h:T AO) (nx:Nat):RD:=
  @Option.rec Bool (λ_=>RD) .bad (λb=> @Bool.rec (λ_=>RD)
    (@Option.rec (T AV) (λ_=>RD) .bad (λt'=>consD ⟨o,false, .q,tr,undefA,none,nx,h⟩ (ih t' h nx)) (putF n o.dst undefA t)) (stepD P call ext n o ih tr t h nx) b) (guardT tr ops o)
noncomputable def runF (P:Program) (call:CallF) (ext:ExtF) (n:Nat) (ops:Array Oper):List Oper->T AV->T AO->Nat->RD:= @List.rec Oper (λ_=>T AV->T AO->Nat->RD) (λt h nx=> .ok [] t h nx) (λo _ ih t h nx=>
  @Option.rec (T AV) (λ_=>RD) .bad (λtr=> @Option.rec (Nat×Bool) (λ_=>RD) (stepD P call ext n o ih tr t h nx) (λ_=>stepDG P call ext n ops o ih tr t h nx) o.guard) (restF t (slotsOf ops o) .e))
noncomputable def regF (P:Program) (call:CallF) (ext:ExtF) (n:Nat) (ops:Array Oper) (t:T AV) (h:T AO) (nx:Nat):Res:=
  @Option.rec (List Nat) (λ_=>Res) .bad (λA=> @Option.rec Pair (λ_=>Res) .bad (λpr=>
    @RD.rec (λ_=>Res) .bad (λrs t' h' nx'=> @Bool.rec (λ_=>Res) .bad (.nrm t' h' nx') (dynOK P ops A rs h'&&pairDyn P pr rs h')) (runF P call ext n ops ops.toList t h nx)) (regPr P ops A)) (ancs ops.toList 0 [])
theorem pathF_zero(f:Nat):pathF (f+1) 0= .h:=rfl
theorem pathF_succ(f k:Nat):pathF (f+1) (k+1)=match Nat.beq (Nat.mod k 2) 0 with|true=> .o (pathF f (Nat.div k 2))|false=> .i (pathF f (Nat.div k 2)):=by
  show @Bool.rec (λ_=>Pth) (.i (pathF f (Nat.div k 2))) (.o (pathF f (Nat.div k 2))) (Nat.beq (Nat.mod k 2) 0)=_
  cases Nat.beq (Nat.mod k 2) 0<;>rfl
theorem getP_ok{α:Type}:∀(f:Nat) (t:T α) (k:Nat) (a:α),getP t (pathF f k)=some a->t.get k=some a/\k+1<2 ^ f
  | 0,t,k,a,e=>by
    have:getP t .bad=some a:=e
    cases t<;>cases this
  | f+1, .e,k,a,e=>by
    have:(none:Option α)=some a:=e
    cases this
  | f+1, .n l v r,0,a,e=>by
    rw[pathF_zero]at e
    refine⟨e,?_⟩
    have:=Nat.one_lt_two_pow (n:=f+1) (by omega);omega
  | f +1, .n l v r,k+1,a,e=>by
    rw[pathF_succ]at e
    rw[T.get_n]
    have hp:2 ^ (f+1)=2*2 ^ f:=by rw[Nat.pow_succ];omega
    cases hb:Nat.beq (Nat.mod k 2) 0 with
    | true=>
      rw[hb]at e
      have:=getP_ok f l (Nat.div k 2) a e
      refine⟨this.1,?_⟩
      have h2:=this.2
      rw[T.div2]at h2
      omega
    | false=>
      rw[hb]at e
      have:=getP_ok f r (Nat.div k 2) a e
      refine⟨this.1,?_⟩
      have h2:=this.2
      rw[T.div2]at h2
      omega
theorem getP_none{α:Type}:∀(f:Nat) (t:T α) (k:Nat),k+1<2 ^ f->getP t (pathF f k)=none->t.get k=none
  |0,t,k,h,e=>by simp at h
  |f+1, .e,k,h,e=>rfl
  |f+1, .n l v r,0,h,e=>by rw[pathF_zero]at e;exact e
  | f +1, .n l v r,k+1,h,e=>by
    rw[pathF_succ]at e
    rw[T.get_n]
    have hp:2 ^ (f+1)=2*2 ^ f:=by rw[Nat.pow_succ];omega
    cases hb:Nat.beq (Nat.mod k 2) 0 with
    |true=>rw[hb]at e;exact getP_none f l (Nat.div k 2) (by rw[T.div2];omega) e
    | false=>
      rw[hb]at e
      have:=(T.parity k).2 hb
      exact getP_none f r (Nat.div k 2) (by rw[T.div2];omega) e
theorem putE_ok{α:Type} (x:Option α):∀(f:Nat) (k:Nat) (u:T α),putE x (pathF f k)=some u->∀g,f<=g->T.putS g k x .e=some u
  | 0,k,u,e,g,hg=>by
    have:(none:Option (T α))=some u:=e
    cases this
  | f+1,0,u,e,g,hg=>by
    rw[pathF_zero]at e
    cases g with
    |zero=>omega
    |succ g=>exact e
  | f + 1,k+1,u,e,g,hg=>by
    rw[pathF_succ]at e
    cases g with
    |zero=>omega
    | succ g=>
      simp only[T.putS]
      cases hb:Nat.beq (Nat.mod k 2) 0 with
      | true=>
        rw[hb]at e
        have e': @Option.rec (T α) (λ_=>Option (T α)) none (λu=>some (.n u none .e)) (putE x (pathF f (Nat.div k 2)))=some u:=e
        cases h:putE x (pathF f (Nat.div k 2))with
        |none=>rw[h]at e';cases e'
        | some w=>
          rw[h]at e'
          simp only[putE_ok x f _ w h g (by omega)]
          exact e'
      | false=>
        rw[hb]at e
        have e': @Option.rec (T α) (λ_=>Option (T α)) none (λu=>some (.n .e none u)) (putE x (pathF f (Nat.div k 2)))=some u:=e
        cases h:putE x (pathF f (Nat.div k 2))with
        |none=>rw[h]at e';cases e'
        | some w=>
          rw[h]at e'
          simp only[putE_ok x f _ w h g (by omega)]
          exact e'
theorem putP_ok{α:Type} (x:Option α):∀(f:Nat) (t:T α) (k:Nat) (u:T α),f<=64->putP x t (pathF f k)=some u->T.putR x t k=some u
  | f, .e,k,u,hf,e=>by
    have e':putE x (pathF f k)=some u:=e
    exact putE_ok x f k u e' 64 hf
  | 0, .n l v r,k,u,hf,e=>by
    have:(none:Option (T α))=some u:=e
    cases this
  |f+1, .n l v r,0,u,hf,e=>by rw[pathF_zero]at e;exact e
  | f + 1, .n l v r,k+1,u,hf,e=>by
    rw[pathF_succ]at e
    rw[T.putR_n]
    cases hb:Nat.beq (Nat.mod k 2) 0 with
    | true=>
      rw[hb]at e
      have e': @Option.rec (T α) (λ_=>Option (T α)) none (λu=>some (.n u v r)) (putP x l (pathF f (Nat.div k 2)))=some u:=e
      cases h:putP x l (pathF f (Nat.div k 2))with
      |none=>rw[h]at e';cases e'
      | some w=>
        rw[h]at e'
        simp only[putP_ok x f l _ w (by omega) h]
        exact e'
    | false=>
      rw[hb]at e
      have e': @Option.rec (T α) (λ_=>Option (T α)) none (λu=>some (.n l v u)) (putP x r (pathF f (Nat.div k 2)))=some u:=e
      cases h:putP x r (pathF f (Nat.div k 2))with
      |none=>rw[h]at e';cases e'
      | some w=>
        rw[h]at e'
        simp only[putP_ok x f r _ w (by omega) h]
        exact e'
theorem blt_ok{a b:Nat} (h:Nat.blt a b=true):a<b:=by simpa[Nat.blt_eq]using h
theorem ofCF_eq(v:Value):ofCF v=ofC v:=by cases v<;>rfl
theorem evF_ok{x:Operand} {t:T AV} {a:AV} (e:evF x t=some a):ev t x=some a:=by
  cases x with
  | tmp n=>
    have e':getP t (pth n)=some a:=e
    obtain⟨h1,h2⟩:=getP_ok _ _ _ _ e'
    have h4:(2:Nat) ^ 19=524288:=by decide
    have h3:Nat.blt n gBase=true:=by
      rw[blt_eq]
      exact decide_eq_true (by unfold gBase;omega)
    simp only[ev,h3];exact h1
  |const v=>exact(ofCF_eq v).symm.trans e
  |global g=>exact e
  |func f=>exact e
theorem opt1{α β:Type} {r:Option α} {f:α->β} {b x:β} (e: @Option.rec α (λ_=>β) b f r=x) (hb:b≠x):∃a,r=some a/\f a=x:=by
  cases r with
  |none=>exact absurd e hb
  |some a=>exact⟨a,rfl,e⟩
theorem q1_ok{r:Option AV} {h:T AO} {nx:Nat} {k v ob h' nx'} (e:q1 r h nx= .ok k v ob h' nx'):mk3 .q h nx r=some (k,v,ob,h',nx'):=by
  obtain⟨a,rfl,e⟩:=opt1 e (by simp)
  cases e;rfl
theorem rd1_ok{r:Option AV} {h:T AO} {nx:Nat} {k v ob h' nx'} (e:rd1 r h nx= .ok k v ob h' nx'):mk3 .r h nx r=some (k,v,ob,h',nx'):=by
  obtain⟨a,rfl,e⟩:=opt1 e (by simp)
  cases e;rfl
theorem s3_ok{r:Option (AV×T AO×Nat)} {k v ob h' nx'} (e:s3 r= .ok k v ob h' nx'):mkS3 r=some (k,v,ob,h',nx'):=by
  obtain⟨⟨a,b,c⟩,rfl,e⟩:=opt1 e (by simp)
  cases e;rfl
theorem slow_ok{o:Oper} {P call ext t h nx k v ob h' nx'} (e:slowF o P call ext t h nx= .ok k v ob h' nx'):actK P call ext t h nx o=some (k,v,ob,h',nx'):=by
  unfold slowF r3 at e
  split at e
  · rename_i he;cases e;exact he
  · cases e
theorem fitsF_eq(k:IntKind) (n:Int):fitsF k n=fits k n:=by cases k<;>cases n<;>rfl
theorem sameF_eq(k k':IntKind):sameF k k'=sameK k k':=by cases k<;>cases k'<;>rfl
theorem addI_eq(x y:Int):addI x y=Int.add x y:=by cases x<;>cases y<;>rfl
theorem ltF_eq(x y:Int):ltF x y=ltI x y:=by cases x<;>cases y<;>rfl
theorem eqF_eq(x y:Int):eqF x y=eqI x y:=by cases x<;>cases y<;>rfl
theorem chk_eq(k:IntKind) (r:Int):chk k r=match fits k r with|true=>some (.int k r)|false=>none:=by
  unfold chk;rw[fitsF_eq];cases fits k r<;>rfl
theorem fastF_eq(op:BinOp) (k:IntKind) (x y:Int):fastF op k x y=fastI op k x y:=by
  cases op<;>first|rfl| (show chk k _=_;rw[chk_eq];simp only[fastI,addI_eq];cases fits k _<;>rfl)| (show some (AV.bool _)=_;simp only[fastI,ltF_eq,eqF_eq])
theorem bin2_eq(P:Program) (op:BinOp) (xt:TypeId) (y:Operand) (k:IntKind) (n:Int) (b:AV):bin2 b k n P op xt y (.int k n)=abinL P op xt y (.int k n) b:=by
  cases b with
  | int k' n'=>
    show @Bool.rec (λ_=>Option AV) (slowBin P op xt y (.int k n) (.int k' n')) (@Option.rec AV (λ_=>Option AV) (slowBin P op xt y (.int k n) (.int k' n')) some (fastF op k n n')) (sameF k k')=_
    rw[sameF_eq,fastF_eq]
    show _=abin P op xt (.int k n) (.int k' n')
    unfold slowBin
    have h0:abinL P op xt y (.int k n) (.int k' n')=abin P op xt (.int k n) (.int k' n'):=rfl
    rw[h0]
    cases hs:sameK k k' with
    |false=>rfl
    | true=>
      show @Option.rec AV (λ_=>Option AV) (abin P op xt (.int k n) (.int k' n')) some (fastI op k n n')=_
      cases hf:fastI op k n n' with
      |none=>rfl
      |some r=>unfold abin;simp only[hs,hf]
  |_=>rfl
theorem binF_eq(P:Program) (op:BinOp) (xt:TypeId) (y:Operand) (a b:AV):binF a b P op xt y=abinL P op xt y a b:=by
  cases a with
  |int k n=>exact bin2_eq P op xt y k n b
  |_=>rfl
theorem evsF_ok{t:T AV}:∀{l:List Operand} {r:List AV},evsF t l=some r->evs t l=some r
  | [],r,e=>e
  | x::l,r,e=>by
    obtain⟨a,ha,e⟩:=opt1 (r:=evF x t) e (by simp)
    obtain⟨q,hq,e⟩:=opt1 (r:=evsF t l) e (by simp)
    simp only[evs,evF_ok ha,evsF_ok hq];exact e
theorem evoF_ok{t:T AV} {x:Option Operand} {v:Option AV} (e:evoF t x=some v):evo t x=some v:=by
  cases x with
  |none=>exact e
  | some x=>
    obtain⟨a,ha,e⟩:=opt1 (r:=evF x t) e (by simp)
    simp only[evo,evF_ok ha];exact e
theorem mkF_ok{v0:AV} {ob0:AO} {h:T AO} {nx:Nat} {k v ob h' nx'} (e:mkF v0 ob0 h nx= .ok k v ob h' nx'):mkA h nx (some (v0,ob0))=some (k,v,ob,h',nx'):=by
  obtain⟨h2,hp,e⟩:=opt1 e (by simp)
  cases e
  simp only[mkA,hp]
theorem boolA_ok{a:AV} {b:Bool} (e:boolA a=some b):a= .bool b:=by
  cases a<;>first| (cases e;rfl)|cases e
theorem actF_ok{P:Program} {call:CallF} {ext:ExtF} {t:T AV} {h:T AO} {nx:Nat} {o:Oper} {k v ob h' nx'} (e:actF o P call ext t h nx= .ok k v ob h' nx'):actK P call ext t h nx o=some (k,v,ob,h',nx'):=by
  obtain⟨dst,op,ty,pos,after,guard⟩:=o
  cases op
  case move x=>
    have e':q1 (evF x t) h nx= .ok k v ob h' nx':=e
    obtain⟨a,ha,e'⟩:=opt1 e' (by simp)
    cases e'
    simp only[actK,qop,evF_ok ha,mk3]
  case assign x=>
    have e':q1 (evF x t) h nx= .ok k v ob h' nx':=e
    obtain⟨a,ha,e'⟩:=opt1 e' (by simp)
    cases e'
    simp only[actK,qop,evF_ok ha,mk3]
  case pick c a b=>
    obtain⟨x,hx,e⟩:=opt1 (r:=evF c t) e (by simp)
    obtain⟨v',hv,e⟩:=opt1 (r:=boolA x) e (by simp)
    have:=boolA_ok hv;subst this
    cases v' with
    | true=>
      have e':q1 (evF a t) h nx= .ok k v ob h' nx':=e
      obtain⟨z,hz,e'⟩:=opt1 e' (by simp)
      cases e'
      simp only[actK,qop,evF_ok hx,evF_ok hz,mk3]
    | false=>
      have e':q1 (evF b t) h nx= .ok k v ob h' nx':=e
      obtain⟨z,hz,e'⟩:=opt1 e' (by simp)
      cases e'
      simp only[actK,qop,evF_ok hx,evF_ok hz,mk3]
  case alloc el=>
    obtain⟨z,hz,e⟩:=opt1 (r:=zeroAV P el) e (by simp)
    have:=mkF_ok e
    simp only[actK,aop,hz];exact this
  case box el x=>
    obtain⟨z,hz,e⟩:=opt1 (r:=evF x t) e (by simp)
    have:=mkF_ok e
    simp only[actK,aop,evF_ok hz];exact this
  case load lt x=>
    obtain⟨a,ha,e⟩:=opt1 (r:=evF x t) e (by simp)
    cases a<;>first|cases e|skip
    have:=rd1_ok e
    simp only[actK,rop,evF_ok ha];exact this
  case store st x y=>
    obtain⟨a,ha,e⟩:=opt1 (r:=evF x t) e (by simp)
    obtain⟨b,hb,e⟩:=opt1 (r:=evF y t) e (by simp)
    cases a<;>first|cases e|skip
    rename_i id off _
    obtain⟨h2,hp,e⟩:=opt1 (r:=astore P h st id off b) e (by simp)
    cases e
    simp only[actK,sop,evF_ok ha,evF_ok hb,hp,mkS3]
  case nilCheck x=>
    obtain⟨a,ha,e⟩:=opt1 (r:=evF x t) e (by simp)
    cases a<;>first|cases e|skip
    all_goals simp only[actK,qop,evF_ok ha,mk3]
  case binOp op xt x y yt=>
    obtain⟨a,ha,e⟩:=opt1 (r:=evF x t) e (by simp)
    obtain⟨b,hb,e⟩:=opt1 (r:=evF y t) e (by simp)
    rw[binF_eq]at e
    have:=q1_ok e
    simp only[actK,qop,evF_ok ha,evF_ok hb];exact this
  case convert s d x=>
    obtain⟨a,ha,e⟩:=opt1 (r:=evF x t) e (by simp)
    cases hc:aconv P s d a with
    | none=>
      rw[hc]at e
      exact slow_ok e
    | some r=>
      rw[hc]at e
      cases e
      simp only[actK,qop,evF_ok ha,hc,mk3,or3]
  case slice st x lo hi mx=>
    cases mx with
    |some m=>cases e
    | none=>
      obtain⟨a,ha,e⟩:=opt1 (r:=evF x t) e (by simp)
      obtain⟨l,hl,e⟩:=opt1 (r:=evoF t lo) e (by simp)
      obtain⟨r,hr,e⟩:=opt1 (r:=evoF t hi) e (by simp)
      have:=q1_ok e
      simp only[actK,qop,evF_ok ha,evoF_ok hl,evoF_ok hr];exact this
  case fieldAddr s x f=>
    obtain⟨a,ha,e⟩:=opt1 (r:=evF x t) e (by simp)
    have:=q1_ok e
    simp only[actK,qop,evF_ok ha];exact this
  case field s x f=>
    obtain⟨a,ha,e⟩:=opt1 (r:=evF x t) e (by simp)
    have:=q1_ok e
    simp only[actK,qop,evF_ok ha];exact this
  case indexAddr s x i=>
    obtain⟨a,ha,e⟩:=opt1 (r:=evF x t) e (by simp)
    obtain⟨b,hb,e⟩:=opt1 (r:=evF i t) e (by simp)
    have:=q1_ok e
    simp only[actK,qop,evF_ok ha,evF_ok hb];exact this
  case index s x i=>
    obtain⟨a,ha,e⟩:=opt1 (r:=evF x t) e (by simp)
    obtain⟨b,hb,e⟩:=opt1 (r:=evF i t) e (by simp)
    have:=q1_ok e
    simp only[actK,qop,evF_ok ha,evF_ok hb];exact this
  case extract x i=>
    obtain⟨a,ha,e⟩:=opt1 (r:=evF x t) e (by simp)
    have:=q1_ok e
    simp only[actK,qop,evF_ok ha];exact this
  case call c=>
    obtain⟨callee,args,argTypes⟩:=c
    cases callee with
    | value f=>
      obtain⟨a,ha,e⟩:=opt1 (r:=evF f t) e (by simp)
      cases a<;>first|cases e|skip
      case fn g caps=>
        obtain⟨l,hl,e⟩:=opt1 (r:=evsF t args.toList) e (by simp)
        simp only[actK,acallee,evF_ok ha,evsF_ok hl,called]
        have e': @Option.rec AV (λ_=>R3) (s3 (call g (l++caps) h nx)) (λr=> .ok .s r none h nx) (ext g (l++caps))= .ok k v ob h' nx':=e
        cases hx:ext g (l++caps)with
        |none=>rw[hx]at e';exact s3_ok e'
        |some r=>rw[hx]at e';cases e';rfl
      case bfn g first caps=>
        obtain⟨l,hl,e⟩:=opt1 (r:=evsF t args.toList) e (by simp)
        simp only[actK,acallee,evF_ok ha,evsF_ok hl,called]
        have e': @Option.rec AV (λ_=>R3) (s3 (call g (first++(l++caps)) h nx)) (λr=> .ok .s r none h nx) (ext g (first++(l++caps)))= .ok k v ob h' nx':=e
        cases hx:ext g (first++(l++caps))with
        |none=>rw[hx]at e';exact s3_ok e'
        |some r=>rw[hx]at e';cases e';rfl
    |invoke r m=>exact slow_ok e
    | builtin b=>
      cases b
      case append=>
        have e':s3 (match evsF t args.toList with|some [d,x]=>aappend2 P h nx argTypes.toList d x|_=>none)= .ok k v ob h' nx':=e
        have:=s3_ok e'
        simp only[actK,sop]
        cases hl:evsF t args.toList with
        |none=>rw[hl]at this;cases this
        |some l=>rw[hl]at this;rw[evsF_ok hl];exact this
      case len=>
        have e': @Option.rec AV (λ_=>R3) (slowF ⟨dst, .call ⟨.builtin .len,args,argTypes⟩,ty,pos,after,guard⟩ P call ext t h nx) (λr=> .ok .q r none h nx) (@Option.rec (List AV) (λ_=>Option AV) none (λl=>abuiltin P .len argTypes.toList l) (evsF t args.toList))= .ok k v ob h' nx':=e
        cases hr:(@Option.rec (List AV) (λ_=>Option AV) none (λl=>abuiltin P .len argTypes.toList l) (evsF t args.toList))with
        |none=>rw[hr]at e';exact slow_ok e'
        | some r=>
          rw[hr]at e'
          cases e'
          obtain⟨l,hl,hr⟩:=opt1 hr (by simp)
          simp only[actK,qop,evsF_ok hl,hr,mk3,or3]
      all_goals exact slow_ok e
  all_goals exact slow_ok e
theorem mk3_keep{k0:Kd} {h:T AO} {nx:Nat} {r:Option AV} {k v ob h' nx'} (e:mk3 k0 h nx r=some (k,v,ob,h',nx')):keep h nx r=some (v,h',nx'):=by
  cases r with
  |none=>cases e
  |some a=>cases e;rfl
theorem mkA_made{h:T AO} {nx:Nat} {r:Option (AV×AO)} {k v ob h' nx'} (e:mkA h nx r=some (k,v,ob,h',nx')):made h nx r=some (v,h',nx'):=by
  cases r with
  |none=>cases e
  | some a=>
    obtain⟨a,b⟩:=a
    simp only[mkA]at e
    simp only[made]
    split at e
    · rename_i hp;cases e;first|rw[hp]|rfl
    · cases e
theorem mkS3_id{r:Option (AV×T AO×Nat)} {k v ob h' nx'} (e:mkS3 r=some (k,v,ob,h',nx')):r=some (v,h',nx'):=by
  cases r with
  |none=>cases e
  |some a=>obtain⟨a,b,c⟩:=a;cases e;rfl
theorem or3_none{a b:Option Act3} {x:Act3} (e:or3 a b=some x):a=some x\/a=none/\b=some x:=by
  cases a with
  |none=>exact .inr ⟨rfl,e⟩
  |some y=>cases e;exact .inl rfl
theorem mk3_none{k0:Kd} {h:T AO} {nx:Nat} {r:Option AV} (e:mk3 k0 h nx r=none):keep h nx r=none:=by
  cases r with
  |none=>rfl
  |some a=>cases e
theorem first_of{a b:Option (AV×T AO×Nat)} {x:AV×T AO×Nat} (h:a=some x\/a=none/\b=some x):first a b=some x:=by
  rcases h with h|⟨h,g⟩
  · rw[h];rfl
  · rw[h];exact g
theorem actK_act1{P:Program} {call:CallF} {ext:ExtF} {t:T AV} {h:T AO} {nx:Nat} {o:Oper} {k v ob h' nx'} (e:actK P call ext t h nx o=some (k,v,ob,h',nx')):act1 P call ext t h nx o=some (v,h',nx'):=by
  obtain⟨dst,op,ty,pos,after,guard⟩:=o
  cases op
  case call c=>
    obtain⟨callee,args,argTypes⟩:=c
    cases callee with
    |value f=>exact mkS3_id e
    |invoke r m=>exact mkS3_id e
    | builtin b=>
      cases b
      case append=>exact mkS3_id e
      case copy=>exact mkS3_id e
      case unsafeString=>exact mkS3_id e
      case len=>
        rcases or3_none e with e|⟨e1,e2⟩
        · exact first_of (.inl (mk3_keep e))
        · exact first_of (.inr ⟨mk3_none e1,mk3_keep e2⟩)
      all_goals exact mk3_keep e
  case convert s d x=>
    rcases or3_none e with e|⟨e1,e2⟩
    · exact first_of (.inl (mk3_keep e))
    · refine first_of (.inr ⟨mk3_none e1,?_⟩)
      rcases or3_none e2 with e|⟨e3,e4⟩
      · exact first_of (.inl (mk3_keep e))
      · refine first_of (.inr ⟨mk3_none e3,?_⟩)
        cases hsd:Nat.beq s d with
        |true=>rw[hsd]at e4;exact mkS3_id e4
        |false=>rw[hsd]at e4;exact mkA_made e4
  all_goals first
    |exact mk3_keep e
    |exact mkA_made e
    |exact mkS3_id e
theorem putF_ok {n :Nat} {dst:Option Tmp} {v:AV} {t t':T AV} (e:putF n dst v t=some t'):putT n dst v t=some t':=by
  cases dst with
  |none=>exact e
  | some d=>
    have e': @Bool.rec (λ_=>Option (T AV)) none (putP (some v) t (pth d)) (Nat.blt d n)=some t':=e
    cases hb:Nat.blt d n with
    |false=>rw[hb]at e';cases e'
    | true=>
      rw[hb]at e'
      have h1:=blt_ok hb
      have h2:T.put 64 d (some v) t=some t':=putP_ok (some v) 19 t d t' (by omega) e'
      have h3 : d <gBase:=by
        have h4 : ∀ (f : Nat) (t:T AV) (k:Nat) (u:T AV),putP (some v) t (pathF f k)=some u->k+1<2 ^ f:=by
          intro f
          induction f with
          | zero=>
            intro t k u e
            cases t with
            | e => have:(none:Option (T AV))=some u:=e
                   cases this
            | n l w r => have:(none:Option (T AV))=some u:=e
                         cases this
          | succ f ih=>
            intro t k u e
            have hp:2 ^ (f+1)=2*2 ^ f:=by rw[Nat.pow_succ];omega
            cases k with
            |zero=>have:=Nat.one_lt_two_pow (n:=f+1) (by omega);omega
            | succ k=>
              rw[pathF_succ]at e
              have sub:∀q,pathF f (Nat.div k 2)=q->(∃t u,putP (some v) t q=some u)->k+1+1<2 ^ (f+1):=λq hq hx=>by
                obtain⟨t1,u1,hx⟩:=hx
                rw[←hq]at hx
                have:=ih t1 _ u1 hx
                rw[T.div2]at this
                omega
              cases hb:Nat.beq (Nat.mod k 2) 0 with
              | true=>
                rw[hb]at e
                cases t with
                | e=>
                  obtain⟨u1,h1,_⟩:=opt1 (r:=putE (some v) (pathF f (Nat.div k 2))) (f:=λu=>some (T.n u none T.e)) e (by simp)
                  exact sub _ rfl ⟨.e,u1,h1⟩
                | n l w r=>
                  obtain⟨u1,h1,_⟩:=opt1 (r:=putP (some v) l (pathF f (Nat.div k 2))) (f:=λu=>some (T.n u w r)) e (by simp)
                  exact sub _ rfl ⟨l,u1,h1⟩
              | false=>
                rw[hb]at e
                cases t with
                | e=>
                  obtain⟨u1,h1,_⟩:=opt1 (r:=putE (some v) (pathF f (Nat.div k 2))) (f:=λu=>some (T.n T.e none u)) e (by simp)
                  exact sub _ rfl ⟨.e,u1,h1⟩
                | n l w r=>
                  obtain⟨u1,h1,_⟩:=opt1 (r:=putP (some v) r (pathF f (Nat.div k 2))) (f:=λu=>some (T.n l w u)) e (by simp)
                  exact sub _ rfl ⟨r,u1,h1⟩
        have h5:=h4 19 t d t' e'
        have h6:(2:Nat) ^ 19<=gBase:=by decide
        exact Nat.lt_of_lt_of_le (Nat.lt_of_succ_lt h5) h6
      simp only[putT]
      rw[if_pos h1,if_pos h3];exact h2
theorem stepF_ok{E:Env} {o:Oper} {ih:T AV->T AO->Nat->Res} {t:T AV} {h:T AO} {nx:Nat} {r:Res} (e:stepF E o ih t h nx=r) (hr:r≠ .bad):
    ∃v h' nx' t',act1 E.P E.call E.ext t h nx o=some (v,h',nx')/\putT E.n o.dst v t=some t'/\ih t' h' nx'=r:=by
  unfold stepF at e
  cases ha:actF o E.P E.call E.ext t h nx with
  |bad=>rw[ha]at e;exact absurd e.symm hr
  | ok k v ob h' nx'=>
    rw[ha]at e
    obtain⟨t',ht,e⟩:=opt1 (r:=putF E.n o.dst v t) e (λh=>hr h.symm)
    exact⟨v,h',nx',t',actK_act1 (actF_ok ha),putF_ok ht,e⟩
theorem opsF_ok{E:Env} {ops:Array Oper}:∀(l:List Oper) (i:Nat) (t:T AV) (h:T AO) (nx:Nat) (r:Res),ops.toList.drop i=l->opsF E ops l t h nx=r->r≠ .bad->
    ∃t' h' nx',r= .nrm t' h' nx'/\opsI E.P E.call E.ext E.n ops (List.range' i l.length) t h nx=some (t',h',nx')
  | [],i,t,h,nx,r,hl,e,hr=>⟨t,h,nx,e.symm,rfl⟩
  | o ::l,i,t,h,nx,r,hl,e,hr=>by
    have hn:nth ops.toList i=some o:=by
      rw[nth_eq,←List.head?_drop,hl];rfl
    have hd:ops.toList.drop (i+1)=l:=by rw[←List.tail_drop,hl];rfl
    have go:∀t1 h1 nx1,op1 E.P E.call E.ext E.n ops t h nx o=some (t1,h1,nx1)->opsF E ops l t1 h1 nx1=r->∃t' h' nx',r= .nrm t' h' nx'/\opsI E.P E.call E.ext E.n ops (List.range' i (o::l).length) t h nx=some (t',h',nx'):=by
      intro t1 h1 nx1 g1 g2
      obtain⟨t',h',nx',k1,k2⟩:=opsF_ok l (i+1) t1 h1 nx1 r hd g2 hr
      refine⟨t',h',nx',k1,?_⟩
      rw[List.length_cons,List.range'_succ,opsI]
      simp only[hn,g1]
      exact k2
    have run:guardT t ops o=some true->stepF E o (opsF E ops l) t h nx=r->∃t' h' nx',r= .nrm t' h' nx'/\opsI E.P E.call E.ext E.n ops (List.range' i (o::l).length) t h nx=some (t',h',nx'):=λhg e=>by
      obtain⟨v,h1,nx1,t1,k1,k2,k3⟩:=stepF_ok e hr
      exact go t1 h1 nx1 (by unfold op1;simp only[hg,k1,k2]) k3
    cases hgd:o.guard with
    | none=>
      have e':stepF E o (opsF E ops l) t h nx=r:=by
        have:opsF E ops (o::l) t h nx= @Option.rec (Nat×Bool) (λ_=>Res) (stepF E o (opsF E ops l) t h nx) (λ_=>stepG E ops o (opsF E ops l) t h nx) o.guard:=rfl
        rw[this,hgd]at e;exact e
      exact run (by unfold guardT;rw[hgd]) e'
    | some g=>
      have e':stepG E ops o (opsF E ops l) t h nx=r:=by
        have:opsF E ops (o::l) t h nx= @Option.rec (Nat×Bool) (λ_=>Res) (stepF E o (opsF E ops l) t h nx) (λ_=>stepG E ops o (opsF E ops l) t h nx) o.guard:=rfl
        rw[this,hgd]at e;exact e
      obtain⟨b,hb,e'⟩:=opt1 (r:=guardT t ops o) e' (λh=>hr h.symm)
      cases b with
      |true=>exact run hb e'
      | false=>
        obtain⟨t1,h1,e'⟩:=opt1 (r:=putF E.n o.dst undefA t) e' (λh=>hr h.symm)
        exact go t1 h nx (by unfold op1;simp only[hb,putF_ok h1]) e'
noncomputable def Res.is:Res->AX×T AV×T AO×Nat->Prop
  | .nrm t h nx,r=>r=(.nrm,t,h,nx)
  | .ex i t h nx,r=>r=(.ex i,t,h,nx)
  | .rt t h nx,r=>r=(.rt,t,h,nx)
  | .bad,_=>False
noncomputable def RegFOK (E:Env) (reg:RegF):Prop:=∀ops t h nx r,E.reg ops t h nx=r->r≠ .bad->∃t' h' nx',r= .nrm t' h' nx'/\reg ops t h nx=some (t',h',nx')
theorem seqF_cases{r:Res} {k:T AV->T AO->Nat->Res} {q:Res} (e:seqF r k=q) (hq:q≠ .bad):(∃t h nx,r= .nrm t h nx/\k t h nx=q)\/(r=q/\∀t h nx,r≠ .nrm t h nx):=by
  cases r with
  |bad=>exact absurd e.symm hq
  |nrm t h nx=>exact .inl ⟨t,h,nx,rfl,e⟩
  |ex id t h nx=>exact .inr ⟨e,λ_ _ _ h=>by cases h⟩
  |rt t h nx=>exact .inr ⟨e,λ_ _ _ h=>by cases h⟩
theorem execF_ok{E:Env} {reg:RegF} (hreg:RegFOK E reg):∀(c:Code) (t:T AV) (h:T AO) (nx:Nat) (q:Res),execF c E t h nx=q->∀r,q.is r->Ex E.P E.call E.ext reg E.n c t h nx r:=by
  have nb:∀{q:Res} {r},q.is r->q≠ .bad:=λ{q r} h e=>by rw[e]at h;exact h
  have out:∀{q:Res} {z r'},q.is (z,r')->(∀t h nx,q≠ .nrm t h nx)->z≠ .nrm:=λ{q z r'} h hn e=>by
    subst e
    obtain⟨a,b,c⟩:=r'
    cases q with
    |bad=>exact h
    |nrm t h' nx=>exact hn _ _ _ rfl
    |ex id t h' nx=>cases h
    |rt t h' nx=>cases h
  intro c
  induction c with
  |skip=>intro t h nx q e r hr;subst e;cases hr;exact⟨1,rfl⟩
  | region id ops draw=>
    intro t h nx q e r hr
    cases draw with
    | false=>
      have e':opsF E ops ops.toList t h nx=q:=e
      obtain⟨t',h',nx',k1,k2⟩:=opsF_ok ops.toList 0 t h nx q rfl e' (nb hr)
      subst k1
      cases hr
      refine⟨1,?_⟩
      have hs:List.range ops.size=List.range' 0 ops.toList.length:=by rw[List.range_eq_range'];simp
      simp only[exec,hs,k2]
    | true=>
      have e':E.reg ops t h nx=q:=e
      obtain⟨t',h',nx',k1,k2⟩:=hreg ops t h nx q e' (nb hr)
      subst k1
      cases hr
      exact⟨1,by simp only[exec,k2]⟩
  | seq a b iha ihb=>
    intro t h nx q e r hr
    have e':seqF (execF a E t h nx) (execF b E)=q:=e
    rcases seqF_cases e' (nb hr)with⟨t1,h1,nx1,k1,k2⟩|⟨k1,k2⟩
    · exact Ex.seq (iha t h nx _ k1 _ rfl) (ihb t1 h1 nx1 q k2 r hr)
    · obtain⟨z,r'⟩:=r
      exact Ex.seq_out (iha t h nx q k1 (z,r') hr) (out hr (by rw[←k1];exact k2))
  | cond x a b iha ihb=>
    intro t h nx q e r hr
    have e':condF (evF x t) (execF a E t h nx) (execF b E t h nx)=q:=e
    obtain⟨y,hy,e'⟩:=opt1 (r:=evF x t) e' (λh=>nb hr h.symm)
    obtain⟨v,hv,e'⟩:=opt1 (r:=boolA y) e' (λh=>nb hr h.symm)
    have:=boolA_ok hv;subst this
    cases v with
    |true=>exact Ex.cond_true (evF_ok hy) (iha t h nx q e' r hr)
    |false=>exact Ex.cond_false (evF_ok hy) (ihb t h nx q e' r hr)
  | block id a iha=>
    intro t h nx q e r hr
    have e':blkF id (execF a E t h nx)=q:=e
    cases hb:execF a E t h nx with
    |bad=>rw[hb]at e';exact absurd e'.symm (nb hr)
    | nrm t' h' nx'=>
      rw[hb]at e'
      have e':Res.nrm t' h' nx'=q:=e'
      subst e';cases hr
      exact Ex.block (id:=id) (iha t h nx _ hb (.nrm,t',h',nx') rfl)
    | rt t' h' nx'=>
      rw[hb]at e'
      have e':Res.rt t' h' nx'=q:=e'
      subst e';cases hr
      exact Ex.block (id:=id) (iha t h nx _ hb (.rt,t',h',nx') rfl)
    | ex j t' h' nx'=>
      rw[hb]at e'
      have e': @Bool.rec (λ_=>Res) (.ex j t' h' nx') (.nrm t' h' nx') (Nat.beq j id)=q:=e'
      have k:=Ex.block (id:=id) (iha t h nx _ hb (.ex j,t',h',nx') rfl)
      cases hj:Nat.beq j id with
      | true=>
        rw[hj]at e'
        have e':Res.nrm t' h' nx'=q:=e'
        subst e';cases hr
        have:=Nat.eq_of_beq_eq_true hj;subst this
        simpa[blk]using k
      | false=>
        rw[hj]at e'
        have e':Res.ex j t' h' nx'=q:=e'
        subst e';cases hr
        have hne:j≠id:=Nat.ne_of_beq_eq_false hj
        simpa[blk,hne]using k
  | loop a iha=>
    intro t h nx q e r hr
    have key:∀N t h nx,loopF (execF a E) N t h nx=q->Ex E.P E.call E.ext reg E.n (.loop a) t h nx r:=by
      intro N
      induction N with
      |zero=>intro t h nx e;exact absurd e.symm (nb hr)
      | succ N ih=>
        intro t h nx e
        have e':seqF (execF a E t h nx) (loopF (execF a E) N)=q:=e
        rcases seqF_cases e' (nb hr)with⟨t1,h1,nx1,k1,k2⟩|⟨k1,k2⟩
        · exact Ex.loop (iha t h nx _ k1 _ rfl) (ih t1 h1 nx1 k2)
        · obtain⟨z,r'⟩:=r
          exact Ex.loop_out (iha t h nx q k1 (z,r') hr) (out hr (by rw[←k1];exact k2))
    exact key E.N t h nx e
  |rangeFunc f params a b iha ihb=>intro t h nx q e r hr;exact absurd e.symm (nb hr)
  |exit id=>intro t h nx q e r hr;subst e;cases hr;exact⟨1,rfl⟩
  |scope a iha=>intro t h nx q e r hr;exact absurd e.symm (nb hr)
  |label l=>intro t h nx q e r hr;subst e;cases hr;exact⟨1,rfl⟩
  |goto l=>intro t h nx q e r hr;exact absurd e.symm (nb hr)
  |ret=>intro t h nx q e r hr;subst e;cases hr;exact⟨1,rfl⟩
  |refuse w=>intro t h nx q e r hr;exact absurd e.symm (nb hr)
theorem restF_ok{t:T AV}:∀{l:List Nat} {acc r:T AV},restF t l acc=some r->restr t l acc=some r
  | [],acc,r,e=>e
  | n ::l,acc,r,e=>by
    have e': @Option.rec AV (λ_=>Option (T AV)) (@Bool.rec (λ_=>Option (T AV)) (match restr t [n] acc with|some acc'=>restF t l acc'|none=>none) (restF t l acc) (Nat.blt n 500000)) (λa=> @Option.rec (T AV) (λ_=>Option (T AV)) none (λacc'=>restF t l acc') (putP (some a) acc (pth n))) (getP t (pth n))=some r:=e
    cases hg:getP t (pth n)with
    | none=>
      rw[hg]at e'
      have e': @Bool.rec (λ_=>Option (T AV)) (match restr t [n] acc with|some acc'=>restF t l acc'|none=>none) (restF t l acc) (Nat.blt n 500000)=some r:=e'
      cases hb:Nat.blt n 500000 with
      | true=>
        rw[hb]at e'
        have h1 : t.get n = none := getP_none 19 t n (by have:=blt_ok hb;have h6:(2:Nat) ^ 19=524288:=by decide
                                                         omega) hg
        simp only[restr,h1]
        exact restF_ok e'
      | false=>
        rw[hb]at e'
        have e':(match restr t [n] acc with|some acc'=>restF t l acc'|none=>none)=some r:=e'
        simp only[restr]at e'⊢
        cases h1:t.get n with
        |none=>simp only[h1]at e';simp only;exact restF_ok e'
        | some a=>
          simp only[h1]at e'
          simp only
          cases h2:T.put 64 n (some a) acc with
          |none=>simp only[h2]at e';cases e'
          |some acc'=>simp only[h2]at e';simp only;exact restF_ok e'
    | some a=>
      rw[hg]at e'
      obtain⟨acc',h1,e'⟩:=opt1 (r:=putP (some a) acc (pth n)) e' (by simp)
      have h2:=(getP_ok 19 t n a hg).1
      have h3:T.put 64 n (some a) acc=some acc':=putP_ok (some a) 19 acc n acc' (by omega) h1
      simp only[restr,h2,h3]
      exact restF_ok e'
theorem consD_ok{c:Rc} {r:RD} {rs t h nx} (e:consD c r= .ok rs t h nx):∃rs',r= .ok rs' t h nx/\rs=c::rs':=by
  cases r with
  |bad=>cases e
  |ok rs' t' h' nx'=>cases e;exact⟨rs',rfl,rfl⟩
theorem runF_ok{P:Program} {call:CallF} {ext:ExtF} {n:Nat} {ops:Array Oper}:∀(l:List Oper) {t t':T AV} {h h':T AO} {nx nx':Nat} {rs:List Rc},runF P call ext n ops l t h nx= .ok rs t' h' nx'->runD P call ext n ops l t h nx=some (rs,t',h',nx')
  | [],t,t',h,h',nx,nx',rs,e=>by cases e;rfl
  | o ::l,t,t',h,h',nx,nx',rs,e=>by
    obtain⟨tr,htr,e⟩:=opt1 (r:=restF t (slotsOf ops o) .e) e (by simp)
    have htr:=restF_ok htr
    have run:guardT tr ops o=some true->stepD P call ext n o (runF P call ext n ops l) tr t h nx= .ok rs t' h' nx'->runD P call ext n ops (o::l) t h nx=some (rs,t',h',nx'):=λhg e=>by
      unfold stepD at e
      cases ha:actF o P call ext tr h nx with
      |bad=>rw[ha]at e;cases e
      | ok k v ob h1 nx1=>
        rw[ha]at e
        obtain⟨t1,ht,e⟩:=opt1 (r:=putF n o.dst v t) e (by simp)
        obtain⟨rs',k1,rfl⟩:=consD_ok e
        simp only[runD,htr,hg,actF_ok ha,putF_ok ht,runF_ok l k1]
    cases hgd:o.guard with
    |none=>exact run (by unfold guardT;rw[hgd]) (by rw[hgd]at e;exact e)
    | some g=>
      rw[hgd]at e
      have e':stepDG P call ext n ops o (runF P call ext n ops l) tr t h nx= .ok rs t' h' nx':=e
      obtain⟨b,hb,e'⟩:=opt1 (r:=guardT tr ops o) e' (by simp)
      cases b with
      |true=>exact run hb e'
      | false=>
        obtain⟨t1,ht,e'⟩:=opt1 (r:=putF n o.dst undefA t) e' (by simp)
        obtain⟨rs',k1,rfl⟩:=consD_ok e'
        simp only[runD,htr,hb,putF_ok ht,runF_ok l k1]
theorem regF_ok{P:Program} {call:CallF} {ext:ExtF} {n:Nat} {ops:Array Oper} {t:T AV} {h:T AO} {nx:Nat} {r:Res} (e:regF P call ext n ops t h nx=r) (hr:r≠ .bad):∃t' h' nx',r= .nrm t' h' nx'/\regD P call ext n ops t h nx=some (t',h',nx'):=by
  obtain⟨A,hA,e⟩:=opt1 (r:=ancs ops.toList 0 []) e (λh=>hr h.symm)
  obtain⟨pr,hs,e'⟩:=opt1 (r:=regPr P ops A) e (λh=>hr h.symm)
  cases hrun:runF P call ext n ops ops.toList t h nx with
  |bad=>rw[hrun]at e';exact absurd e'.symm hr
  | ok rs t' h' nx'=>
    rw[hrun]at e'
    have e': @Bool.rec (λ_=>Res) .bad (.nrm t' h' nx') (dynOK P ops A rs h'&&pairDyn P pr rs h')=r:=e'
    cases hd:dynOK P ops A rs h'&&pairDyn P pr rs h' with
    |false=>rw[hd]at e';exact absurd e'.symm hr
    | true=>
      rw[hd]at e'
      refine⟨t',h',nx',e'.symm,?_⟩
      simp only[regD,hA,hs,runF_ok _ hrun,hd]
theorem endR_ok{P:Program} {fn:Func} {t:T AV} {h:T AO} {nx:Nat} {r h' nx'} (e:endR P fn t h nx=some (r,h',nx')):∃rs,aresults P t h fn.results.toList=some rs/\r=oneOr rs/\h'=h/\nx'=nx:=by
  obtain⟨rs,h1,e⟩:=opt1 (r:=aresults P t h fn.results.toList) e (by simp)
  cases e
  exact⟨rs,h1,rfl,rfl,rfl⟩
theorem call_of_ex{P:Program} {call:CallF} {ext:ExtF} (hm:P.follows .mixedOrders=true) (hc:CallOK gl P call) (he:ExtOK P ext) (hn:∀(f:Nat) (fn:Func),P.funcs[f]? =some fn->(fn.name== "runtime.NumGoroutine")=false)
    {f:Nat} {fn:Func} {c:Code} {args:List AV} {t t1:T AV} {h h1:T AO} {nx nx1:Nat} {x:AX} {rs:List AV} (hfn:P.funcs[f]? =some fn) (hb:fn.body=some c) (ht:(if args.length<gBase then initT args 0 gl else none)=some t)
    (hx:Ex P call ext (regD P call ext (args.length+(fn.ntmps- args.length))) (args.length+(fn.ntmps- args.length)) c t h nx (x,t1,h1,nx1)) (hne:∀i,x≠ .ex i) (hrs:aresults P t1 h1 fn.results.toList=some rs):
    nx<=nx1/\(∀args w,(callFunc f args).run P w= .ok (.enter f args) w)/\
    ∀ (F:Bool->Nat->Prop) (I:In) (w:World) (vs:List Value),VRs I args vs->Sim F I h w->(∀b,F true b->b<w.heap.size)->GOK gl I->(∀b,F false b->F true b)->Fresh I nx nx1->
      Calls P f ⟨vs⟩ w λe w'=>∃z I',e= .returned z/\VR I' (oneOr rs) z/\Grow F I nx w I' nx1 h1 w':=by
  obtain⟨M,hM⟩:=hx
  obtain⟨k1,k2⟩:=exec_ok hc he (regD_ok hm hc he _) _ _ _ _ _ _ _ _ _ hM
  refine⟨k1,λargs w=> ?_,λF I w vs hv hs hF hG hZ fr=> ?_⟩
  · have hnn:¬fn.name= "runtime.NumGoroutine" :=by have:=hn f fn hfn;simpa using this
    simp[callFunc,program,Sem.run,bind,Sem.bind,pure,hfn,hnn,hb]
  · refine calls_of_wp hfn hb (k2 F I _ w ?_ fr _ λe a' I' w' hxe st' g'=> ?_)
    · split at ht
      case isFalse=>cases ht
      rename_i hlg
      refine⟨λk b hk=> ?_,by rw[Array.size_append,Array.size_replicate];show vs.length+(fn.ntmps- vs.length)=_;rw[hv.len],rfl,hs,hF,hG,hZ⟩
      have hg:=initT_get _ _ _ _ ht k
      rw[hk]at hg
      simp only[Nat.not_lt_zero,if_false,Nat.zero_add,Nat.sub_zero]at hg
      split at hg
      · rename_i hlt
        obtain⟨v,g1,g2⟩:=hv.get k b hg.symm
        have hkv:k<vs.length:=by rw[←hv.len];exact hlt
        have:((⟨vs⟩:Array Value)++Array.replicate (fn.ntmps- (⟨vs⟩:Array Value).size) undef).getD k undef=v:=by
          rw[Array.getD_eq_getD_getElem?,Array.getElem?_append_left (by simpa using hkv)]
          simp[g1]
        rw[slot_low (by omega),this];exact g2
      · obtain⟨g1,g2⟩:=hG k b hg.symm
        unfold slot
        rw[if_neg (by omega)];exact g2
    · obtain⟨v,r1,r2⟩:=results_run (P:=P) st' hrs
      cases e with
      |normal=>exact⟨st'.defers,v,r1,v,I',rfl,r2,g'⟩
      |ret=>exact⟨st'.defers,v,r1,v,I',rfl,r2,g'⟩
      |exit i=>cases x<;>simp only[AX.is]at hxe;exact(hne _ rfl).elim
      |_=>cases x<;>simp only[AX.is]at hxe
theorem callF_ok{P:Program} {ext:ExtF} {N:Nat} (hm:P.follows .mixedOrders=true) (he:ExtOK P ext) (hn:∀(f:Nat) (fn:Func),P.funcs[f]? =some fn->(fn.name== "runtime.NumGoroutine")=false) (wrap:CallF->CallF) (hw:∀c,CallOK gl P c->CallOK gl P (wrap c)):∀d,CallOK gl P (callF P ext (λcall n=>regF P call ext n) N gl wrap d):=by
  intro d
  induction d with
  |zero=>intro f args h nx r h' nx' e;cases e
  | succ d ih =>
    have ih:=hw _ ih
    intro f args h nx r h' nx' e
    have e':(match P.funcs[f]? with
      | some fn=>match fn.body with
        | some c=>match(if args.length<gBase then initT args 0 gl else none)with
          |some t=> @Res.rec (λ_=>Option (AV×T AO×Nat)) none (λt' h' nx'=>endR P fn t' h' nx') (λ_ _ _ _=>none) (λt' h' nx'=>endR P fn t' h' nx') (execF c ⟨P,wrap (callF P ext (λcall n=>regF P call ext n) N gl wrap d),ext,regF P (wrap (callF P ext (λcall n=>regF P call ext n) N gl wrap d)) ext (args.length+(fn.ntmps- args.length)),args.length+(fn.ntmps- args.length),N⟩ t h nx)
          |none=>none
        |none=>none
      |none=>none)=some (r,h',nx'):=e
    split at e'
    · rename_i fn hfn
      split at e'
      · rename_i c hc
        split at e'
        · rename_i t ht
          have go:∀(q:Res) (x:AX) t1 h1 nx1,execF c ⟨P,wrap (callF P ext (λcall n=>regF P call ext n) N gl wrap d),ext,regF P (wrap (callF P ext (λcall n=>regF P call ext n) N gl wrap d)) ext (args.length+(fn.ntmps- args.length)),args.length+(fn.ntmps- args.length),N⟩ t h nx=q->q.is (x,t1,h1,nx1)->(∀i,x≠ .ex i)->endR P fn t1 h1 nx1=some (r,h',nx')->nx<=nx'/\(∀args w,(callFunc f args).run P w= .ok (.enter f args) w)/\
              ∀ (F:Bool->Nat->Prop) (I:In) (w:World) (vs:List Value),VRs I args vs->Sim F I h w->(∀b,F true b->b<w.heap.size)->GOK gl I->(∀b,F false b->F true b)->Fresh I nx nx'->
                Calls P f ⟨vs⟩ w λe w'=>∃z I',e= .returned z/\VR I' r z/\Grow F I nx w I' nx' h' w':=λq x t1 h1 nx1 hq hqi hx he1=>by
            obtain⟨rs,k1,rfl,rfl,rfl⟩:=endR_ok he1
            exact call_of_ex hm ih he hn hfn hc ht (execF_ok (reg:=regD P (wrap (callF P ext (λcall n=>regF P call ext n) N gl wrap d)) ext (args.length+(fn.ntmps- args.length))) (λops t h nx r e hr=>regF_ok e hr) c t h nx q hq _ hqi) hx k1
          generalize hq:execF c _ t h nx=q at e'
          cases q with
          |bad=>cases e'
          |nrm t1 h1 nx1=>exact .inl (go _ .nrm t1 h1 nx1 hq rfl (by simp) e')
          |ex i t1 h1 nx1=>cases e'
          |rt t1 h1 nx1=>exact .inl (go _ .rt t1 h1 nx1 hq rfl (by simp) e')
        · cases e'
      · cases e'
    · cases e'
noncomputable def callQ (P:Program) (ext:ExtF) (wrap:CallF->CallF) (d:Nat):CallF:=callF P ext (λcall n=>regF P call ext n) 10000000 .e wrap d
theorem closed_of{P:Program} {call:CallF} (hc:CallOK .e P call) {f:Nat} {b:Bool} {h:T AO} {nx:Nat} (hb:hasB P f=true) (e:call f [] .e 0=some (.bool b,h,nx)) (w:World):
    Calls P f #[] w λe w'=>e= .returned (.bool b)/\Below w.heap.size w w':=by
  obtain⟨_,_,k⟩:=hc.enter hb e
  refine(k (λs b=>match s with|true=>b<w.heap.size|false=>False) (λ_=>none) w [] .nil ⟨λid o b t h=>(by rw[T.get_e]at h;cases h),λid id' o o' b t t' h=>(by rw[T.get_e]at h;cases h),λid o b t h=>(by rw[T.get_e]at h;cases h)⟩ (λb h=>h) (λn a h=>(by rw[T.get_e]at h;cases h)) (λb h=>h.elim) (λi _ _=>rfl)).mono λe' w' hh=> ?_
  obtain⟨z,I',rfl,h1,h2⟩:=hh
  cases h1
  exact⟨rfl,h2.same.os,h2.same.tape,h2.same.output,h2.size,λk hk=>h2.fr k hk⟩
end Go.Proofs.YtldhaghgonkknaaDoor.Old
