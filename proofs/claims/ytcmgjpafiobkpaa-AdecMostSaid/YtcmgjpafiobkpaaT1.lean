/-
  What the functions do: contracts, and their questions answered. No condition but what its theorems ask.
-/
import Derived.Test.YtcmgjpafiobkpaaU6
import Derived.Test.YtcmgjpafiobkpaaProg
import Derived.Test.YtcmgjpafiobkpaaRprw
namespace Go.Proofs.Ytcmgjpafiobkpaa.Wd
open Go.Proofs.Ytcmgjpafiobkpaa.Eng Go.Proofs.Ytcmgjpafiobkpaa.Sen Go.RowKit
set_option linter.unusedVariables false
set_option linter.unusedSimpArgs false
set_option maxRecDepth 1000000
noncomputable abbrev P := Go.Proofs.Try.prog
theorem mixed : P.follows .mixedOrders = true := by decide +kernel
theorem no_tab : ∀ g C, (fun _ => none : Nat → Option Ct) g = some C → CtOK P g C := fun g C h => by cases h
noncomputable def slI (t : T AV) (k : Nat) : Option Int := match t.get k with
  | some a => match gi a with
    | some (_, i) => some i
    | none => none
  | none => none
theorem Pl_none : Pl noA := fun x h => by cases h
theorem Pl_some {x : Addr} (h : x.spot = none) : Pl (some x) := fun y e => by cases e; exact h
/-! Rows of records. -/
noncomputable def rowsV {α : Type} (f : α → List Value) : List α → List Value
  | [] => []
  | x :: l => f x ++ rowsV f l
theorem rows_len {α : Type} {f : α → List Value} {e : Nat} (hf : ∀ x, (f x).length = e) : ∀ l, (rowsV f l).length = l.length * e
  | [] => by simp [rowsV]
  | x :: l => by
    rw [rowsV, List.length_append, hf, rows_len hf l, List.length_cons, Nat.succ_mul]; omega
theorem rows_app {α : Type} {f : α → List Value} : ∀ l m, rowsV f (l ++ m) = rowsV f l ++ rowsV f m
  | [], m => rfl
  | x :: l, m => by
    show f x ++ rowsV f (l ++ m) = _
    rw [rows_app l m, ← List.append_assoc]; rfl
theorem rows_at {α : Type} {f : α → List Value} {e : Nat} (hf : ∀ x, (f x).length = e) : ∀ (l : List α) (i : Nat) (hi : i < l.length) (j : Nat), j < e → (rowsV f l)[i * e + j]? = (f l[i])[j]?
  | x :: l, 0, _, j, hj => by
    show (f x ++ rowsV f l)[0 * e + j]? = _
    rw [Nat.zero_mul, Nat.zero_add, List.getElem?_append_left (by rw [hf]; exact hj)]; rfl
  | x :: l, i + 1, hi, j, hj => by
    show (f x ++ rowsV f l)[(i + 1) * e + j]? = _
    have : (i + 1) * e = i * e + e := Nat.succ_mul i e
    rw [List.getElem?_append_right (by rw [hf]; omega), show (i + 1) * e + j - (f x).length = i * e + j by rw [hf]; omega]
    exact rows_at hf l i (by simpa using hi) j hj
theorem add4 (x : Addr) (h : x.spot = none) (i j : Nat) : (x.add i).add j = x.add (i + j) := by
  obtain ⟨b, o, s⟩ := x
  simp only at h
  subst h
  unfold Addr.add
  by_cases hi : i = 0
  · subst hi; simp
  · by_cases hj : j = 0
    · subst hj; simp [hi]
    · rw [if_neg hi, if_neg hj, if_neg (by omega)]
      simp only [Nat.add_assoc]
theorem rows_cells {α : Type} {f : α → List Value} {e : Nat} (hf : ∀ x, (f x).length = e) (he : 0 < e) {p : Pub} {a : Option Addr} {n c : Nat} {l : List α} (h : sliP p a n c (rowsV f l)) {i : Nat} (hi : i < l.length) : a ≠ noA ∧ cellsP p (adr a (i * e)) (f l[i]) := by
  rcases h.2 with h | ⟨x, rfl, h1, h2⟩
  · have := congrArg List.length h.1
    rw [rows_len hf, List.length_nil] at this
    have := Nat.mul_pos (show 0 < l.length by omega) he
    omega
  · refine ⟨by simp, fun j v hj => ?_⟩
    have hje : j < e := by have := (List.getElem?_eq_some_iff.mp hj).1; rw [hf] at this; exact this
    show cellP p ((x.add (i * e)).add j) = some v
    rw [add4 x h1]
    exact h2 _ v (by rw [rows_at hf l i hi j hje]; exact hj)
theorem cells_sub {p : Pub} {x : Addr} {vs : List Value} (h : cellsP p x vs) (hs : x.spot = none) (k : Nat) {v : Value} (hv : vs[k]? = some v) : cellsP p (x.add k) [v] := fun j u hj => by
  cases j with
  | zero =>
    simp at hj; subst hj
    rw [add4 x hs]
    exact h k v hv
  | succ j => simp at hj
noncomputable abbrev nilV : Value := .slice none 0 0
noncomputable def plM : List SV → PF
  | [x] => ⟨true, fun _ => Pl x.1, fun _ _ _ h => h⟩
  | _ => {}
noncomputable def gAny (k : Nat) : GS := some { β := Unit, ks := [k], pre := fun _ => True, mem := fun _ xs => plM xs }
/-! Numbers of seven bits a byte: what is told of them by hand (Rv). -/
open Go.Proofs.Ytcmgjpafiobkpaa.Rv
/-- The number that a wire's number stands for, and back. -/
noncomputable def unz (r : Nat) : Int := if r % 2 = 0 then (r / 2 : Nat) else -((r / 2 : Nat) : Int) - 1
noncomputable def zg (n : Int) : Nat := if 0 ≤ n then 2 * n.toNat else 2 * (-n - 1).toNat + 1
noncomputable def cVarint : Ct where
  σ := ByteArray
  args := fun s => [.sv (.string s)]
  h := fun _ => []
  m := 1
  pre := fun s => s.size < 1000000
  find := some fun l _ => match l with
    | [a] => gs a
    | _ => none
  r := fun s => .tup [.sv (.int .u64 (vval s.data.toList : Nat)), .sv (.int .i64 (vlen s.data.toList : Nat)), .sv (.int .i64 (verr s.data.toList : Nat))]
  h' := fun _ => []
  m' := 1
  g := fun _ => none
noncomputable def cUnzig : Ct where
  σ := Nat
  args := fun r => [.sv (.int .u64 (r : Nat))]
  h := fun _ => []
  m := 1
  pre := fun r => r < 18446744073709551616
  r := fun r => .sv (.int .u64 ((unz r) % 18446744073709551616))
  h' := fun _ => []
  m' := 1
  g := fun _ => none
noncomputable def cFrom8 : Ct where
  σ := Nat
  args := fun r => [.int .i64 8, .sv (.int .u64 (r : Nat))]
  h := fun _ => []
  m := 1
  pre := fun r => r < 18446744073709551616
  r := fun r => .sv (.int .u64 ((unz r) % 18446744073709551616))
  h' := fun _ => []
  m' := 1
  g := fun _ => none
noncomputable def cZig : Ct where
  σ := Int
  args := fun n => [.sv (.int .u64 (n % 18446744073709551616))]
  h := fun _ => []
  m := 1
  pre := fun n => -9223372036854775808 ≤ n ∧ n < 9223372036854775808
  r := fun n => .sv (.int .u64 (zg n : Nat))
  h' := fun _ => []
  m' := 1
  g := fun _ => none
noncomputable def cTo8 : Ct where
  σ := Int
  args := fun n => [.int .i64 8, .sv (.int .u64 (n % 18446744073709551616))]
  h := fun _ => []
  m := 1
  pre := fun n => -9223372036854775808 ≤ n ∧ n < 9223372036854775808
  r := fun n => .sv (.int .u64 (zg n : Nat))
  h' := fun _ => []
  m' := 1
  g := fun _ => none
noncomputable def cPutV : Ct where
  σ := Nat
  args := fun z => [.sv (.int .u64 (z : Nat))]
  h := fun _ => []
  m := 1
  pre := fun z => z < 18446744073709551616
  r := fun z => .sv (.string ⟨(venc z).toArray⟩)
  h' := fun _ => []
  m' := 2
  g := fun _ => none
noncomputable def cLongS : Ct where
  σ := Int
  args := fun n => [.sv (.int .i64 n)]
  h := fun _ => []
  m := 1
  pre := fun n => -9223372036854775808 ≤ n ∧ n < 9223372036854775808
  r := fun n => .sv (.string ⟨(venc (zg n)).toArray⟩)
  h' := fun _ => []
  m' := 2
  g := fun _ => none
/-! The decoder. -/
noncomputable def dcd (x : SV) (s : ByteArray) (i c : Int) : List (Nat × AO) := [(1, .cells 59 (some 0) false [.sv (.slice x.1 x.2.1 x.2.2), .sv (.string s), .sv (.int .i64 i), .sv (.int .i64 c)])]
/-- A long: its worth, its error, where it ends. -/
noncomputable def lgR (s : ByteArray) (i : Nat) : Int × Nat × Nat := (unz (vval (s.data.toList.drop i)), verr (s.data.toList.drop i), i + vlen (s.data.toList.drop i))
noncomputable def dcOf (h : T AO) (id : Nat) : Option (SV × ByteArray × Int × Int) := match h.get id with
  | some (.cells _ _ _ [.sv (.slice a n c), s, i, k]) => match gs s with
    | some s => match gi i with
      | some (_, i) => match gi k with
        | some (_, k) => some ((a, n, c), s, i, k)
        | none => none
      | none => none
    | none => none
  | _ => none
noncomputable abbrev DcS := SV × ByteArray × Int × Int
noncomputable def dcFind (l : List AV) (h : T AO) : Option DcS := match l with
  | .ptr id _ :: _ => dcOf h id
  | _ => none
noncomputable def dcPre : DcS → Prop := fun ⟨x, s, i, c⟩ => 0 ≤ i ∧ i ≤ s.size ∧ s.size < 100000
noncomputable def cLong : Ct where
  σ := DcS
  args := fun ⟨x, s, i, c⟩ => [.ptr 1 0]
  h := fun ⟨x, s, i, c⟩ => dcd x s i c
  m := 2
  pre := dcPre
  find := some dcFind
  r := fun ⟨x, s, i, c⟩ => .tup [.sv (.int .i64 (lgR s i.toNat).1), .sv (.int .i64 ((lgR s i.toNat).2.1 : Nat))]
  h' := fun ⟨x, s, i, c⟩ => dcd x s ((lgR s i.toNat).2.2 : Nat) c
  m' := 2
  g := fun _ => none
/-- A block's head: how many, where its end is said to be, the error, where it ends. -/
noncomputable def hdR (s : ByteArray) (i : Nat) : Int × Int × Int × Nat :=
  if (lgR s i).2.1 ≠ 0 ∨ 0 ≤ (lgR s i).1 then ((lgR s i).1, -1, ((lgR s i).2.1 : Nat), (lgR s i).2.2) else
  if (lgR s i).1 = -9223372036854775808 then (0, 0, 2, (lgR s i).2.2) else
  if (lgR s (lgR s i).2.2).2.1 ≠ 0 then (0, 0, ((lgR s (lgR s i).2.2).2.1 : Nat), (lgR s (lgR s i).2.2).2.2) else
  if (lgR s (lgR s i).2.2).1 < 0 then (0, 0, 2, (lgR s (lgR s i).2.2).2.2) else
  (-(lgR s i).1, (((lgR s (lgR s i).2.2).2.2 : Nat) : Int) + (if (9223372036854775807 : Int) - (((lgR s (lgR s i).2.2).2.2 : Nat) : Int) < (lgR s (lgR s i).2.2).1 then (9223372036854775807 : Int) - (((lgR s (lgR s i).2.2).2.2 : Nat) : Int) else (lgR s (lgR s i).2.2).1), 0, (lgR s (lgR s i).2.2).2.2)
noncomputable def cHead : Ct where
  σ := DcS
  args := fun ⟨x, s, i, c⟩ => [.ptr 1 0]
  h := fun ⟨x, s, i, c⟩ => dcd x s i c
  m := 2
  pre := dcPre
  find := some dcFind
  r := fun ⟨x, s, i, c⟩ => .tup [.sv (.int .i64 (hdR s i.toNat).1), .sv (.int .i64 (hdR s i.toNat).2.1), .sv (.int .i64 (hdR s i.toNat).2.2.1)]
  h' := fun ⟨x, s, i, c⟩ => dcd x s ((hdR s i.toNat).2.2.2 : Nat) c
  m' := 2
  g := fun _ => none
noncomputable def chE (s : ByteArray) (i : Nat) (o : Int) : Nat := if (lgR s i).2.1 = 0 ∧ ((lgR s i).1 < 0 ∨ o ≤ (lgR s i).1) then 2 else (lgR s i).2.1
noncomputable def cChoice : Ct where
  σ := Int × DcS
  args := fun ⟨o, x, s, i, c⟩ => [.ptr 1 0, .sv (.int .i64 o)]
  h := fun ⟨o, x, s, i, c⟩ => dcd x s i c
  m := 2
  pre := fun ⟨o, d⟩ => dcPre d
  r := fun ⟨o, x, s, i, c⟩ => .tup [.sv (.int .i64 (lgR s i.toNat).1), .sv (.int .i64 (chE s i.toNat o : Nat))]
  h' := fun ⟨o, x, s, i, c⟩ => dcd x s ((lgR s i.toNat).2.2 : Nat) c
  m' := 2
  g := fun _ => none
theorem unzig_eq (r : Nat) : askF P (fun _ => none) Go.Proofs.Try.f82 cUnzig (fun _ => {}) r = (r < (18446744073709551616 : Nat) → (0 : Int) ≤ (1 : Int) ∧ unz r % (18446744073709551616 : Int) = bitsP BinOp.xor IntKind.u64 (shP BinOp.shr IntKind.u64 (↑r : Int) (1 : Int)) (IntKind.wrap IntKind.u64 ((0 : Int) - bitsP BinOp.and IntKind.u64 (↑r : Int) (1 : Int))) ∧ True) := by kernel_rfl
theorem from8_eq (r : Nat) : askF P (ctTab [(82, cUnzig)]) Go.Proofs.Try.f70 cFrom8 (fun _ => {}) r = (r < (18446744073709551616 : Nat) → ∃ (s : Nat), (↑s : Int) = (↑r : Int) ∧ s < (18446744073709551616 : Nat) ∧ unz r % (18446744073709551616 : Int) = unz s % (18446744073709551616 : Int) ∧ True) := by kernel_rfl
theorem zig_eq (n : Int) : askF P (fun _ => none) Go.Proofs.Try.f25 cZig (fun _ => {}) n = ((-9223372036854775808 : Int) ≤ n ∧ n < (9223372036854775808 : Int) → (decide ((9223372036854775808 : Int) ≤ n % (18446744073709551616 : Int)) = true → (↑(zg n) : Int) = IntKind.wrap IntKind.u64 (IntKind.wrap IntKind.u64 (bitsP BinOp.xor IntKind.u64 (IntKind.max IntKind.u64) (n % (18446744073709551616 : Int)) * (2 : Int)) + (1 : Int)) ∧ True) ∧ (decide ((9223372036854775808 : Int) ≤ n % (18446744073709551616 : Int)) = false → (↑(zg n) : Int) = IntKind.wrap IntKind.u64 (n % (18446744073709551616 : Int) * (2 : Int)) ∧ True)) := by kernel_rfl
theorem to8_eq (n : Int) : askF P (ctTab [(25, cZig)]) Go.Proofs.Try.f15 cTo8 (fun _ => {}) n = ((-9223372036854775808 : Int) ≤ n ∧ n < (9223372036854775808 : Int) → ∃ (s : Int), s % (18446744073709551616 : Int) = n % (18446744073709551616 : Int) ∧ ((-9223372036854775808 : Int) ≤ s ∧ s < (9223372036854775808 : Int)) ∧ (↑(zg n) : Int) = (↑(zg s) : Int) ∧ True) := by kernel_rfl
theorem longS_eq (n : Int) : askF P (ctTab [(15, cTo8), (14, cPutV)]) Go.Proofs.Try.f7 cLongS (fun _ => {}) n = ((-9223372036854775808 : Int) ≤ n ∧ n < (9223372036854775808 : Int) → ∃ (s : Int), s % (18446744073709551616 : Int) = IntKind.wrap IntKind.u64 n ∧ ((-9223372036854775808 : Int) ≤ s ∧ s < (9223372036854775808 : Int)) ∧ ∃ (s_1 : Nat), (↑s_1 : Int) = (↑(zg s) : Int) ∧ s_1 < (18446744073709551616 : Nat) ∧ ByteArray.mk (List.toArray (Proofs.Ytcmgjpafiobkpaa.Rv.venc (zg n))) = ByteArray.mk (List.toArray (Proofs.Ytcmgjpafiobkpaa.Rv.venc s_1)) ∧ True) := by kernel_rfl
theorem long_eq (x : SV) (s : ByteArray) (i c : Int) : askF P (ctTab [(69, cVarint), (70, cFrom8)]) Go.Proofs.Try.f53 cLong (fun _ => {}) ⟨x, s, i, c⟩ = (dcPre (x, s, i, c) → ((0 : Int) ≤ i ∧ i ≤ (↑(ByteArray.size s) : Int)) ∧ ByteArray.extract s (Int.toNat i) (ByteArray.size s) = ByteArray.extract s (Int.toNat i) (ByteArray.size s) ∧ ByteArray.size (ByteArray.extract s (Int.toNat i) (ByteArray.size s)) < (1000000 : Nat) ∧ ((-9223372036854775808 : Int) ≤ i + (↑(Proofs.Ytcmgjpafiobkpaa.Rv.vlen (Array.toList (ByteArray.data (ByteArray.extract s (Int.toNat i) (ByteArray.size s))))) : Int) ∧ i + (↑(Proofs.Ytcmgjpafiobkpaa.Rv.vlen (Array.toList (ByteArray.data (ByteArray.extract s (Int.toNat i) (ByteArray.size s))))) : Int) ≤ (9223372036854775807 : Int)) ∧ ∃ (s_1 : Nat), (↑s_1 : Int) = (↑(Proofs.Ytcmgjpafiobkpaa.Rv.vval (Array.toList (ByteArray.data (ByteArray.extract s (Int.toNat i) (ByteArray.size s))))) : Int) ∧ s_1 < (18446744073709551616 : Nat) ∧ Prod.fst (lgR s (Int.toNat i)) = IntKind.wrap IntKind.i64 (unz s_1 % (18446744073709551616 : Int)) ∧ (↑(Prod.fst (Prod.snd (lgR s (Int.toNat i)))) : Int) = (↑(Proofs.Ytcmgjpafiobkpaa.Rv.verr (Array.toList (ByteArray.data (ByteArray.extract s (Int.toNat i) (ByteArray.size s))))) : Int) ∧ Prod.fst x = Prod.fst x ∧ Prod.fst (Prod.snd x) = Prod.fst (Prod.snd x) ∧ Prod.snd (Prod.snd x) = Prod.snd (Prod.snd x) ∧ s = s ∧ (↑(Prod.snd (Prod.snd (lgR s (Int.toNat i)))) : Int) = i + (↑(Proofs.Ytcmgjpafiobkpaa.Rv.vlen (Array.toList (ByteArray.data (ByteArray.extract s (Int.toNat i) (ByteArray.size s))))) : Int) ∧ c = c ∧ True) := by kernel_rfl
theorem head_eq (x : SV) (s : ByteArray) (i c : Int) : askF P (ctTab [(53, cLong)]) Go.Proofs.Try.f48 cHead (fun _ => {}) ⟨x, s, i, c⟩ = (dcPre (x, s, i, c) → Prod.fst x = Prod.fst x ∧ Prod.fst (Prod.snd x) = Prod.fst (Prod.snd x) ∧ Prod.snd (Prod.snd x) = Prod.snd (Prod.snd x) ∧ s = s ∧ i = i ∧ c = c ∧ dcPre ((Prod.fst x, Prod.fst (Prod.snd x), Prod.snd (Prod.snd x)), s, i, c) ∧ ((!decide ((↑(Prod.fst (Prod.snd (lgR s (Int.toNat i)))) : Int) = (0 : Int))) = true → Prod.fst (hdR s (Int.toNat i)) = Prod.fst (lgR s (Int.toNat i)) ∧ Prod.fst (Prod.snd (hdR s (Int.toNat i))) = (-1 : Int) ∧ Prod.fst (Prod.snd (Prod.snd (hdR s (Int.toNat i)))) = (↑(Prod.fst (Prod.snd (lgR s (Int.toNat i)))) : Int) ∧ Prod.fst x = Prod.fst x ∧ Prod.fst (Prod.snd x) = Prod.fst (Prod.snd x) ∧ Prod.snd (Prod.snd x) = Prod.snd (Prod.snd x) ∧ s = s ∧ (↑(Prod.snd (Prod.snd (Prod.snd (hdR s (Int.toNat i))))) : Int) = (↑(Prod.snd (Prod.snd (lgR s (Int.toNat i)))) : Int) ∧ c = c ∧ True) ∧ ((!decide ((↑(Prod.fst (Prod.snd (lgR s (Int.toNat i)))) : Int) = (0 : Int))) = false → (decide ((0 : Int) ≤ Prod.fst (lgR s (Int.toNat i))) = true → Prod.fst (hdR s (Int.toNat i)) = Prod.fst (lgR s (Int.toNat i)) ∧ Prod.fst (Prod.snd (hdR s (Int.toNat i))) = (-1 : Int) ∧ Prod.fst (Prod.snd (Prod.snd (hdR s (Int.toNat i)))) = (↑(Prod.fst (Prod.snd (lgR s (Int.toNat i)))) : Int) ∧ Prod.fst x = Prod.fst x ∧ Prod.fst (Prod.snd x) = Prod.fst (Prod.snd x) ∧ Prod.snd (Prod.snd x) = Prod.snd (Prod.snd x) ∧ s = s ∧ (↑(Prod.snd (Prod.snd (Prod.snd (hdR s (Int.toNat i))))) : Int) = (↑(Prod.snd (Prod.snd (lgR s (Int.toNat i)))) : Int) ∧ c = c ∧ True) ∧ (decide ((0 : Int) ≤ Prod.fst (lgR s (Int.toNat i))) = false → (decide (Prod.fst (lgR s (Int.toNat i)) = (-9223372036854775808 : Int)) = true → Prod.fst (hdR s (Int.toNat i)) = (0 : Int) ∧ Prod.fst (Prod.snd (hdR s (Int.toNat i))) = (0 : Int) ∧ Prod.fst (Prod.snd (Prod.snd (hdR s (Int.toNat i)))) = (2 : Int) ∧ Prod.fst x = Prod.fst x ∧ Prod.fst (Prod.snd x) = Prod.fst (Prod.snd x) ∧ Prod.snd (Prod.snd x) = Prod.snd (Prod.snd x) ∧ s = s ∧ (↑(Prod.snd (Prod.snd (Prod.snd (hdR s (Int.toNat i))))) : Int) = (↑(Prod.snd (Prod.snd (lgR s (Int.toNat i)))) : Int) ∧ c = c ∧ True) ∧ (decide (Prod.fst (lgR s (Int.toNat i)) = (-9223372036854775808 : Int)) = false → Prod.fst x = Prod.fst x ∧ Prod.fst (Prod.snd x) = Prod.fst (Prod.snd x) ∧ Prod.snd (Prod.snd x) = Prod.snd (Prod.snd x) ∧ s = s ∧ (↑(Prod.snd (Prod.snd (lgR s (Int.toNat i)))) : Int) = (↑(Prod.snd (Prod.snd (lgR s (Int.toNat i)))) : Int) ∧ c = c ∧ dcPre ((Prod.fst x, Prod.fst (Prod.snd x), Prod.snd (Prod.snd x)), s, (↑(Prod.snd (Prod.snd (lgR s (Int.toNat i)))) : Int), c) ∧ ((!decide ((↑(Prod.fst (Prod.snd (lgR s (Int.toNat (↑(Prod.snd (Prod.snd (lgR s (Int.toNat i)))) : Int))))) : Int) = (0 : Int))) = true → Prod.fst (hdR s (Int.toNat i)) = (0 : Int) ∧ Prod.fst (Prod.snd (hdR s (Int.toNat i))) = (0 : Int) ∧ Prod.fst (Prod.snd (Prod.snd (hdR s (Int.toNat i)))) = (↑(Prod.fst (Prod.snd (lgR s (Int.toNat (↑(Prod.snd (Prod.snd (lgR s (Int.toNat i)))) : Int))))) : Int) ∧ Prod.fst x = Prod.fst x ∧ Prod.fst (Prod.snd x) = Prod.fst (Prod.snd x) ∧ Prod.snd (Prod.snd x) = Prod.snd (Prod.snd x) ∧ s = s ∧ (↑(Prod.snd (Prod.snd (Prod.snd (hdR s (Int.toNat i))))) : Int) = (↑(Prod.snd (Prod.snd (lgR s (Int.toNat (↑(Prod.snd (Prod.snd (lgR s (Int.toNat i)))) : Int))))) : Int) ∧ c = c ∧ True) ∧ ((!decide ((↑(Prod.fst (Prod.snd (lgR s (Int.toNat (↑(Prod.snd (Prod.snd (lgR s (Int.toNat i)))) : Int))))) : Int) = (0 : Int))) = false → (decide (Prod.fst (lgR s (Int.toNat (↑(Prod.snd (Prod.snd (lgR s (Int.toNat i)))) : Int))) < (0 : Int)) = true → Prod.fst (hdR s (Int.toNat i)) = (0 : Int) ∧ Prod.fst (Prod.snd (hdR s (Int.toNat i))) = (0 : Int) ∧ Prod.fst (Prod.snd (Prod.snd (hdR s (Int.toNat i)))) = (2 : Int) ∧ Prod.fst x = Prod.fst x ∧ Prod.fst (Prod.snd x) = Prod.fst (Prod.snd x) ∧ Prod.snd (Prod.snd x) = Prod.snd (Prod.snd x) ∧ s = s ∧ (↑(Prod.snd (Prod.snd (Prod.snd (hdR s (Int.toNat i))))) : Int) = (↑(Prod.snd (Prod.snd (lgR s (Int.toNat (↑(Prod.snd (Prod.snd (lgR s (Int.toNat i)))) : Int))))) : Int) ∧ c = c ∧ True) ∧ (decide (Prod.fst (lgR s (Int.toNat (↑(Prod.snd (Prod.snd (lgR s (Int.toNat i)))) : Int))) < (0 : Int)) = false → ((-9223372036854775808 : Int) ≤ (9223372036854775807 : Int) - (↑(Prod.snd (Prod.snd (lgR s (Int.toNat (↑(Prod.snd (Prod.snd (lgR s (Int.toNat i)))) : Int))))) : Int) ∧ (9223372036854775807 : Int) - (↑(Prod.snd (Prod.snd (lgR s (Int.toNat (↑(Prod.snd (Prod.snd (lgR s (Int.toNat i)))) : Int))))) : Int) ≤ (9223372036854775807 : Int)) ∧ (decide ((9223372036854775807 : Int) - (↑(Prod.snd (Prod.snd (lgR s (Int.toNat (↑(Prod.snd (Prod.snd (lgR s (Int.toNat i)))) : Int))))) : Int) < Prod.fst (lgR s (Int.toNat (↑(Prod.snd (Prod.snd (lgR s (Int.toNat i)))) : Int)))) = true → ((-9223372036854775808 : Int) ≤ (9223372036854775807 : Int) - (↑(Prod.snd (Prod.snd (lgR s (Int.toNat (↑(Prod.snd (Prod.snd (lgR s (Int.toNat i)))) : Int))))) : Int) ∧ (9223372036854775807 : Int) - (↑(Prod.snd (Prod.snd (lgR s (Int.toNat (↑(Prod.snd (Prod.snd (lgR s (Int.toNat i)))) : Int))))) : Int) ≤ (9223372036854775807 : Int)) ∧ ((-9223372036854775808 : Int) ≤ (0 : Int) - Prod.fst (lgR s (Int.toNat i)) ∧ (0 : Int) - Prod.fst (lgR s (Int.toNat i)) ≤ (9223372036854775807 : Int)) ∧ ((-9223372036854775808 : Int) ≤ (↑(Prod.snd (Prod.snd (lgR s (Int.toNat (↑(Prod.snd (Prod.snd (lgR s (Int.toNat i)))) : Int))))) : Int) + ((9223372036854775807 : Int) - (↑(Prod.snd (Prod.snd (lgR s (Int.toNat (↑(Prod.snd (Prod.snd (lgR s (Int.toNat i)))) : Int))))) : Int)) ∧ (↑(Prod.snd (Prod.snd (lgR s (Int.toNat (↑(Prod.snd (Prod.snd (lgR s (Int.toNat i)))) : Int))))) : Int) + ((9223372036854775807 : Int) - (↑(Prod.snd (Prod.snd (lgR s (Int.toNat (↑(Prod.snd (Prod.snd (lgR s (Int.toNat i)))) : Int))))) : Int)) ≤ (9223372036854775807 : Int)) ∧ Prod.fst (hdR s (Int.toNat i)) = (0 : Int) - Prod.fst (lgR s (Int.toNat i)) ∧ Prod.fst (Prod.snd (hdR s (Int.toNat i))) = (↑(Prod.snd (Prod.snd (lgR s (Int.toNat (↑(Prod.snd (Prod.snd (lgR s (Int.toNat i)))) : Int))))) : Int) + ((9223372036854775807 : Int) - (↑(Prod.snd (Prod.snd (lgR s (Int.toNat (↑(Prod.snd (Prod.snd (lgR s (Int.toNat i)))) : Int))))) : Int)) ∧ Prod.fst (Prod.snd (Prod.snd (hdR s (Int.toNat i)))) = (0 : Int) ∧ Prod.fst x = Prod.fst x ∧ Prod.fst (Prod.snd x) = Prod.fst (Prod.snd x) ∧ Prod.snd (Prod.snd x) = Prod.snd (Prod.snd x) ∧ s = s ∧ (↑(Prod.snd (Prod.snd (Prod.snd (hdR s (Int.toNat i))))) : Int) = (↑(Prod.snd (Prod.snd (lgR s (Int.toNat (↑(Prod.snd (Prod.snd (lgR s (Int.toNat i)))) : Int))))) : Int) ∧ c = c ∧ True) ∧ (decide ((9223372036854775807 : Int) - (↑(Prod.snd (Prod.snd (lgR s (Int.toNat (↑(Prod.snd (Prod.snd (lgR s (Int.toNat i)))) : Int))))) : Int) < Prod.fst (lgR s (Int.toNat (↑(Prod.snd (Prod.snd (lgR s (Int.toNat i)))) : Int)))) = false → ((-9223372036854775808 : Int) ≤ (0 : Int) - Prod.fst (lgR s (Int.toNat i)) ∧ (0 : Int) - Prod.fst (lgR s (Int.toNat i)) ≤ (9223372036854775807 : Int)) ∧ ((-9223372036854775808 : Int) ≤ (↑(Prod.snd (Prod.snd (lgR s (Int.toNat (↑(Prod.snd (Prod.snd (lgR s (Int.toNat i)))) : Int))))) : Int) + Prod.fst (lgR s (Int.toNat (↑(Prod.snd (Prod.snd (lgR s (Int.toNat i)))) : Int))) ∧ (↑(Prod.snd (Prod.snd (lgR s (Int.toNat (↑(Prod.snd (Prod.snd (lgR s (Int.toNat i)))) : Int))))) : Int) + Prod.fst (lgR s (Int.toNat (↑(Prod.snd (Prod.snd (lgR s (Int.toNat i)))) : Int))) ≤ (9223372036854775807 : Int)) ∧ Prod.fst (hdR s (Int.toNat i)) = (0 : Int) - Prod.fst (lgR s (Int.toNat i)) ∧ Prod.fst (Prod.snd (hdR s (Int.toNat i))) = (↑(Prod.snd (Prod.snd (lgR s (Int.toNat (↑(Prod.snd (Prod.snd (lgR s (Int.toNat i)))) : Int))))) : Int) + Prod.fst (lgR s (Int.toNat (↑(Prod.snd (Prod.snd (lgR s (Int.toNat i)))) : Int))) ∧ Prod.fst (Prod.snd (Prod.snd (hdR s (Int.toNat i)))) = (0 : Int) ∧ Prod.fst x = Prod.fst x ∧ Prod.fst (Prod.snd x) = Prod.fst (Prod.snd x) ∧ Prod.snd (Prod.snd x) = Prod.snd (Prod.snd x) ∧ s = s ∧ (↑(Prod.snd (Prod.snd (Prod.snd (hdR s (Int.toNat i))))) : Int) = (↑(Prod.snd (Prod.snd (lgR s (Int.toNat (↑(Prod.snd (Prod.snd (lgR s (Int.toNat i)))) : Int))))) : Int) ∧ c = c ∧ True))))))) := by kernel_rfl
theorem choice_eq (o : Int) (x : SV) (s : ByteArray) (i c : Int) : askF P (ctTab [(53, cLong)]) Go.Proofs.Try.f51 cChoice (fun _ => {}) ⟨o, x, s, i, c⟩ = (dcPre (x, s, i, c) → Prod.fst x = Prod.fst x ∧ Prod.fst (Prod.snd x) = Prod.fst (Prod.snd x) ∧ Prod.snd (Prod.snd x) = Prod.snd (Prod.snd x) ∧ s = s ∧ i = i ∧ c = c ∧ dcPre ((Prod.fst x, Prod.fst (Prod.snd x), Prod.snd (Prod.snd x)), s, i, c) ∧ (decide ((↑(Prod.fst (Prod.snd (lgR s (Int.toNat i)))) : Int) = (0 : Int)) = true → (decide (Prod.fst (lgR s (Int.toNat i)) < (0 : Int)) = true → Prod.fst (lgR s (Int.toNat i)) = Prod.fst (lgR s (Int.toNat i)) ∧ (↑(chE s (Int.toNat i) o) : Int) = (2 : Int) ∧ Prod.fst x = Prod.fst x ∧ Prod.fst (Prod.snd x) = Prod.fst (Prod.snd x) ∧ Prod.snd (Prod.snd x) = Prod.snd (Prod.snd x) ∧ s = s ∧ (↑(Prod.snd (Prod.snd (lgR s (Int.toNat i)))) : Int) = (↑(Prod.snd (Prod.snd (lgR s (Int.toNat i)))) : Int) ∧ c = c ∧ True) ∧ (decide (Prod.fst (lgR s (Int.toNat i)) < (0 : Int)) = false → (decide (o ≤ Prod.fst (lgR s (Int.toNat i))) = true → Prod.fst (lgR s (Int.toNat i)) = Prod.fst (lgR s (Int.toNat i)) ∧ (↑(chE s (Int.toNat i) o) : Int) = (2 : Int) ∧ Prod.fst x = Prod.fst x ∧ Prod.fst (Prod.snd x) = Prod.fst (Prod.snd x) ∧ Prod.snd (Prod.snd x) = Prod.snd (Prod.snd x) ∧ s = s ∧ (↑(Prod.snd (Prod.snd (lgR s (Int.toNat i)))) : Int) = (↑(Prod.snd (Prod.snd (lgR s (Int.toNat i)))) : Int) ∧ c = c ∧ True) ∧ (decide (o ≤ Prod.fst (lgR s (Int.toNat i))) = false → Prod.fst (lgR s (Int.toNat i)) = Prod.fst (lgR s (Int.toNat i)) ∧ (↑(chE s (Int.toNat i) o) : Int) = (↑(Prod.fst (Prod.snd (lgR s (Int.toNat i)))) : Int) ∧ Prod.fst x = Prod.fst x ∧ Prod.fst (Prod.snd x) = Prod.fst (Prod.snd x) ∧ Prod.snd (Prod.snd x) = Prod.snd (Prod.snd x) ∧ s = s ∧ (↑(Prod.snd (Prod.snd (lgR s (Int.toNat i)))) : Int) = (↑(Prod.snd (Prod.snd (lgR s (Int.toNat i)))) : Int) ∧ c = c ∧ True))) ∧ (decide ((↑(Prod.fst (Prod.snd (lgR s (Int.toNat i)))) : Int) = (0 : Int)) = false → Prod.fst (lgR s (Int.toNat i)) = Prod.fst (lgR s (Int.toNat i)) ∧ (↑(chE s (Int.toNat i) o) : Int) = (↑(Prod.fst (Prod.snd (lgR s (Int.toNat i)))) : Int) ∧ Prod.fst x = Prod.fst x ∧ Prod.fst (Prod.snd x) = Prod.fst (Prod.snd x) ∧ Prod.snd (Prod.snd x) = Prod.snd (Prod.snd x) ∧ s = s ∧ (↑(Prod.snd (Prod.snd (lgR s (Int.toNat i)))) : Int) = (↑(Prod.snd (Prod.snd (lgR s (Int.toNat i)))) : Int) ∧ c = c ∧ True)) := by kernel_rfl
open Go.Proofs.Ytcmgjpafiobkpaa.Rv
theorem wrap_u64 (n : Int) : IntKind.wrap .u64 n = n % 18446744073709551616 := by
  simp [IntKind.wrap, IntKind.bits, IntKind.signed]
theorem ofInt_nat (r : Nat) (h : r < 18446744073709551616) : (BitVec.ofInt 64 (r : Int)).toNat = r := by
  rw [BitVec.toNat_ofInt]
  simp
  omega
theorem and_one (r : Nat) (h : r < 18446744073709551616) : bitsP .and .u64 (r : Int) 1 = ((r % 2 : Nat) : Int) := by
  show IntKind.wrap .u64 (BitVec.ofInt 64 (r : Int) &&& BitVec.ofInt 64 1).toNat = _
  rw [BitVec.toNat_and, ofInt_nat r h, show (BitVec.ofInt 64 1).toNat = 1 from rfl, Nat.and_one_is_mod, wrap_u64]
  omega
theorem shr_one (r : Nat) : shP .shr .u64 (r : Int) 1 = ((r / 2 : Nat) : Int) := by
  show Int.fdiv (r : Int) (2 ^ min (1 : Int).toNat 64) = _
  rw [show (2 : Int) ^ min (1 : Int).toNat 64 = 2 from rfl, Int.fdiv_eq_ediv_of_nonneg _ (by omega)]
  omega
theorem unzig_bits (r : Nat) (h : r < 18446744073709551616) : bitsP .xor .u64 (shP .shr .u64 (r : Int) 1) (IntKind.wrap .u64 (0 - bitsP .and .u64 (r : Int) 1)) = unz r % 18446744073709551616 := by
  rw [and_one r h, shr_one, wrap_u64]
  unfold unz
  have h2 : r / 2 < 18446744073709551616 := by omega
  by_cases e : r % 2 = 0
  · rw [if_pos e, e]
    show IntKind.wrap .u64 (BitVec.ofInt 64 ((r / 2 : Nat) : Int) ^^^ BitVec.ofInt 64 ((0 - (0 : Int)) % 18446744073709551616)).toNat = _
    rw [show BitVec.ofInt 64 ((0 - (0 : Int)) % 18446744073709551616) = 0#64 from rfl, BitVec.xor_zero, ofInt_nat _ h2, wrap_u64]
  · have e1 : r % 2 = 1 := by omega
    rw [if_neg e, e1]
    show IntKind.wrap .u64 (BitVec.ofInt 64 ((r / 2 : Nat) : Int) ^^^ BitVec.ofInt 64 ((0 - (1 : Int)) % 18446744073709551616)).toNat = _
    rw [show BitVec.ofInt 64 ((0 - (1 : Int)) % 18446744073709551616) = BitVec.allOnes 64 from rfl, BitVec.xor_allOnes, BitVec.toNat_not, ofInt_nat _ h2, wrap_u64]
    omega
theorem not_bits (r : Nat) (h : r < 18446744073709551616) : bitsP .xor .u64 (IntKind.max .u64) (r : Int) = ((18446744073709551615 - r : Nat) : Int) := by
  show IntKind.wrap .u64 (BitVec.ofInt 64 (IntKind.max .u64) ^^^ BitVec.ofInt 64 (r : Int)).toNat = _
  rw [show BitVec.ofInt 64 (IntKind.max .u64) = BitVec.allOnes 64 from rfl, BitVec.allOnes_xor, BitVec.toNat_not, ofInt_nat _ h, wrap_u64]
  omega
theorem wrap_i64u (m : Int) (h1 : -9223372036854775808 ≤ m) (h2 : m < 9223372036854775808) : IntKind.wrap .i64 (m % 18446744073709551616) = m := by
  simp [IntKind.wrap, IntKind.bits, IntKind.signed]
  omega

theorem vdec_facts : ∀ (l : List UInt8) (i acc v n : Nat), i ≤ 10 → acc < 2 ^ (7 * i) → vdec l i acc = some (v, n) → v < 18446744073709551616 ∧ i < n ∧ n ≤ i + l.length
  | [], i, acc, v, n, _, _, h => by simp [vdec] at h
  | c :: r, i, acc, v, n, hi, ha, h => by
    rw [vdec] at h
    split at h
    · cases h
    rename_i h10
    split at h
    · cases h
    rename_i h9
    have hg := group_lt (k := i) (g := c.toNat % 128) (by omega) (Nat.mod_lt _ (by decide)) h9
    split at h
    · cases h
      exact ⟨by omega, by omega, by simp⟩
    · have p := pow7 i
      have hm : c.toNat % 128 < 128 := Nat.mod_lt _ (by decide)
      have hq : c.toNat % 128 * 2 ^ (7 * i) ≤ 127 * 2 ^ (7 * i) := Nat.mul_le_mul_right _ (by omega)
      obtain ⟨h1, h2, h3⟩ := vdec_facts r (i + 1) _ v n (by omega) (by rw [p]; omega) h
      exact ⟨h1, by omega, by simp; omega⟩
theorem vr_facts (l : List UInt8) : vval l < 18446744073709551616 ∧ vlen l ≤ l.length ∧ verr l ≤ 2 ∧ (verr l = 0 → 1 ≤ vlen l) := by
  unfold vval vlen verr
  cases h : vdec l 0 0 with
  | none => simp
  | some p =>
    obtain ⟨v, n⟩ := p
    obtain ⟨h1, h2, h3⟩ := vdec_facts l 0 0 v n (by omega) (by decide) h
    simp; omega
theorem unz_lt (r : Nat) (h : r < 18446744073709551616) : -9223372036854775808 ≤ unz r ∧ unz r < 9223372036854775808 := by
  unfold unz; split <;> omega
theorem ext_drop (s : ByteArray) (i : Nat) : (s.extract i s.size).data.toList = s.data.toList.drop i := by
  rw [ByteArray.data_extract, Array.toList_extract]
  show List.take _ _ = _
  rw [List.take_of_length_le]
  rw [List.length_drop]; exact Nat.le_refl _
theorem lg_facts (s : ByteArray) (i : Nat) (hi : i ≤ s.size) : -9223372036854775808 ≤ (lgR s i).1 ∧ (lgR s i).1 < 9223372036854775808 ∧ (lgR s i).2.1 ≤ 2 ∧ i ≤ (lgR s i).2.2 ∧ (lgR s i).2.2 ≤ s.size ∧ ((lgR s i).2.1 = 0 → i < (lgR s i).2.2) := by
  obtain ⟨h1, h2, h3, h4⟩ := vr_facts (s.data.toList.drop i)
  have hl : (s.data.toList.drop i).length = s.size - i := by rw [List.length_drop]; rfl
  have := unz_lt _ h1
  unfold lgR
  exact ⟨this.1, this.2, h3, by show i ≤ i + _; omega, by show i + _ ≤ s.size; omega, fun h => by have := h4 h; show i < i + _; omega⟩
theorem varint_ok : CtOK P 69 cVarint :=
  pure_ct (Sen.enters_of Go.Proofs.Try.func69 (by kernel_rfl)) (by decide) (by decide) (fun s => [.string s]) (fun s => .tuple #[.int .u64 (vval s.data.toList : Nat), .int .i64 (vlen s.data.toList : Nat), .int .i64 (verr s.data.toList : Nat)]) (fun s => rfl) (fun s => rfl) (fun s => rfl) (fun s => rfl)
    (fun s I => .tup (.cons (.sv _) (.cons (.sv _) (.cons (.sv _) .nil))))
    fun s w h => (varint_any s w (by have : s.size < 1000000 := h; unfold maxLen; omega)).mono fun e w' he => by
      obtain ⟨rfl, rfl⟩ := he
      exact ⟨rfl, .refl _ _⟩
theorem putV_ok : CtOK P 14 cPutV :=
  pure_ct (Sen.enters_of Go.Proofs.Try.func14 (by kernel_rfl)) (by decide) (by decide) (fun (z : Nat) => [.int .u64 (z : Int)]) (fun (z : Nat) => .string ⟨(venc z).toArray⟩) (fun s => rfl) (fun s => rfl) (fun s => rfl) (fun s => rfl)
    (fun s I => .sv _) fun (z : Nat) w h => rput_any z w h
theorem unzig_ok : CtOK P 82 cUnzig := by
  refine ask_ok mixed no_tab (W := fun _ => {}) Go.Proofs.Try.func82 (by kernel_rfl) (by decide) (by decide) (fun s => by kernel_rfl) fun (r : Nat) => (unzig_eq r).mpr ?_
  intro h
  exact ⟨by decide, (unzig_bits r h).symm, trivial⟩
theorem from8_ok : CtOK P 70 cFrom8 := by
  refine ask_ok mixed (ctTab_ok (forall_tab unzig_ok nil_tab)) (W := fun _ => {}) Go.Proofs.Try.func70 (by kernel_rfl) (by decide) (by decide) (fun s => by kernel_rfl) fun (r : Nat) => (from8_eq r).mpr ?_
  exact fun h => ⟨r, rfl, h, rfl, trivial⟩
theorem zig_ok : CtOK P 25 cZig := by
  refine ask_ok mixed no_tab (W := fun _ => {}) Go.Proofs.Try.func25 (by kernel_rfl) (by decide) (by decide) (fun s => by kernel_rfl) fun (n : Int) => (zig_eq n).mpr ?_
  rintro ⟨h1, h2⟩
  simp only [decide_eq_true_eq, decide_eq_false_iff_not, and_true]
  obtain ⟨r, hr⟩ := Int.eq_ofNat_of_zero_le (show 0 ≤ n % 18446744073709551616 by omega)
  refine ⟨fun h => ?_, fun h => ?_⟩
  · rw [hr, not_bits r (by omega), wrap_u64, wrap_u64]
    unfold zg
    rw [if_neg (by omega)]
    omega
  · rw [wrap_u64]
    unfold zg
    rw [if_pos (by omega)]
    omega
theorem to8_ok : CtOK P 15 cTo8 := by
  refine ask_ok mixed (ctTab_ok (forall_tab zig_ok nil_tab)) (W := fun _ => {}) Go.Proofs.Try.func15 (by kernel_rfl) (by decide) (by decide) (fun s => by kernel_rfl) fun (n : Int) => (to8_eq n).mpr ?_
  exact fun h => ⟨n, rfl, h, rfl, trivial⟩
theorem zg_lt {n : Int} (h1 : -9223372036854775808 ≤ n) (h2 : n < 9223372036854775808) : zg n < 18446744073709551616 := by
  unfold zg; split <;> omega
theorem unz_zg {n : Int} : unz (zg n) = n := by
  unfold zg
  split
  · unfold unz; rw [if_pos (by omega)]; omega
  · unfold unz; rw [if_neg (by omega)]; omega
theorem longS_ok : CtOK P 7 cLongS := by
  refine ask_ok mixed (ctTab_ok (forall_tab to8_ok (forall_tab putV_ok nil_tab))) (W := fun _ => {}) Go.Proofs.Try.func7 (by kernel_rfl) (by decide) (by decide) (fun s => by kernel_rfl) fun (n : Int) => (longS_eq n).mpr ?_
  rintro ⟨h1, h2⟩
  exact ⟨n, (wrap_u64 n).symm, ⟨h1, h2⟩, zg n, rfl, zg_lt h1 h2, rfl, trivial⟩
theorem long_ok : CtOK P 53 cLong := by
  refine ask_ok mixed (ctTab_ok (forall_tab varint_ok (forall_tab from8_ok nil_tab))) (W := fun _ => {}) Go.Proofs.Try.func53 (by kernel_rfl) (by decide) (by decide) (fun s => by kernel_rfl) fun ⟨(x : SV), s, (i : Int), (c : Int)⟩ => (long_eq x s i c).mpr ?_
  rintro ⟨h1, h2, h3⟩
  simp only [ext_drop, true_and, and_true, eq_self]
  obtain ⟨f1, f2, f3, f4⟩ := vr_facts (s.data.toList.drop i.toNat)
  have hl : (s.data.toList.drop i.toNat).length = s.size - i.toNat := by rw [List.length_drop]; rfl
  have hu := unz_lt _ f1
  have he : (s.extract i.toNat s.size).size = s.size - i.toNat := by rw [ByteArray.size_extract]; omega
  refine ⟨⟨h1, h2⟩, by omega, by omega, vval (s.data.toList.drop i.toNat), rfl, f1, (wrap_i64u _ hu.1 hu.2).symm, rfl, ?_⟩
  show (((i.toNat + vlen (s.data.toList.drop i.toNat) : Nat)) : Int) = _
  omega
theorem choice_ok : CtOK P 51 cChoice := by
  refine ask_ok mixed (ctTab_ok (forall_tab long_ok nil_tab)) (W := fun _ => {}) Go.Proofs.Try.func51 (by kernel_rfl) (by decide) (by decide) (fun s => by kernel_rfl) fun ⟨(o : Int), (x : SV), s, (i : Int), (c : Int)⟩ => (choice_eq o x s i c).mpr ?_
  intro h
  simp only [decide_eq_true_eq, decide_eq_false_iff_not, true_and, and_true, eq_self]
  unfold chE
  refine ⟨h, fun h0 => ⟨fun h1 => ?_, fun h1 => ⟨fun h2 => ?_, fun h2 => ?_⟩⟩, fun h0 => ?_⟩
  · rw [if_pos ⟨by omega, .inl h1⟩]; rfl
  · rw [if_pos ⟨by omega, .inr h2⟩]; rfl
  · rw [if_neg (by omega)]
  · rw [if_neg (by omega)]
theorem head_ok : CtOK P 48 cHead := by
  refine ask_ok mixed (ctTab_ok (forall_tab long_ok nil_tab)) (W := fun _ => {}) Go.Proofs.Try.func48 (by kernel_rfl) (by decide) (by decide) (fun s => by kernel_rfl) fun ⟨(x : SV), s, (i : Int), (c : Int)⟩ => (head_eq x s i c).mpr ?_
  rintro ⟨h1, h2, h3⟩
  obtain ⟨i, rfl⟩ := Int.eq_ofNat_of_zero_le h1
  simp only [decide_eq_true_eq, decide_eq_false_iff_not, Bool.not_eq_true', Bool.not_eq_false', true_and, and_true, eq_self, Int.toNat_natCast]
  obtain ⟨a1, a2, a3, a4, a5, a6⟩ := lg_facts s i (by omega)
  obtain ⟨b1, b2, b3, b4, b5, b6⟩ := lg_facts s (lgR s i).2.2 a5
  refine ⟨⟨h1, h2, h3⟩, fun g0 => ?_, fun g0 => ⟨fun g1 => ?_, fun g1 => ⟨fun g2 => ?_, fun g2 => ⟨⟨by show (0 : Int) ≤ _; omega, by show (((lgR s i).2.2 : Nat) : Int) ≤ _; omega, h3⟩, ?_⟩⟩⟩⟩
  · unfold hdR; rw [if_pos (.inl (by omega))]; exact ⟨rfl, rfl, rfl, rfl⟩
  · unfold hdR; rw [if_pos (.inr g1)]; exact ⟨rfl, rfl, rfl, rfl⟩
  · unfold hdR; rw [if_neg (by omega), if_pos g2]; exact ⟨rfl, rfl, rfl, rfl⟩
  unfold hdR
  rw [if_neg (show ¬ ((lgR s i).2.1 ≠ 0 ∨ 0 ≤ (lgR s i).1) by omega), if_neg g2]
  clear g0 a3 a6
  generalize lgR s (lgR s i).2.2 = B at *
  obtain ⟨n2, e2, j2⟩ := B
  simp only at b1 b2 b3 b4 b5 b6 ⊢
  refine ⟨fun g3 => ?_, fun g3 => ?_⟩
  · rw [if_pos (by omega)]; exact ⟨rfl, rfl, rfl, rfl⟩
  · rw [if_neg (show ¬ e2 ≠ 0 by omega)]
    refine ⟨fun g4 => by rw [if_pos g4]; exact ⟨rfl, rfl, rfl, rfl⟩, fun g4 => ⟨by omega, fun g5 => ⟨by omega, by omega, by omega, ?_⟩, fun g5 => ⟨by omega, by omega, ?_⟩⟩⟩
    · rw [if_neg g4, if_pos g5]; exact ⟨by show -(_ : Int) = _; omega, rfl, rfl, rfl⟩
    · rw [if_neg g4, if_neg g5]; exact ⟨by show -(_ : Int) = _; omega, rfl, rfl, rfl⟩
/-! The schema that the law makes: an array of nulls, a null, a record of one field, a union of two. -/
noncomputable abbrev Env := Option Addr × Option Addr × Option Addr
noncomputable def fld3 : List Value := [.string (mkS [97]), nilV, .int .i64 3, .bool false, .int .i64 0, .int .i64 0, .string (mkS []), nilV, nilV]
noncomputable def dT (k it : Int) (nm : ByteArray) (f br : SV) : List Value := [.int .i64 k, .string nm, nilV, .int .i64 it, nilV, .bool false, .string (mkS []), .int .i64 0, .slice f.1 f.2.1 f.2.2, .slice br.1 br.2.1 br.2.2]
noncomputable def dA (k it : Int) (nm : List Nat) (f br : SV) : AV := .agg [.int .i64 k, .sv (.string (mkS nm)), .sv nilV, .sv (.int .i64 it), .sv nilV, .sv (.bool false), .sv (.string (mkS [])), .sv (.int .i64 0), .sv (.slice f.1 f.2.1 f.2.2), .sv (.slice br.1 br.2.1 br.2.2)]
noncomputable def typ (E : Env) : List (List Value) := [dT 12 1 (mkS []) (none, 0, 0) (none, 0, 0), dT 1 0 (mkS []) (none, 0, 0) (none, 0, 0), dT 9 0 (mkS [82]) (E.2.1, 1, 1) (none, 0, 0), dT 14 0 (mkS []) (none, 0, 0) (E.2.2, 2, 2)]
noncomputable def xE (E : Env) : SV := (E.1, 4, 4)
noncomputable def enP (E : Env) (p : Pub) : Prop := sliP p E.1 4 4 (rowsV id (typ E)) ∧ sliP p E.2.1 1 1 fld3 ∧ sliP p E.2.2 2 2 [.int .i64 1, .int .i64 2]
noncomputable def enM (E : Env) : PF := ⟨true, enP E, fun p q h g => ⟨sliP_mono h g.1, sliP_mono h g.2.1, sliP_mono h g.2.2⟩⟩
noncomputable def zeroA : AV := .agg [.int .u64 0, .str [], .nsl, .nsl, .int .i64 0]
noncomputable def zeroV : List Value := [.int .u64 0, .string (mkS []), nilV, nilV, .int .i64 0]
noncomputable def avB (l : AV) (b : Int) : AV := .agg [.int .u64 0, .str [], l, .nsl, .sv (.int .i64 b)]
noncomputable def avC (l : AV) : AV := .agg [.int .u64 0, .str [], l, .nsl, .int .i64 0]
noncomputable abbrev EdS := Env × ByteArray × Int × Int
noncomputable def cPlainN : Ct where
  σ := EdS
  args := fun ⟨E, s, i, c⟩ => [.ptr 1 0, dA 1 0 [] (none, 0, 0) (none, 0, 0)]
  h := fun ⟨E, s, i, c⟩ => dcd (xE E) s i c
  m := 2
  r := fun ⟨E, s, i, c⟩ => .tup [zeroA, .int .i64 0]
  h' := fun ⟨E, s, i, c⟩ => dcd (xE E) s i c
  m' := 2
  g := fun _ => none
noncomputable def vnE (d c : Int) : Int := if 20 < d ∨ 2000 < c + 1 then 3 else 0
noncomputable def cValN : Ct where
  σ := EdS × Int
  args := fun ⟨⟨E, s, i, c⟩, d⟩ => [.ptr 1 0, .int .i64 1, .sv (.int .i64 d)]
  h := fun ⟨⟨E, s, i, c⟩, d⟩ => dcd (xE E) s i c
  m := 2
  pre := fun ⟨⟨E, s, i, c⟩, d⟩ => 0 ≤ c ∧ c < 1000000
  mem := fun ⟨⟨E, s, i, c⟩, d⟩ => enM E
  r := fun ⟨⟨E, s, i, c⟩, d⟩ => .tup [zeroA, .sv (.int .i64 (vnE d c))]
  h' := fun ⟨⟨E, s, i, c⟩, d⟩ => dcd (xE E) s i (c + 1)
  m' := 2
  g := fun _ => none
/-- What is read of an array: how many, their values. -/
noncomputable abbrev ItS := List Value × Nat
noncomputable def cItem : Ct where
  σ := EdS × Int × ItS
  args := fun ⟨⟨E, s, i, c⟩, d, vs, n⟩ => [.ptr 1 0, dA 12 1 [] (none, 0, 0) (none, 0, 0), .ptr 2 0, .sv (.int .i64 d)]
  h := fun ⟨⟨E, s, i, c⟩, d, vs, n⟩ => dcd (xE E) s i c ++ [(2, .cells 101 (some 0) false [.ssl 3 0 n 5 4, .nsl, .map 5]), (3, .row 41 0 vs), (5, .map [] 0)]
  m := 6
  pre := fun ⟨⟨E, s, i, c⟩, d, vs, n⟩ => 0 ≤ c ∧ c < 1000000 ∧ 1 ≤ d ∧ d < 1000 ∧ vs.length = n * 5 ∧ n < 1000000
  mem := fun ⟨⟨E, s, i, c⟩, d, vs, n⟩ => enM E
  r := fun ⟨⟨E, s, i, c⟩, d, vs, n⟩ => .sv (.int .i64 (vnE (d + 1) c))
  h' := fun ⟨⟨E, s, i, c⟩, d, vs, n⟩ => dcd (xE E) s i (c + 1) ++ [(2, .cells 101 (some 0) false [.ssl 6 0 (if vnE (d + 1) c = 0 then n + 1 else n) 5 7, .nsl, .map 5]), (6, .row 41 0 (if vnE (d + 1) c = 0 then vs ++ zeroV else vs)), (5, .map [] 0)]
  m' := 8
  g := fun _ => none
noncomputable def lnM (n : Nat) : List SV → PF
  | [x] => ⟨true, fun _ => Pl x.1 ∧ x.2.1 = n, fun _ _ _ h => h⟩
  | _ => {}
noncomputable def gLen (k n : Nat) : GS := some { β := Unit, ks := [k], pre := fun _ => True, mem := fun _ xs => lnM n xs }
noncomputable def cItemsV : Ct where
  σ := ItS
  args := fun ⟨vs, n⟩ => [.ptr 1 0]
  h := fun ⟨vs, n⟩ => [(1, .cells 101 (some 0) false [.ssl 2 0 n 5 3, .nsl, .map 4]), (2, .row 41 0 vs), (4, .map [] 0)]
  m := 5
  pre := fun ⟨vs, n⟩ => vs.length = n * 5
  r := fun ⟨vs, n⟩ => avC (.tsl 5)
  h' := fun ⟨vs, n⟩ => []
  m' := 6
  g := fun ⟨vs, n⟩ => gLen 5 n
noncomputable def wItemsV : cItemsV.σ → WayF := fun _ => { pubE := [16] }
theorem plainN_eq (E : Env) (s : ByteArray) (i c : Int) : askF P (fun _ => none) Go.Proofs.Try.f29 cPlainN (fun _ => {}) ⟨E, s, i, c⟩ = (True → Prod.fst (xE E) = Prod.fst (xE E) ∧ Prod.fst (Prod.snd (xE E)) = Prod.fst (Prod.snd (xE E)) ∧ Prod.snd (Prod.snd (xE E)) = Prod.snd (Prod.snd (xE E)) ∧ s = s ∧ i = i ∧ c = c ∧ True) := by kernel_rfl
theorem valN_eq (E : Env) (s : ByteArray) (i c d : Int) : askF P (ctTab [(29, cPlainN)]) Go.Proofs.Try.f16 cValN (fun _ => {}) ⟨⟨E, s, i, c⟩, d⟩ = ((0 : Int) ≤ c ∧ c < (1000000 : Int) → (∃ (p : Nat → Option Obj), True ∧ enP E p) → (decide ((↑(Prod.fst (Prod.snd (xE E))) : Int) ≤ (1 : Int)) = true → vnE d c = (1 : Int) ∧ Prod.fst (xE E) = Prod.fst (xE E) ∧ Prod.fst (Prod.snd (xE E)) = Prod.fst (Prod.snd (xE E)) ∧ Prod.snd (Prod.snd (xE E)) = Prod.snd (Prod.snd (xE E)) ∧ s = s ∧ i = i ∧ c + (1 : Int) = c ∧ True) ∧ (decide ((↑(Prod.fst (Prod.snd (xE E))) : Int) ≤ (1 : Int)) = false → ((-9223372036854775808 : Int) ≤ c + (1 : Int) ∧ c + (1 : Int) ≤ (9223372036854775807 : Int)) ∧ (decide ((20 : Int) < d) = true → vnE d c = (3 : Int) ∧ Prod.fst (xE E) = Prod.fst (xE E) ∧ Prod.fst (Prod.snd (xE E)) = Prod.fst (Prod.snd (xE E)) ∧ Prod.snd (Prod.snd (xE E)) = Prod.snd (Prod.snd (xE E)) ∧ s = s ∧ i = i ∧ c + (1 : Int) = c + (1 : Int) ∧ True) ∧ (decide ((20 : Int) < d) = false → (decide ((2000 : Int) < c + (1 : Int)) = true → vnE d c = (3 : Int) ∧ Prod.fst (xE E) = Prod.fst (xE E) ∧ Prod.fst (Prod.snd (xE E)) = Prod.fst (Prod.snd (xE E)) ∧ Prod.snd (Prod.snd (xE E)) = Prod.snd (Prod.snd (xE E)) ∧ s = s ∧ i = i ∧ c + (1 : Int) = c + (1 : Int) ∧ True) ∧ (decide ((2000 : Int) < c + (1 : Int)) = false → ((0 : Int) ≤ (1 : Int) ∧ (1 : Int) < (↑(Prod.fst (Prod.snd (xE E))) : Int)) ∧ Prod.fst (xE E) ≠ noA ∧ ∃ (n : Int), ∃ (s_1 : ByteArray), ∃ (p : Option Addr), ∃ (n_1 : Nat), ∃ (c_1 : Nat), ∃ (n_2 : Int), ∃ (p_1 : Option Addr), ∃ (n_3 : Nat), ∃ (c_2 : Nat), ∃ (b : Bool), ∃ (s_2 : ByteArray), ∃ (n_4 : Int), ∃ (p_2 : Option Addr), ∃ (n_5 : Nat), ∃ (c_3 : Nat), ∃ (p_3 : Option Addr), ∃ (n_6 : Nat), ∃ (c_4 : Nat), (∀ (p_4 : Nat → Option Obj), True ∧ enP E p_4 → cellsP p_4 (adr (Prod.fst (xE E)) ((1 : Nat) * (10 : Nat))) [Value.int IntKind.i64 n, Value.string s_1, Value.slice p n_1 c_1, Value.int IntKind.i64 n_2, Value.slice p_1 n_3 c_2, Value.bool b, Value.string s_2, Value.int IntKind.i64 n_4, Value.slice p_2 n_5 c_3, Value.slice p_3 n_6 c_4]) ∧ (decide (n = (9 : Int)) = true → False) ∧ (decide (n = (9 : Int)) = false → (decide (n = (12 : Int)) = true → (decide (n = (12 : Int)) = true → False) ∧ (decide (n = (12 : Int)) = false → (decide (n = (14 : Int)) = true → False) ∧ (decide (n = (14 : Int)) = false → ∃ (s_3 : EdS), (1 : Int) = n ∧ mkS [] = s_1 ∧ noA = p ∧ (0 : Nat) = n_1 ∧ (0 : Nat) = c_1 ∧ (0 : Int) = n_2 ∧ noA = p_1 ∧ (0 : Nat) = n_3 ∧ (0 : Nat) = c_2 ∧ false = b ∧ mkS [] = s_2 ∧ (0 : Int) = n_4 ∧ noA = p_2 ∧ (0 : Nat) = n_5 ∧ (0 : Nat) = c_3 ∧ noA = p_3 ∧ (0 : Nat) = n_6 ∧ (0 : Nat) = c_4 ∧ Prod.fst (xE s_3.1) = Prod.fst (xE E) ∧ Prod.fst (Prod.snd (xE s_3.1)) = Prod.fst (Prod.snd (xE E)) ∧ Prod.snd (Prod.snd (xE s_3.1)) = Prod.snd (Prod.snd (xE E)) ∧ s_3.2.1 = s ∧ s_3.2.2.1 = i ∧ s_3.2.2.2 = c + (1 : Int) ∧ True ∧ vnE d c = (0 : Int) ∧ Prod.fst (xE E) = Prod.fst (xE s_3.1) ∧ Prod.fst (Prod.snd (xE E)) = Prod.fst (Prod.snd (xE s_3.1)) ∧ Prod.snd (Prod.snd (xE E)) = Prod.snd (Prod.snd (xE s_3.1)) ∧ s = s_3.2.1 ∧ i = s_3.2.2.1 ∧ c + (1 : Int) = s_3.2.2.2 ∧ True))) ∧ (decide (n = (12 : Int)) = false → (decide (n = (13 : Int)) = true → False) ∧ (decide (n = (13 : Int)) = false → (decide (n = (14 : Int)) = true → False) ∧ (decide (n = (14 : Int)) = false → ∃ (s_3 : EdS), (1 : Int) = n ∧ mkS [] = s_1 ∧ noA = p ∧ (0 : Nat) = n_1 ∧ (0 : Nat) = c_1 ∧ (0 : Int) = n_2 ∧ noA = p_1 ∧ (0 : Nat) = n_3 ∧ (0 : Nat) = c_2 ∧ false = b ∧ mkS [] = s_2 ∧ (0 : Int) = n_4 ∧ noA = p_2 ∧ (0 : Nat) = n_5 ∧ (0 : Nat) = c_3 ∧ noA = p_3 ∧ (0 : Nat) = n_6 ∧ (0 : Nat) = c_4 ∧ Prod.fst (xE s_3.1) = Prod.fst (xE E) ∧ Prod.fst (Prod.snd (xE s_3.1)) = Prod.fst (Prod.snd (xE E)) ∧ Prod.snd (Prod.snd (xE s_3.1)) = Prod.snd (Prod.snd (xE E)) ∧ s_3.2.1 = s ∧ s_3.2.2.1 = i ∧ s_3.2.2.2 = c + (1 : Int) ∧ True ∧ vnE d c = (0 : Int) ∧ Prod.fst (xE E) = Prod.fst (xE s_3.1) ∧ Prod.fst (Prod.snd (xE E)) = Prod.fst (Prod.snd (xE s_3.1)) ∧ Prod.snd (Prod.snd (xE E)) = Prod.snd (Prod.snd (xE s_3.1)) ∧ s = s_3.2.1 ∧ i = s_3.2.2.1 ∧ c + (1 : Int) = s_3.2.2.2 ∧ True)))))))) := by kernel_rfl
theorem item_eq (E : Env) (s : ByteArray) (i c d : Int) (vs : List Value) (n : Nat) : askF P (ctTab [(16, cValN)]) Go.Proofs.Try.f50 cItem (fun _ => {}) ⟨⟨E, s, i, c⟩, d, vs, n⟩ = ((0 : Int) ≤ c ∧ c < (1000000 : Int) ∧ (1 : Int) ≤ d ∧ d < (1000 : Int) ∧ List.length vs = n * (5 : Nat) ∧ n < (1000000 : Nat) → (∃ (p : Nat → Option Obj), True ∧ enP E p) → ((-9223372036854775808 : Int) ≤ d + (1 : Int) ∧ d + (1 : Int) ≤ (9223372036854775807 : Int)) ∧ ∃ (s_1 : EdS × Int), (1 : Int) = (1 : Int) ∧ s_1.2 = d + (1 : Int) ∧ Prod.fst (xE s_1.1.1) = Prod.fst (xE E) ∧ Prod.fst (Prod.snd (xE s_1.1.1)) = Prod.fst (Prod.snd (xE E)) ∧ Prod.snd (Prod.snd (xE s_1.1.1)) = Prod.snd (Prod.snd (xE E)) ∧ s_1.1.2.1 = s ∧ s_1.1.2.2.1 = i ∧ s_1.1.2.2.2 = c ∧ ((0 : Int) ≤ Prod.snd s_1.1.2.2 ∧ Prod.snd s_1.1.2.2 < (1000000 : Int)) ∧ (∀ (p : Nat → Option Obj), True ∧ enP E p → enP s_1.1.1 p) ∧ ((!decide (vnE s_1.2 s_1.1.2.2.2 = (0 : Int))) = true → vnE (d + (1 : Int)) c = vnE s_1.2 s_1.1.2.2.2 ∧ Prod.fst (xE E) = Prod.fst (xE s_1.1.1) ∧ Prod.fst (Prod.snd (xE E)) = Prod.fst (Prod.snd (xE s_1.1.1)) ∧ Prod.snd (Prod.snd (xE E)) = Prod.snd (Prod.snd (xE s_1.1.1)) ∧ s = s_1.1.2.1 ∧ i = s_1.1.2.2.1 ∧ c + (1 : Int) = s_1.1.2.2.2 + (1 : Int) ∧ (if vnE (d + (1 : Int)) c = (0 : Int) then n + (1 : Nat) else n) = n ∧ (if vnE (d + (1 : Int)) c = (0 : Int) then vs ++ zeroV else vs) = vs ∧ True) ∧ ((!decide (vnE s_1.2 s_1.1.2.2.2 = (0 : Int))) = false → List.length vs = n * (5 : Nat) ∧ (n + (1 : Nat)) * (80 : Nat) ≤ (140737488355328 : Nat) ∧ ((0 : Int) ≤ (↑n : Int) ∧ (↑n : Int) < (↑(n + (1 : Nat)) : Int)) ∧ (0 : Nat) + Int.toNat (↑n : Int) * (5 : Nat) + List.length [Value.int IntKind.u64 (0 : Int), Value.string (mkS []), Value.slice noA (0 : Nat) (0 : Nat), Value.slice noA (0 : Nat) (0 : Nat), Value.int IntKind.i64 (0 : Int)] ≤ List.length (vs ++ [Value.int IntKind.u64 (0 : Int), Value.string (mkS []), Value.slice noA (0 : Nat) (0 : Nat), Value.slice noA (0 : Nat) (0 : Nat), Value.int IntKind.i64 (0 : Int)]) ∧ (0 : Nat) + Int.toNat (↑n : Int) * (5 : Nat) + List.length [Value.int IntKind.u64 (0 : Int), Value.string (mkS []), Value.slice noA (0 : Nat) (0 : Nat), Value.slice noA (0 : Nat) (0 : Nat), Value.int IntKind.i64 (0 : Int)] ≤ List.length (vs ++ [Value.int IntKind.u64 (0 : Int), Value.string (mkS []), Value.slice noA (0 : Nat) (0 : Nat), Value.slice noA (0 : Nat) (0 : Nat), Value.int IntKind.i64 (0 : Int)]) ∧ Value.slice (Prod.fst (xE s_1.1.1)) (Prod.fst (Prod.snd (xE s_1.1.1))) (Prod.snd (Prod.snd (xE s_1.1.1))) = Value.slice (Prod.fst (xE s_1.1.1)) (Prod.fst (Prod.snd (xE s_1.1.1))) (Prod.snd (Prod.snd (xE s_1.1.1))) ∧ Value.string s_1.1.2.1 = Value.string s_1.1.2.1 ∧ Value.int IntKind.i64 s_1.1.2.2.1 = Value.int IntKind.i64 s_1.1.2.2.1 ∧ Value.int IntKind.i64 (s_1.1.2.2.2 + (1 : Int)) = Value.int IntKind.i64 (s_1.1.2.2.2 + (1 : Int)) ∧ spl (vs ++ [Value.int IntKind.u64 (0 : Int), Value.string (mkS []), Value.slice noA (0 : Nat) (0 : Nat), Value.slice noA (0 : Nat) (0 : Nat), Value.int IntKind.i64 (0 : Int)]) ((0 : Nat) + Int.toNat (↑n : Int) * (5 : Nat)) [Value.int IntKind.u64 (0 : Int), Value.string (mkS []), Value.slice noA (0 : Nat) (0 : Nat), Value.slice noA (0 : Nat) (0 : Nat), Value.int IntKind.i64 (0 : Int)] = spl (vs ++ [Value.int IntKind.u64 (0 : Int), Value.string (mkS []), Value.slice noA (0 : Nat) (0 : Nat), Value.slice noA (0 : Nat) (0 : Nat), Value.int IntKind.i64 (0 : Int)]) ((0 : Nat) + Int.toNat (↑n : Int) * (5 : Nat)) [Value.int IntKind.u64 (0 : Int), Value.string (mkS []), Value.slice noA (0 : Nat) (0 : Nat), Value.slice noA (0 : Nat) (0 : Nat), Value.int IntKind.i64 (0 : Int)] ∧ n + (1 : Nat) = n + (1 : Nat) ∧ Value.string (mkS []) = Value.string (mkS []) ∧ nilV = nilV ∧ Value.int IntKind.i64 (1 : Int) = Value.int IntKind.i64 (1 : Int) ∧ nilV = nilV ∧ Value.bool false = Value.bool false ∧ Value.string (mkS []) = Value.string (mkS []) ∧ Value.int IntKind.i64 (0 : Int) = Value.int IntKind.i64 (0 : Int) ∧ Value.slice noA (0 : Nat) (0 : Nat) = Value.slice noA (0 : Nat) (0 : Nat) ∧ Value.slice noA (0 : Nat) (0 : Nat) = Value.slice noA (0 : Nat) (0 : Nat) ∧ vnE (d + (1 : Int)) c = (0 : Int) ∧ Prod.fst (xE E) = Prod.fst (xE s_1.1.1) ∧ Prod.fst (Prod.snd (xE E)) = Prod.fst (Prod.snd (xE s_1.1.1)) ∧ Prod.snd (Prod.snd (xE E)) = Prod.snd (Prod.snd (xE s_1.1.1)) ∧ s = s_1.1.2.1 ∧ i = s_1.1.2.2.1 ∧ c + (1 : Int) = s_1.1.2.2.2 + (1 : Int) ∧ (if vnE (d + (1 : Int)) c = (0 : Int) then n + (1 : Nat) else n) = n + (1 : Nat) ∧ (if vnE (d + (1 : Int)) c = (0 : Int) then vs ++ zeroV else vs) = spl (vs ++ [Value.int IntKind.u64 (0 : Int), Value.string (mkS []), Value.slice noA (0 : Nat) (0 : Nat), Value.slice noA (0 : Nat) (0 : Nat), Value.int IntKind.i64 (0 : Int)]) ((0 : Nat) + Int.toNat (↑n : Int) * (5 : Nat)) [Value.int IntKind.u64 (0 : Int), Value.string (mkS []), Value.slice noA (0 : Nat) (0 : Nat), Value.slice noA (0 : Nat) (0 : Nat), Value.int IntKind.i64 (0 : Int)] ∧ True)) := by kernel_rfl
theorem itemsV_eq (vs : List Value) (n : Nat) : askF P (fun _ => none) Go.Proofs.Try.f49 cItemsV (wItemsV) ⟨vs, n⟩ = (List.length vs = n * (5 : Nat) → ∀ (b s u : Nat) (a : Option Addr) (n_1 c : Nat), (∃ (p : Nat → Option Obj), True ∧ n ≤ c ∧ rowP p a (List.take (n * (5 : Nat)) vs)) → ∃ (b : Unit), a = a ∧ n = n ∧ c = c ∧ Pl a ∧ True ∧ (∀ (p : Nat → Option Obj), True ∧ n ≤ c ∧ rowP p a (List.take (n * (5 : Nat)) vs) → Pl a ∧ n = n) ∧ True) := by kernel_rfl
theorem spl_end : ∀ (new : List Value) (vs old : List Value), old.length = new.length → spl (vs ++ old) vs.length new = vs ++ new
  | [], vs, [], _ => rfl
  | x :: l, vs, y :: m, h => by
    have ih := spl_end l (vs ++ [x]) m (by simpa using h)
    rw [List.length_append, List.append_assoc, List.append_assoc] at ih
    rw [spl, List.set_append_right _ _ (Nat.le_refl _), Nat.sub_self]
    exact ih
theorem typ_len : ∀ E : Env, ∀ e ∈ typ E, e.length = 10 := fun E e h => by
  simp [typ] at h
  rcases h with rfl | rfl | rfl | rfl <;> rfl
theorem typ_cells {E : Env} {p : Pub} (h : enP E p) (k : Nat) (hk : k < 4) : E.1 ≠ noA ∧ cellsP p (adr E.1 (k * 10)) ((typ E)[k]'hk) := by
  rcases h.1.2 with h | ⟨x, hx, h1, h2⟩
  · exact absurd (congrArg List.length h.1) (by show ¬ 40 = 0; decide)
  · rw [hx]
    refine ⟨by simp, fun j v hj => ?_⟩
    show cellP p ((x.add (k * 10)).add j) = some v
    rw [add4 x h1]
    refine h2 _ v ?_
    have hj10 : j < 10 := by
      have := (List.getElem?_eq_some_iff.mp hj).1
      rw [typ_len E _ (List.getElem_mem hk)] at this; exact this
    rw [← hj]
    match k, hk with
    | 0, _ => match j, hj10 with
      | 0, _ => rfl | 1, _ => rfl | 2, _ => rfl | 3, _ => rfl | 4, _ => rfl | 5, _ => rfl | 6, _ => rfl | 7, _ => rfl | 8, _ => rfl | 9, _ => rfl
    | 1, _ => match j, hj10 with
      | 0, _ => rfl | 1, _ => rfl | 2, _ => rfl | 3, _ => rfl | 4, _ => rfl | 5, _ => rfl | 6, _ => rfl | 7, _ => rfl | 8, _ => rfl | 9, _ => rfl
    | 2, _ => match j, hj10 with
      | 0, _ => rfl | 1, _ => rfl | 2, _ => rfl | 3, _ => rfl | 4, _ => rfl | 5, _ => rfl | 6, _ => rfl | 7, _ => rfl | 8, _ => rfl | 9, _ => rfl
    | 3, _ => match j, hj10 with
      | 0, _ => rfl | 1, _ => rfl | 2, _ => rfl | 3, _ => rfl | 4, _ => rfl | 5, _ => rfl | 6, _ => rfl | 7, _ => rfl | 8, _ => rfl | 9, _ => rfl
theorem plainN_ok : CtOK P 29 cPlainN := by
  refine ask_ok mixed no_tab (W := fun _ => {}) Go.Proofs.Try.func29 (by kernel_rfl) (by decide) (by decide) (fun s => by kernel_rfl) fun ⟨E, s, (i : Int), (c : Int)⟩ => (plainN_eq E s i c).mpr ?_
  exact fun _ => ⟨rfl, rfl, rfl, rfl, rfl, rfl, trivial⟩
theorem valN_ok : CtOK P 16 cValN := by
  refine ask_ok mixed (ctTab_ok (forall_tab plainN_ok nil_tab)) (W := fun _ => {}) Go.Proofs.Try.func16 (by kernel_rfl) (by decide) (by decide) (fun s => by kernel_rfl) fun ⟨⟨E, s, (i : Int), (c : Int)⟩, (d : Int)⟩ => (valN_eq E s i c d).mpr ?_
  rintro ⟨hc0, hc1⟩ ⟨p, _, hp⟩
  simp only [decide_eq_true_eq, decide_eq_false_iff_not, true_and, and_true, eq_self, xE]
  refine ⟨fun h => by simp at h, fun _ => ⟨by omega, fun h => ?_, fun h => ⟨fun h2 => ?_, fun h2 => ?_⟩⟩⟩
  · unfold vnE; rw [if_pos (.inl h)]
  · unfold vnE; rw [if_pos (.inr h2)]
  · refine ⟨by omega, (typ_cells hp 1 (by decide)).1, 1, mkS [], none, 0, 0, 0, none, 0, 0, false, mkS [], 0, none, 0, 0, none, 0, 0, fun q hq => (typ_cells hq 1 (by decide)).2, fun h => by omega, fun _ => ⟨fun h => by omega, fun _ => ⟨fun h => by omega, fun _ => ⟨fun h => by omega, fun _ => ⟨⟨E, s, i, c + 1⟩, ?_⟩⟩⟩⟩⟩
    simp only [true_and, and_true, eq_self]
    unfold vnE; rw [if_neg (by omega)]
theorem item_ok : CtOK P 50 cItem := by
  refine ask_ok mixed (ctTab_ok (forall_tab valN_ok nil_tab)) (W := fun _ => {}) Go.Proofs.Try.func50 (by kernel_rfl) (by decide) (by decide) (fun s => by kernel_rfl) fun ⟨⟨E, s, (i : Int), (c : Int)⟩, (d : Int), vs, (n : Nat)⟩ => (item_eq E s i c d vs n).mpr ?_
  rintro ⟨hc0, hc1, hd0, hd1, hv, hn⟩ ⟨p, _, hp⟩
  simp only [decide_eq_true_eq, decide_eq_false_iff_not, Bool.not_eq_true', Bool.not_eq_false', true_and, and_true, eq_self, xE]
  refine ⟨by omega, ⟨⟨E, s, i, c⟩, d + 1⟩, ?_⟩
  simp only [true_and, and_true, eq_self]
  refine ⟨⟨hc0, hc1⟩, fun q hq => hq, fun h0 => ?_, fun h0 => ?_⟩
  · rw [if_neg h0, if_neg h0]; exact ⟨rfl, rfl⟩
  · rw [if_pos h0, if_pos h0]
    refine ⟨hv, by omega, by omega, by simp; omega, by simp; omega, h0, rfl, ?_⟩
    have e := spl_end zeroV vs zeroV rfl
    rw [hv] at e
    rw [Nat.zero_add, Int.toNat_natCast]
    exact e.symm
theorem itemsV_ok : CtOK P 49 cItemsV := by
  refine ask_ok mixed no_tab (W := wItemsV) Go.Proofs.Try.func49 (by kernel_rfl) (by decide) (by decide) (fun s => by kernel_rfl) fun ⟨vs, (n : Nat)⟩ => (itemsV_eq vs n).mpr ?_
  intro hv b s u a n1 c ⟨p, _, _, hr⟩
  simp only [true_and, and_true, eq_self]
  exact ⟨(), Sen.rowP_Pl hr, fun q hq => Sen.rowP_Pl hq.2⟩
/-- An array of nulls, as it is written: so many, then nothing more. -/
structure BlS where
  d : EdS
  n : Int
  e : Int
  i1 : Nat
  i2 : Nat
noncomputable def blE (b : BlS) : Int := if 2000 < b.d.2.2.2 + b.n then 3 else 0
noncomputable def blI (b : BlS) : Int := if b.n = 0 ∨ 2000 < b.d.2.2.2 + b.n then b.i1 else b.i2
noncomputable def blC (b : BlS) : Int := if 2000 < b.d.2.2.2 + b.n then 2001 else b.d.2.2.2 + b.n
noncomputable def blPre (b : BlS) : Prop := dcPre ⟨xE b.d.1, b.d.2.1, b.d.2.2.1, b.d.2.2.2⟩ ∧ 0 ≤ b.d.2.2.2 ∧ b.d.2.2.2 ≤ 2000 ∧ 0 ≤ b.n ∧ b.n < 9223372036854775807 ∧ b.i1 ≤ b.d.2.1.size ∧ (b.e = -1 ∨ b.e = b.i1) ∧ hdR b.d.2.1 b.d.2.2.1.toNat = (b.n, b.e, 0, b.i1) ∧ (0 < b.n → b.i2 ≤ b.d.2.1.size ∧ ∃ e, hdR b.d.2.1 b.i1 = (0, e, 0, b.i2))
noncomputable def lnE (er n : Int) : List SV → PF
  | [x] => ⟨true, fun _ => Pl x.1 ∧ (er = 0 → (x.2.1 : Int) = n), fun _ _ _ h => h⟩
  | _ => {}
noncomputable def gLenE (k : Nat) (er n : Int) : GS := some { β := Unit, ks := [k], pre := fun _ => True, mem := fun _ xs => lnE er n xs }
noncomputable def cBlocks : Ct where
  σ := BlS
  args := fun b => [.ptr 1 0, dA 12 1 [] (none, 0, 0) (none, 0, 0), .int .i64 1]
  h := fun b => dcd (xE b.d.1) b.d.2.1 b.d.2.2.1 b.d.2.2.2
  m := 2
  pre := blPre
  mem := fun b => enM b.d.1
  r := fun b => .tup [avC (.tsl 2), .sv (.int .i64 (blE b))]
  h' := fun b => dcd (xE b.d.1) b.d.2.1 (blI b) (blC b)
  m' := 3
  g := fun b => gLenE 2 (blE b) b.n
/-- Between two blocks. -/
noncomputable abbrev BoS := List Value × Nat × Int × Int
noncomputable def boInv (b : BlS) : BoS → Prop := fun ⟨vs, n, i, c⟩ => vs.length = n * 5 ∧ (n = 0 ∧ i = b.d.2.2.1 ∧ c = b.d.2.2.2 ∨ 0 < b.n ∧ (n : Int) = b.n ∧ i = b.i1 ∧ c = b.d.2.2.2 + b.n ∧ c ≤ 2000)
/-- In a block. -/
noncomputable abbrev BiS := List Value × Nat × Int × Int
noncomputable def biInv (b : BlS) : BiS → Prop := fun ⟨vs, n, j, c⟩ => vs.length = n * 5 ∧ (n : Int) = j ∧ j ≤ b.n ∧ 0 < b.n ∧ c = b.d.2.2.2 + j ∧ c ≤ 2000
noncomputable def itO (id r k m : Nat) (n : Nat) (vs : List Value) : List (Nat × AO) := [(id, .cells 101 (some 0) false [.ssl r 0 n 5 k, .nsl, .map m]), (r, .row 41 0 vs)]
noncomputable def wBlocks : cBlocks.σ → WayF := fun b => {
  ann := fun id _ _ => match id with
    | 0 => some { σ := BoS, pre := boInv b, t := fun _ => [], h := fun ⟨vs, n, i, c⟩ => itO 5 6 7 4 n vs ++ dcd (xE b.d.1) b.d.2.1 i c, more := 2, μ := fun ⟨vs, n, i, c⟩ => 1 - n, keep := [0, 2, 4, 6, 7, 8] }
    | _ => some { σ := BiS, pre := biInv b, t := fun ⟨vs, n, j, c⟩ => [(31, .sv (.int .i64 j))], h := fun ⟨vs, n, j, c⟩ => itO 5 10 11 4 n vs ++ dcd (xE b.d.1) b.d.2.1 b.i1 c, more := 2, μ := fun ⟨vs, n, j, c⟩ => (b.n - j).toNat, keep := [0, 2, 4, 6, 7, 8, 10, 30] } }
theorem blocks_eq (b : BlS) : askF P (ctTab [(48, cHead), (50, cItem), (49, cItemsV)]) Go.Proofs.Try.f27 cBlocks (wBlocks) b = (blPre b → (∃ (p : Nat → Option Obj), True ∧ enP (Prod.fst (BlS.d b)) p) → (∃ (s : BoS), Prod.fst (xE (Prod.fst (BlS.d b))) = Prod.fst (xE (Prod.fst (BlS.d b))) ∧ Prod.fst (Prod.snd (xE (Prod.fst (BlS.d b)))) = Prod.fst (Prod.snd (xE (Prod.fst (BlS.d b)))) ∧ Prod.snd (Prod.snd (xE (Prod.fst (BlS.d b)))) = Prod.snd (Prod.snd (xE (Prod.fst (BlS.d b)))) ∧ Prod.fst (Prod.snd (BlS.d b)) = Prod.fst (Prod.snd (BlS.d b)) ∧ s.2.2.1 = Prod.fst (Prod.snd (Prod.snd (BlS.d b))) ∧ s.2.2.2 = Prod.snd (Prod.snd (Prod.snd (BlS.d b))) ∧ s.2.1 = (0 : Nat) ∧ mkS [] = mkS [] ∧ noA = noA ∧ (0 : Nat) = (0 : Nat) ∧ (0 : Nat) = (0 : Nat) ∧ (1 : Int) = (1 : Int) ∧ noA = noA ∧ (0 : Nat) = (0 : Nat) ∧ (0 : Nat) = (0 : Nat) ∧ false = false ∧ mkS [] = mkS [] ∧ (0 : Int) = (0 : Int) ∧ noA = noA ∧ (0 : Nat) = (0 : Nat) ∧ (0 : Nat) = (0 : Nat) ∧ noA = noA ∧ (0 : Nat) = (0 : Nat) ∧ (0 : Nat) = (0 : Nat) ∧ (∀ (p : Nat → Option Obj), True ∧ enP (Prod.fst (BlS.d b)) p → True ∧ enP (Prod.fst (BlS.d b)) p) ∧ boInv b s ∧ True) ∧ ∀ (s : BoS), boInv b s → Prod.fst (xE (Prod.fst (BlS.d b))) = Prod.fst (xE (Prod.fst (BlS.d b))) ∧ Prod.fst (Prod.snd (xE (Prod.fst (BlS.d b)))) = Prod.fst (Prod.snd (xE (Prod.fst (BlS.d b)))) ∧ Prod.snd (Prod.snd (xE (Prod.fst (BlS.d b)))) = Prod.snd (Prod.snd (xE (Prod.fst (BlS.d b)))) ∧ Prod.fst (Prod.snd (BlS.d b)) = Prod.fst (Prod.snd (BlS.d b)) ∧ s.2.2.1 = s.2.2.1 ∧ s.2.2.2 = s.2.2.2 ∧ dcPre ((Prod.fst (xE (Prod.fst (BlS.d b))), Prod.fst (Prod.snd (xE (Prod.fst (BlS.d b)))), Prod.snd (Prod.snd (xE (Prod.fst (BlS.d b))))), Prod.fst (Prod.snd (BlS.d b)), s.2.2.1, s.2.2.2) ∧ ((!decide (Prod.fst (Prod.snd (Prod.snd (hdR (Prod.fst (Prod.snd (BlS.d b))) (Int.toNat s.2.2.1)))) = (0 : Int))) = true → ∃ (b_1 : Unit), noA = noA ∧ (0 : Nat) = (0 : Nat) ∧ (0 : Nat) = (0 : Nat) ∧ blE b = Prod.fst (Prod.snd (Prod.snd (hdR (Prod.fst (Prod.snd (BlS.d b))) (Int.toNat s.2.2.1)))) ∧ Prod.fst (xE (Prod.fst (BlS.d b))) = Prod.fst (xE (Prod.fst (BlS.d b))) ∧ Prod.fst (Prod.snd (xE (Prod.fst (BlS.d b)))) = Prod.fst (Prod.snd (xE (Prod.fst (BlS.d b)))) ∧ Prod.snd (Prod.snd (xE (Prod.fst (BlS.d b)))) = Prod.snd (Prod.snd (xE (Prod.fst (BlS.d b)))) ∧ Prod.fst (Prod.snd (BlS.d b)) = Prod.fst (Prod.snd (BlS.d b)) ∧ blI b = (↑(Prod.snd (Prod.snd (Prod.snd (hdR (Prod.fst (Prod.snd (BlS.d b))) (Int.toNat s.2.2.1))))) : Int) ∧ blC b = s.2.2.2 ∧ Pl noA ∧ True ∧ (∀ (p : Nat → Option Obj), True ∧ enP (Prod.fst (BlS.d b)) p → Pl noA ∧ (blE b = (0 : Int) → (↑(0 : Nat) : Int) = BlS.n b)) ∧ True) ∧ ((!decide (Prod.fst (Prod.snd (Prod.snd (hdR (Prod.fst (Prod.snd (BlS.d b))) (Int.toNat s.2.2.1)))) = (0 : Int))) = false → (decide (Prod.fst (hdR (Prod.fst (Prod.snd (BlS.d b))) (Int.toNat s.2.2.1)) = (0 : Int)) = true → ∃ (s_1 : ItS), s_1.2 = s.2.1 ∧ s_1.1 = s.1 ∧ List.length (Prod.fst s_1) = Prod.snd s_1 * (5 : Nat) ∧ ∀ (b_1 : Unit), True → ∀ (a : Option Addr) (n c : Nat), (∃ (p : Nat → Option Obj), (True ∧ enP (Prod.fst (BlS.d b)) p) ∧ Pl a ∧ n = s_1.2) → ∃ (b_2 : Unit), a = a ∧ n = n ∧ c = c ∧ blE b = (0 : Int) ∧ Prod.fst (xE (Prod.fst (BlS.d b))) = Prod.fst (xE (Prod.fst (BlS.d b))) ∧ Prod.fst (Prod.snd (xE (Prod.fst (BlS.d b)))) = Prod.fst (Prod.snd (xE (Prod.fst (BlS.d b)))) ∧ Prod.snd (Prod.snd (xE (Prod.fst (BlS.d b)))) = Prod.snd (Prod.snd (xE (Prod.fst (BlS.d b)))) ∧ Prod.fst (Prod.snd (BlS.d b)) = Prod.fst (Prod.snd (BlS.d b)) ∧ blI b = (↑(Prod.snd (Prod.snd (Prod.snd (hdR (Prod.fst (Prod.snd (BlS.d b))) (Int.toNat s.2.2.1))))) : Int) ∧ blC b = s.2.2.2 ∧ Pl a ∧ True ∧ (∀ (p : Nat → Option Obj), (True ∧ enP (Prod.fst (BlS.d b)) p) ∧ Pl a ∧ n = s_1.2 → Pl a ∧ (blE b = (0 : Int) → (↑n : Int) = BlS.n b)) ∧ True) ∧ (decide (Prod.fst (hdR (Prod.fst (Prod.snd (BlS.d b))) (Int.toNat s.2.2.1)) = (0 : Int)) = false → (∃ (s_1 : BiS), s_1.2.2.1 = (0 : Int) ∧ Prod.fst (Prod.snd (hdR (Prod.fst (Prod.snd (BlS.d b))) (Int.toNat s.2.2.1))) = Prod.fst (Prod.snd (hdR (Prod.fst (Prod.snd (BlS.d b))) (Int.toNat s.2.2.1))) ∧ Prod.fst (hdR (Prod.fst (Prod.snd (BlS.d b))) (Int.toNat s.2.2.1)) = Prod.fst (hdR (Prod.fst (Prod.snd (BlS.d b))) (Int.toNat s.2.2.1)) ∧ Prod.fst (xE (Prod.fst (BlS.d b))) = Prod.fst (xE (Prod.fst (BlS.d b))) ∧ Prod.fst (Prod.snd (xE (Prod.fst (BlS.d b)))) = Prod.fst (Prod.snd (xE (Prod.fst (BlS.d b)))) ∧ Prod.snd (Prod.snd (xE (Prod.fst (BlS.d b)))) = Prod.snd (Prod.snd (xE (Prod.fst (BlS.d b)))) ∧ Prod.fst (Prod.snd (BlS.d b)) = Prod.fst (Prod.snd (BlS.d b)) ∧ (↑(BlS.i1 b) : Int) = (↑(Prod.snd (Prod.snd (Prod.snd (hdR (Prod.fst (Prod.snd (BlS.d b))) (Int.toNat s.2.2.1))))) : Int) ∧ s_1.2.2.2 = s.2.2.2 ∧ s_1.2.1 = s.2.1 ∧ mkS [] = mkS [] ∧ noA = noA ∧ (0 : Nat) = (0 : Nat) ∧ (0 : Nat) = (0 : Nat) ∧ (1 : Int) = (1 : Int) ∧ noA = noA ∧ (0 : Nat) = (0 : Nat) ∧ (0 : Nat) = (0 : Nat) ∧ false = false ∧ mkS [] = mkS [] ∧ (0 : Int) = (0 : Int) ∧ noA = noA ∧ (0 : Nat) = (0 : Nat) ∧ (0 : Nat) = (0 : Nat) ∧ noA = noA ∧ (0 : Nat) = (0 : Nat) ∧ (0 : Nat) = (0 : Nat) ∧ s_1.1 = s.1 ∧ (∀ (p : Nat → Option Obj), True ∧ enP (Prod.fst (BlS.d b)) p → True ∧ enP (Prod.fst (BlS.d b)) p) ∧ biInv b s_1 ∧ True) ∧ ∀ (s_1 : BiS), biInv b s_1 → (decide (s_1.2.2.1 < Prod.fst (hdR (Prod.fst (Prod.snd (BlS.d b))) (Int.toNat s.2.2.1))) = true → ∃ (s_2 : EdS × Int × ItS), mkS [] = mkS [] ∧ noA = noA ∧ (0 : Nat) = (0 : Nat) ∧ (0 : Nat) = (0 : Nat) ∧ (1 : Int) = (1 : Int) ∧ noA = noA ∧ (0 : Nat) = (0 : Nat) ∧ (0 : Nat) = (0 : Nat) ∧ false = false ∧ mkS [] = mkS [] ∧ (0 : Int) = (0 : Int) ∧ noA = noA ∧ (0 : Nat) = (0 : Nat) ∧ (0 : Nat) = (0 : Nat) ∧ noA = noA ∧ (0 : Nat) = (0 : Nat) ∧ (0 : Nat) = (0 : Nat) ∧ s_2.2.1 = (1 : Int) ∧ Prod.fst (xE s_2.1.1) = Prod.fst (xE (Prod.fst (BlS.d b))) ∧ Prod.fst (Prod.snd (xE s_2.1.1)) = Prod.fst (Prod.snd (xE (Prod.fst (BlS.d b)))) ∧ Prod.snd (Prod.snd (xE s_2.1.1)) = Prod.snd (Prod.snd (xE (Prod.fst (BlS.d b)))) ∧ s_2.1.2.1 = Prod.fst (Prod.snd (BlS.d b)) ∧ s_2.1.2.2.1 = (↑(BlS.i1 b) : Int) ∧ s_2.1.2.2.2 = s_1.2.2.2 ∧ s_2.2.2.1 = s_1.1 ∧ s_2.2.2.2 = s_1.2.1 ∧ ((0 : Int) ≤ Prod.snd s_2.1.2.2 ∧ Prod.snd s_2.1.2.2 < (1000000 : Int) ∧ (1 : Int) ≤ Prod.fst s_2.2 ∧ Prod.fst s_2.2 < (1000 : Int) ∧ List.length (Prod.fst s_2.2.2) = Prod.snd s_2.2.2 * (5 : Nat) ∧ Prod.snd s_2.2.2 < (1000000 : Nat)) ∧ (∀ (p : Nat → Option Obj), True ∧ enP (Prod.fst (BlS.d b)) p → enP s_2.1.1 p) ∧ ((!decide (vnE (s_2.2.1 + (1 : Int)) s_2.1.2.2.2 = (0 : Int))) = true → ∃ (b_1 : Unit), noA = noA ∧ (0 : Nat) = (0 : Nat) ∧ (0 : Nat) = (0 : Nat) ∧ blE b = vnE (s_2.2.1 + (1 : Int)) s_2.1.2.2.2 ∧ Prod.fst (xE (Prod.fst (BlS.d b))) = Prod.fst (xE s_2.1.1) ∧ Prod.fst (Prod.snd (xE (Prod.fst (BlS.d b)))) = Prod.fst (Prod.snd (xE s_2.1.1)) ∧ Prod.snd (Prod.snd (xE (Prod.fst (BlS.d b)))) = Prod.snd (Prod.snd (xE s_2.1.1)) ∧ Prod.fst (Prod.snd (BlS.d b)) = s_2.1.2.1 ∧ blI b = s_2.1.2.2.1 ∧ blC b = s_2.1.2.2.2 + (1 : Int) ∧ Pl noA ∧ True ∧ (∀ (p : Nat → Option Obj), True ∧ enP (Prod.fst (BlS.d b)) p → Pl noA ∧ (blE b = (0 : Int) → (↑(0 : Nat) : Int) = BlS.n b)) ∧ True) ∧ ((!decide (vnE (s_2.2.1 + (1 : Int)) s_2.1.2.2.2 = (0 : Int))) = false → ((-9223372036854775808 : Int) ≤ s_1.2.2.1 + (1 : Int) ∧ s_1.2.2.1 + (1 : Int) ≤ (9223372036854775807 : Int)) ∧ ∃ (s_3 : BiS), s_3.2.2.1 = s_1.2.2.1 + (1 : Int) ∧ Prod.fst (Prod.snd (hdR (Prod.fst (Prod.snd (BlS.d b))) (Int.toNat s.2.2.1))) = Prod.fst (Prod.snd (hdR (Prod.fst (Prod.snd (BlS.d b))) (Int.toNat s.2.2.1))) ∧ Prod.fst (hdR (Prod.fst (Prod.snd (BlS.d b))) (Int.toNat s.2.2.1)) = Prod.fst (hdR (Prod.fst (Prod.snd (BlS.d b))) (Int.toNat s.2.2.1)) ∧ Prod.fst (xE (Prod.fst (BlS.d b))) = Prod.fst (xE s_2.1.1) ∧ Prod.fst (Prod.snd (xE (Prod.fst (BlS.d b)))) = Prod.fst (Prod.snd (xE s_2.1.1)) ∧ Prod.snd (Prod.snd (xE (Prod.fst (BlS.d b)))) = Prod.snd (Prod.snd (xE s_2.1.1)) ∧ Prod.fst (Prod.snd (BlS.d b)) = s_2.1.2.1 ∧ (↑(BlS.i1 b) : Int) = s_2.1.2.2.1 ∧ s_3.2.2.2 = s_2.1.2.2.2 + (1 : Int) ∧ (s_3.2.1 = if vnE (s_2.2.1 + (1 : Int)) s_2.1.2.2.2 = (0 : Int) then s_2.2.2.2 + (1 : Nat) else s_2.2.2.2) ∧ mkS [] = mkS [] ∧ noA = noA ∧ (0 : Nat) = (0 : Nat) ∧ (0 : Nat) = (0 : Nat) ∧ (1 : Int) = (1 : Int) ∧ noA = noA ∧ (0 : Nat) = (0 : Nat) ∧ (0 : Nat) = (0 : Nat) ∧ false = false ∧ mkS [] = mkS [] ∧ (0 : Int) = (0 : Int) ∧ noA = noA ∧ (0 : Nat) = (0 : Nat) ∧ (0 : Nat) = (0 : Nat) ∧ noA = noA ∧ (0 : Nat) = (0 : Nat) ∧ (0 : Nat) = (0 : Nat) ∧ (s_3.1 = if vnE (s_2.2.1 + (1 : Int)) s_2.1.2.2.2 = (0 : Int) then s_2.2.2.1 ++ zeroV else s_2.2.2.1) ∧ (∀ (p : Nat → Option Obj), True ∧ enP (Prod.fst (BlS.d b)) p → True ∧ enP (Prod.fst (BlS.d b)) p) ∧ biInv b s_3 ∧ Int.toNat (BlS.n b - Prod.fst s_3.2.2) < Int.toNat (BlS.n b - Prod.fst s_1.2.2) ∧ True)) ∧ (decide (s_1.2.2.1 < Prod.fst (hdR (Prod.fst (Prod.snd (BlS.d b))) (Int.toNat s.2.2.1))) = false → (decide ((0 : Int) ≤ Prod.fst (Prod.snd (hdR (Prod.fst (Prod.snd (BlS.d b))) (Int.toNat s.2.2.1)))) = true → ((!decide ((↑(BlS.i1 b) : Int) = Prod.fst (Prod.snd (hdR (Prod.fst (Prod.snd (BlS.d b))) (Int.toNat s.2.2.1))))) = true → ∃ (b_1 : Unit), noA = noA ∧ (0 : Nat) = (0 : Nat) ∧ (0 : Nat) = (0 : Nat) ∧ blE b = (2 : Int) ∧ Prod.fst (xE (Prod.fst (BlS.d b))) = Prod.fst (xE (Prod.fst (BlS.d b))) ∧ Prod.fst (Prod.snd (xE (Prod.fst (BlS.d b)))) = Prod.fst (Prod.snd (xE (Prod.fst (BlS.d b)))) ∧ Prod.snd (Prod.snd (xE (Prod.fst (BlS.d b)))) = Prod.snd (Prod.snd (xE (Prod.fst (BlS.d b)))) ∧ Prod.fst (Prod.snd (BlS.d b)) = Prod.fst (Prod.snd (BlS.d b)) ∧ blI b = (↑(BlS.i1 b) : Int) ∧ blC b = s_1.2.2.2 ∧ Pl noA ∧ True ∧ (∀ (p : Nat → Option Obj), True ∧ enP (Prod.fst (BlS.d b)) p → Pl noA ∧ (blE b = (0 : Int) → (↑(0 : Nat) : Int) = BlS.n b)) ∧ True) ∧ ((!decide ((↑(BlS.i1 b) : Int) = Prod.fst (Prod.snd (hdR (Prod.fst (Prod.snd (BlS.d b))) (Int.toNat s.2.2.1))))) = false → ∃ (s_2 : BoS), Prod.fst (xE (Prod.fst (BlS.d b))) = Prod.fst (xE (Prod.fst (BlS.d b))) ∧ Prod.fst (Prod.snd (xE (Prod.fst (BlS.d b)))) = Prod.fst (Prod.snd (xE (Prod.fst (BlS.d b)))) ∧ Prod.snd (Prod.snd (xE (Prod.fst (BlS.d b)))) = Prod.snd (Prod.snd (xE (Prod.fst (BlS.d b)))) ∧ Prod.fst (Prod.snd (BlS.d b)) = Prod.fst (Prod.snd (BlS.d b)) ∧ s_2.2.2.1 = (↑(BlS.i1 b) : Int) ∧ s_2.2.2.2 = s_1.2.2.2 ∧ s_2.2.1 = s_1.2.1 ∧ mkS [] = mkS [] ∧ noA = noA ∧ (0 : Nat) = (0 : Nat) ∧ (0 : Nat) = (0 : Nat) ∧ (1 : Int) = (1 : Int) ∧ noA = noA ∧ (0 : Nat) = (0 : Nat) ∧ (0 : Nat) = (0 : Nat) ∧ false = false ∧ mkS [] = mkS [] ∧ (0 : Int) = (0 : Int) ∧ noA = noA ∧ (0 : Nat) = (0 : Nat) ∧ (0 : Nat) = (0 : Nat) ∧ noA = noA ∧ (0 : Nat) = (0 : Nat) ∧ (0 : Nat) = (0 : Nat) ∧ s_2.1 = s_1.1 ∧ (∀ (p : Nat → Option Obj), True ∧ enP (Prod.fst (BlS.d b)) p → True ∧ enP (Prod.fst (BlS.d b)) p) ∧ boInv b s_2 ∧ (1 : Nat) - Prod.fst s_2.2 < (1 : Nat) - Prod.fst s.2 ∧ True)) ∧ (decide ((0 : Int) ≤ Prod.fst (Prod.snd (hdR (Prod.fst (Prod.snd (BlS.d b))) (Int.toNat s.2.2.1)))) = false → ∃ (s_2 : BoS), Prod.fst (xE (Prod.fst (BlS.d b))) = Prod.fst (xE (Prod.fst (BlS.d b))) ∧ Prod.fst (Prod.snd (xE (Prod.fst (BlS.d b)))) = Prod.fst (Prod.snd (xE (Prod.fst (BlS.d b)))) ∧ Prod.snd (Prod.snd (xE (Prod.fst (BlS.d b)))) = Prod.snd (Prod.snd (xE (Prod.fst (BlS.d b)))) ∧ Prod.fst (Prod.snd (BlS.d b)) = Prod.fst (Prod.snd (BlS.d b)) ∧ s_2.2.2.1 = (↑(BlS.i1 b) : Int) ∧ s_2.2.2.2 = s_1.2.2.2 ∧ s_2.2.1 = s_1.2.1 ∧ mkS [] = mkS [] ∧ noA = noA ∧ (0 : Nat) = (0 : Nat) ∧ (0 : Nat) = (0 : Nat) ∧ (1 : Int) = (1 : Int) ∧ noA = noA ∧ (0 : Nat) = (0 : Nat) ∧ (0 : Nat) = (0 : Nat) ∧ false = false ∧ mkS [] = mkS [] ∧ (0 : Int) = (0 : Int) ∧ noA = noA ∧ (0 : Nat) = (0 : Nat) ∧ (0 : Nat) = (0 : Nat) ∧ noA = noA ∧ (0 : Nat) = (0 : Nat) ∧ (0 : Nat) = (0 : Nat) ∧ s_2.1 = s_1.1 ∧ (∀ (p : Nat → Option Obj), True ∧ enP (Prod.fst (BlS.d b)) p → True ∧ enP (Prod.fst (BlS.d b)) p) ∧ boInv b s_2 ∧ (1 : Nat) - Prod.fst s_2.2 < (1 : Nat) - Prod.fst s.2 ∧ True))))) := by kernel_rfl
theorem blocks_ok : CtOK P 27 cBlocks := by
  refine ask_ok mixed (ctTab_ok (forall_tab head_ok (forall_tab item_ok (forall_tab itemsV_ok nil_tab)))) (W := wBlocks) Go.Proofs.Try.func27 (by kernel_rfl) (by decide) (by decide) (fun s => by kernel_rfl) fun (b : BlS) => (blocks_eq b).mpr ?_
  obtain ⟨⟨E, s, i, c⟩, n, e, i1, i2⟩ := b
  simp only [decide_eq_true_eq, decide_eq_false_iff_not, Bool.not_eq_true', Bool.not_eq_false', true_and, and_true, eq_self, xE]
  rintro ⟨⟨hi0, hi1, hs⟩, hc0, hc1, hn0, hn1, hi1s, he, hh, hh2⟩ ⟨p, hp⟩
  simp only at hi0 hi1 hs hc0 hc1 hn0 hn1 hi1s he hh hh2
  have bE : blE ⟨⟨E, s, i, c⟩, n, e, i1, i2⟩ = if 2000 < c + n then 3 else 0 := rfl
  have bI : blI ⟨⟨E, s, i, c⟩, n, e, i1, i2⟩ = if n = 0 ∨ 2000 < c + n then (i1 : Int) else i2 := rfl
  have bC : blC ⟨⟨E, s, i, c⟩, n, e, i1, i2⟩ = if 2000 < c + n then 2001 else c + n := rfl
  refine ⟨⟨⟨[], 0, i, c⟩, rfl, rfl, rfl, fun q hq => hq, rfl, .inl ⟨rfl, rfl, rfl⟩⟩, ?_⟩
  rintro ⟨vs, k, j, cc⟩ ⟨hv, hst⟩
  simp only at hv hst ⊢
  rcases hst with ⟨rfl, rfl, rfl⟩ | ⟨hnp, hkn, rfl, hcc, hcl⟩
  · rw [hh]
    simp only [true_and]
    refine ⟨⟨hi0, hi1, hs⟩, fun h => absurd trivial h, fun _ => ⟨fun h0 => ?_, fun h0 => ⟨⟨⟨vs, 0, 0, cc⟩, rfl, rfl, rfl, rfl, fun q hq => hq, hv, rfl, by show (0 : Int) ≤ n; omega, by show 0 < n; omega, by show cc = cc + 0; omega, by show cc ≤ 2000; omega⟩, ?_⟩⟩⟩
    · refine ⟨⟨vs, 0⟩, rfl, rfl, hv, fun _ _ a m q ⟨pp, hpp, ha, hm⟩ => ⟨(), ?_, ?_, ?_, ha, fun r hr => ⟨hr.2.1, fun _ => by rw [hr.2.2]; show ((0 : Nat) : Int) = n; omega⟩⟩⟩
      · rw [bE, if_neg (by omega)]
      · rw [bI, if_pos (.inl h0)]
      · rw [bC, if_neg (by omega)]; omega
    · rintro ⟨us, m, jj, c2⟩ ⟨hu, hm, hjn, hnp, hc2, hc2l⟩
      simp only at hu hm hjn hnp hc2 hc2l ⊢
      refine ⟨fun hlt => ⟨⟨⟨E, s, i1, c2⟩, 1, us, m⟩, ?_⟩, fun hge => ⟨fun hen => ⟨fun hne => by omega, fun heq => ?_⟩, fun hen => ?_⟩⟩
      · simp only [true_and, eq_self]
        have v2 : vnE (1 + 1) c2 = if 2000 < c2 + 1 then 3 else 0 := by unfold vnE; simp
        refine ⟨⟨by omega, by omega, by omega, by omega, hu, by omega⟩, fun q hq => hq, fun h => ⟨(), ?_, ?_, ?_, Pl_none, fun q hq => ⟨Pl_none, ?_⟩⟩, fun h => ⟨by omega, ⟨us ++ zeroV, m + 1, jj + 1, c2 + 1⟩, ?_⟩⟩
        · rw [v2] at h ⊢
          split at h
          · rw [bE, if_pos (by omega), if_pos (by omega)]
          · exact absurd rfl h
        · rw [v2] at h
          split at h
          · rw [bI, if_pos (.inr (by omega))]
          · exact absurd rfl h
        · rw [v2] at h
          split at h
          · rw [bC, if_pos (by omega)]; omega
          · exact absurd rfl h
        · intro h3
          rw [v2] at h
          split at h
          · rw [bE, if_pos (by omega)] at h3; cases h3
          · exact absurd rfl h
        · rw [if_pos h, if_pos h]
          rw [v2] at h
          split at h
          · cases h
          · exact ⟨rfl, rfl, rfl, rfl, fun q hq => hq, ⟨by rw [List.length_append, hu]; show m * 5 + 5 = (m + 1) * 5; omega, by show ((m + 1 : Nat) : Int) = jj + 1; omega, by show jj + 1 ≤ n; omega, hnp, by show c2 + 1 = cc + (jj + 1); omega, by show c2 + 1 ≤ 2000; omega⟩, by show (n - (jj + 1)).toNat < (n - jj).toNat; omega⟩
      · exact ⟨⟨us, m, i1, c2⟩, rfl, rfl, rfl, rfl, fun q hq => hq, ⟨hu, .inr ⟨hnp, by show (m : Int) = n; omega, rfl, by show c2 = cc + n; omega, hc2l⟩⟩, by show 1 - m < 1 - 0; omega⟩
      · exact ⟨⟨us, m, i1, c2⟩, rfl, rfl, rfl, rfl, fun q hq => hq, ⟨hu, .inr ⟨hnp, by show (m : Int) = n; omega, rfl, by show c2 = cc + n; omega, hc2l⟩⟩, by show 1 - m < 1 - 0; omega⟩
  · obtain ⟨hi2, e2, hh2⟩ := hh2 hnp
    rw [Int.toNat_natCast, hh2]
    simp only [true_and]
    refine ⟨⟨by show (0 : Int) ≤ i1; omega, by show (i1 : Int) ≤ s.size; omega, hs⟩, fun h => absurd trivial h, fun _ => ⟨fun _ => ⟨⟨vs, k⟩, rfl, rfl, hv, fun _ _ a m q ⟨pp, hpp, ha, hm⟩ => ⟨(), ?_, ?_, ?_, ha, fun r hr => ⟨hr.2.1, fun _ => by rw [hr.2.2]; exact hkn⟩⟩⟩, fun h => absurd trivial h⟩⟩
    · rw [bE, if_neg (by omega)]
    · rw [bI, if_neg (by omega)]
    · rw [bC, if_neg (by omega)]; omega
noncomputable def cValA : Ct where
  σ := BlS
  args := fun b => [.ptr 1 0, .int .i64 0, .int .i64 1]
  h := fun b => dcd (xE b.d.1) b.d.2.1 b.d.2.2.1 (b.d.2.2.2 - 1)
  m := 2
  pre := fun b => blPre b ∧ 1 ≤ b.d.2.2.2
  mem := fun b => enM b.d.1
  r := fun b => .tup [avC (.tsl 2), .sv (.int .i64 (blE b))]
  h' := fun b => dcd (xE b.d.1) b.d.2.1 (blI b) (blC b)
  m' := 3
  g := fun b => gLenE 2 (blE b) b.n
noncomputable def cDecA : Ct where
  σ := BlS
  args := fun b => [.agg [.sv (.slice (xE b.d.1).1 (xE b.d.1).2.1 (xE b.d.1).2.2)], .int .i64 0, .msl 1 b.d.2.1.size 1]
  h := fun b => [(1, .row 5 0 (bcells b.d.2.1))]
  m := 2
  pre := fun b => blPre b ∧ b.d.2.2.2 = 1 ∧ b.d.2.2.1 = 0
  mem := fun b => enM b.d.1
  r := fun b => .tup [avC (.tsl 2), .sv (.int .i64 (if blE b = 0 then blI b else 0)), .sv (.int .i64 (blE b))]
  h' := fun b => [(1, .row 5 0 (bcells b.d.2.1))]
  m' := 3
  g := fun b => gLenE 2 (blE b) b.n
/-! Records and unions within each other. -/
noncomputable def dcF (s : ByteArray) : Nat → Int → Nat → Int → Int × Nat × Int
  | 0, t, i, c => (3, i, c + 1)
  | D + 1, t, i, c => if 2000 < c + 1 then (3, i, c + 1) else if t = 1 then (0, i, c + 1) else if t = 2 then dcF s D 3 i (c + 1) else
    if chE s i 2 ≠ 0 then ((chE s i 2 : Nat), (lgR s i).2.2, c + 1) else dcF s D ((lgR s i).1 + 1) (lgR s i).2.2 (c + 1)
noncomputable def dcB (s : ByteArray) (D : Nat) (t : Int) (i : Nat) (c : Int) : Int := if t = 3 ∧ (dcF s D t i c).1 = 0 then (lgR s i).1 else 0
noncomputable abbrev VcS := EdS × Int × Int
noncomputable def vcPre : VcS → Prop := fun ⟨⟨E, s, i, c⟩, t, d⟩ => dcPre ⟨xE E, s, i, c⟩ ∧ 0 ≤ c ∧ c ≤ 2000 ∧ 1 ≤ d ∧ d ≤ 21 ∧ 1 ≤ t ∧ t ≤ 3
noncomputable def cValC : Ct where
  σ := VcS
  args := fun ⟨⟨E, s, i, c⟩, t, d⟩ => [.ptr 1 0, .sv (.int .i64 t), .sv (.int .i64 d)]
  h := fun ⟨⟨E, s, i, c⟩, t, d⟩ => dcd (xE E) s i c
  m := 2
  pre := vcPre
  mem := fun ⟨⟨E, s, i, c⟩, t, d⟩ => enM E
  r := fun ⟨⟨E, s, i, c⟩, t, d⟩ => .tup [avB (.tsl 2) (dcB s (21 - d).toNat t i.toNat c), .sv (.int .i64 (dcF s (21 - d).toNat t i.toNat c).1)]
  h' := fun ⟨⟨E, s, i, c⟩, t, d⟩ => dcd (xE E) s ((dcF s (21 - d).toNat t i.toNat c).2.1 : Nat) (dcF s (21 - d).toNat t i.toNat c).2.2
  m' := 3
  g := fun _ => gAny 2
noncomputable def muC : VcS → Nat := fun ⟨⟨E, s, i, c⟩, t, d⟩ => (21 - d).toNat
/-- A record, or a union: its count is told already. -/
noncomputable def rcPre : VcS → Prop := fun ⟨⟨E, s, i, c⟩, t, d⟩ => dcPre ⟨xE E, s, i, c⟩ ∧ 0 ≤ c ∧ c ≤ 2000 ∧ 1 ≤ d ∧ d ≤ 20
noncomputable def cRecC : Ct where
  σ := VcS
  args := fun ⟨⟨E, s, i, c⟩, t, d⟩ => [.ptr 1 0, dA 9 0 [82] (E.2.1, 1, 1) (none, 0, 0), .sv (.int .i64 d)]
  h := fun ⟨⟨E, s, i, c⟩, t, d⟩ => dcd (xE E) s i c
  m := 2
  pre := rcPre
  mem := fun ⟨⟨E, s, i, c⟩, t, d⟩ => enM E
  r := fun ⟨⟨E, s, i, c⟩, t, d⟩ => .tup [avC (.tsl 2), .sv (.int .i64 (dcF s (20 - d).toNat 3 i.toNat c).1)]
  h' := fun ⟨⟨E, s, i, c⟩, t, d⟩ => dcd (xE E) s ((dcF s (20 - d).toNat 3 i.toNat c).2.1 : Nat) (dcF s (20 - d).toNat 3 i.toNat c).2.2
  m' := 3
  g := fun _ => gAny 2
noncomputable def unF (s : ByteArray) (D i : Nat) (c : Int) : Int × Nat × Int := if chE s i 2 ≠ 0 then ((chE s i 2 : Nat), (lgR s i).2.2, c) else dcF s D ((lgR s i).1 + 1) (lgR s i).2.2 c
noncomputable def cUniC : Ct where
  σ := VcS
  args := fun ⟨⟨E, s, i, c⟩, t, d⟩ => [.ptr 1 0, dA 14 0 [] (none, 0, 0) (E.2.2, 2, 2), .sv (.int .i64 d)]
  h := fun ⟨⟨E, s, i, c⟩, t, d⟩ => dcd (xE E) s i c
  m := 2
  pre := rcPre
  mem := fun ⟨⟨E, s, i, c⟩, t, d⟩ => enM E
  r := fun ⟨⟨E, s, i, c⟩, t, d⟩ => .tup [avB (.tsl 2) (if (unF s (20 - d).toNat i.toNat c).1 = 0 then (lgR s i.toNat).1 else 0), .sv (.int .i64 (unF s (20 - d).toNat i.toNat c).1)]
  h' := fun ⟨⟨E, s, i, c⟩, t, d⟩ => dcd (xE E) s ((unF s (20 - d).toNat i.toNat c).2.1 : Nat) (unF s (20 - d).toNat i.toNat c).2.2
  m' := 3
  g := fun _ => gAny 2
noncomputable def wRecC : VcS → WayF := fun _ => { unr := 2, pubE := [40] }
noncomputable def wUniC : VcS → WayF := fun _ => { pubE := [42] }
noncomputable def lnF (er : Int) : List SV → PF
  | [x] => ⟨true, fun _ => Pl x.1 ∧ (er ≠ 0 → x.2.1 = 0), fun _ _ _ h => h⟩
  | _ => {}
noncomputable def cDecC : Ct where
  σ := Env × ByteArray
  args := fun ⟨E, s⟩ => [.agg [.sv (.slice (xE E).1 (xE E).2.1 (xE E).2.2)], .int .i64 2, .msl 1 s.size 1]
  h := fun ⟨E, s⟩ => [(1, .row 5 0 (bcells s))]
  m := 2
  pre := fun ⟨E, s⟩ => s.size < 100000
  mem := fun ⟨E, s⟩ => enM E
  r := fun ⟨E, s⟩ => .tup [avC (.tsl 2), .sv (.int .i64 (if (dcF s 20 2 0 0).1 = 0 then ((dcF s 20 2 0 0).2.1 : Nat) else 0)), .sv (.int .i64 (dcF s 20 2 0 0).1)]
  h' := fun ⟨E, s⟩ => [(1, .row 5 0 (bcells s))]
  m' := 3
  g := fun ⟨E, s⟩ => some { β := Unit, ks := [2], pre := fun _ => True, mem := fun _ xs => lnF (dcF s 20 2 0 0).1 xs }
end Go.Proofs.Ytcmgjpafiobkpaa.Wd
