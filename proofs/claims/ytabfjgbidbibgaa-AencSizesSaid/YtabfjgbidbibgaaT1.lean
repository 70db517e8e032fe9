/-
  What the functions do: contracts, and their questions answered. No condition but what its theorems ask.
-/
import Derived.Test.YtabfjgbidbibgaaU6
import Derived.Test.YtabfjgbidbibgaaProg
import Derived.Laws.BitsAllLaws
namespace Go.Proofs.Ytabfjgbidbibgaa.Wd
open Go.Proofs.Ytabfjgbidbibgaa.Eng Go.Proofs.Ytabfjgbidbibgaa.Sen Go.RowKit
set_option linter.unusedVariables false
set_option linter.unusedSimpArgs false
set_option maxRecDepth 1000000
noncomputable abbrev P := Go.Proofs.Try.prog
theorem mixed : P.follows .mixedOrders = true := by decide +kernel
theorem no_tab : ∀ g C, (fun _ => none : Nat → Option Ct) g = some C → CtOK P g C := fun g C h => by cases h
noncomputable def slI (t : T AV) (k : Nat) : Option Int := match t.get k with
  | some a => match gi a with
    | some (_, i) => some i
    | none => none
  | none => none
theorem Pl_none : Pl noA := fun x h => by cases h
theorem Pl_some {x : Addr} (h : x.spot = none) : Pl (some x) := fun y e => by cases e; exact h
/-! Rows of records. -/
noncomputable def rowsV {α : Type} (f : α → List Value) : List α → List Value
  | [] => []
  | x :: l => f x ++ rowsV f l
theorem rows_len {α : Type} {f : α → List Value} {e : Nat} (hf : ∀ x, (f x).length = e) : ∀ l, (rowsV f l).length = l.length * e
  | [] => by simp [rowsV]
  | x :: l => by
    rw [rowsV, List.length_append, hf, rows_len hf l, List.length_cons, Nat.succ_mul]; omega
theorem rows_app {α : Type} {f : α → List Value} : ∀ l m, rowsV f (l ++ m) = rowsV f l ++ rowsV f m
  | [], m => rfl
  | x :: l, m => by
    show f x ++ rowsV f (l ++ m) = _
    rw [rows_app l m, ← List.append_assoc]; rfl
theorem rows_at {α : Type} {f : α → List Value} {e : Nat} (hf : ∀ x, (f x).length = e) : ∀ (l : List α) (i : Nat) (hi : i < l.length) (j : Nat), j < e → (rowsV f l)[i * e + j]? = (f l[i])[j]?
  | x :: l, 0, _, j, hj => by
    show (f x ++ rowsV f l)[0 * e + j]? = _
    rw [Nat.zero_mul, Nat.zero_add, List.getElem?_append_left (by rw [hf]; exact hj)]; rfl
  | x :: l, i + 1, hi, j, hj => by
    show (f x ++ rowsV f l)[(i + 1) * e + j]? = _
    have : (i + 1) * e = i * e + e := Nat.succ_mul i e
    rw [List.getElem?_append_right (by rw [hf]; omega), show (i + 1) * e + j - (f x).length = i * e + j by rw [hf]; omega]
    exact rows_at hf l i (by simpa using hi) j hj
theorem add4 (x : Addr) (h : x.spot = none) (i j : Nat) : (x.add i).add j = x.add (i + j) := by
  obtain ⟨b, o, s⟩ := x
  simp only at h
  subst h
  unfold Addr.add
  by_cases hi : i = 0
  · subst hi; simp
  · by_cases hj : j = 0
    · subst hj; simp [hi]
    · rw [if_neg hi, if_neg hj, if_neg (by omega)]
      simp only [Nat.add_assoc]
theorem rows_cells {α : Type} {f : α → List Value} {e : Nat} (hf : ∀ x, (f x).length = e) (he : 0 < e) {p : Pub} {a : Option Addr} {n c : Nat} {l : List α} (h : sliP p a n c (rowsV f l)) {i : Nat} (hi : i < l.length) : a ≠ noA ∧ cellsP p (adr a (i * e)) (f l[i]) := by
  rcases h.2 with h | ⟨x, rfl, h1, h2⟩
  · have := congrArg List.length h.1
    rw [rows_len hf, List.length_nil] at this
    have := Nat.mul_pos (show 0 < l.length by omega) he
    omega
  · refine ⟨by simp, fun j v hj => ?_⟩
    have hje : j < e := by have := (List.getElem?_eq_some_iff.mp hj).1; rw [hf] at this; exact this
    show cellP p ((x.add (i * e)).add j) = some v
    rw [add4 x h1]
    exact h2 _ v (by rw [rows_at hf l i hi j hje]; exact hj)
theorem cells_sub {p : Pub} {x : Addr} {vs : List Value} (h : cellsP p x vs) (hs : x.spot = none) (k : Nat) {v : Value} (hv : vs[k]? = some v) : cellsP p (x.add k) [v] := fun j u hj => by
  cases j with
  | zero =>
    simp at hj; subst hj
    rw [add4 x hs]
    exact h k v hv
  | succ j => simp at hj
noncomputable abbrev nilV : Value := .slice none 0 0
noncomputable def plM : List SV → PF
  | [x] => ⟨true, fun _ => Pl x.1, fun _ _ _ h => h⟩
  | _ => {}
noncomputable def gAny (k : Nat) : GS := some { β := Unit, ks := [k], pre := fun _ => True, mem := fun _ xs => plM xs }
noncomputable def f1s : List Value → Option ByteArray
  | [.string s] => some s
  | _ => none
noncomputable def f2s : List Value → Option (ByteArray × ByteArray)
  | [.string s, .string p] => some (s, p)
  | _ => none
noncomputable def fsi : List Value → Option (ByteArray × Int)
  | [.string s, .int _ c] => some (s, c)
  | _ => none
noncomputable def f1i : List Value → Option Int
  | [.int _ c] => some c
  | _ => none
noncomputable def f2i : List Value → Option (Int × Int)
  | [.int _ c, .int _ d] => some (c, d)
  | _ => none
theorem bat_lt (s : ByteArray) (j : Nat) : bat s j < 256 := by unfold bat; exact UInt8.toNat_lt _
theorem bat_out {s : ByteArray} {j : Nat} (h : s.size ≤ j) : bat s j = 0 := by
  unfold bat
  rw [getElem?_neg s j (by omega)]; rfl
theorem bat_in {s : ByteArray} {j : Nat} (h : j < s.size) : bat s j = s[j].toNat := by
  unfold bat
  rw [getElem?_pos s j h]; rfl
/-! Which texts are code points. -/
noncomputable def ldN (c : Nat) : Nat := if c < 128 then 1 else if 192 ≤ c ∧ c < 224 then 2 else if 224 ≤ c ∧ c < 240 then 3 else if 240 ≤ c ∧ c < 248 then 4 else 0
noncomputable def ldV (c : Nat) : Nat := if c < 128 then c else if 192 ≤ c ∧ c < 224 then c - 192 else if 224 ≤ c ∧ c < 240 then c - 224 else if 240 ≤ c ∧ c < 248 then c - 240 else 0
noncomputable def ctC (c : Nat) : Bool := decide (128 ≤ c) && decide (c < 192)
/-- The bits of so many bytes. -/
noncomputable def vlF (s : ByteArray) : Nat → Option Nat
  | 0 => some 0
  | 1 => some (ldV (bat s 0))
  | i + 2 => match vlF s (i + 1) with
    | some r => if ctC (bat s (i + 1)) = true then some (r * 64 + (bat s (i + 1) - 128)) else none
    | none => none
noncomputable def lnN (r : Nat) : Nat := if r < 128 then 1 else if r < 2048 then 2 else if r < 65536 then 3 else 4
noncomputable def isC (r : Nat) : Bool := decide (r ≤ 1114111) && !(decide (55296 ≤ r) && decide (r ≤ 57343))
/-- How many bytes the code point at the front has; 0: there is none. -/
noncomputable def frt (s : ByteArray) : Nat := if s.size < ldN (bat s 0) then 0 else match vlF s (ldN (bat s 0)) with
  | none => 0
  | some r => if ldN (bat s 0) = 0 ∨ isC r = false ∨ lnN r ≠ ldN (bat s 0) then 0 else ldN (bat s 0)
noncomputable def vldF : Nat → ByteArray → Bool
  | 0, _ => true
  | f + 1, s => if s.size = 0 then true else if frt s = 0 then false else vldF f (s.extract (frt s) s.size)
noncomputable def vld (s : ByteArray) : Bool := vldF s.size s
noncomputable def cLead : Ct := ctS Int (fun c => [.int .u8 c]) f1i (fun c => 0 ≤ c ∧ c < 256) (fun _ => {}) fun c => .tup [.sv (.int .i64 (ldN c.toNat : Nat)), .sv (.int .u32 (ldV c.toNat : Nat))]
noncomputable def cIs : Ct := ctS Int (fun c => [.int .u32 c]) f1i (fun c => 0 ≤ c ∧ c < 4294967296) (fun _ => {}) fun c => .sv (.bool (isC c.toNat))
noncomputable def cLength : Ct := ctS Int (fun c => [.int .u32 c]) f1i (fun c => 0 ≤ c ∧ c < 4294967296) (fun _ => {}) fun c => .sv (.int .i64 (lnN c.toNat : Nat))
noncomputable def cFront : Ct := ctS ByteArray (fun s => [.string s]) f1s (fun s => 0 < s.size ∧ s.size < 9223372036854775808) (fun _ => {}) fun s => .sv (.int .i64 (frt s : Nat))
noncomputable def cValid : Ct := ctS ByteArray (fun s => [.string s]) f1s (fun s => s.size < 9223372036854775808) (fun _ => {}) fun s => .sv (.bool (vld s))
noncomputable def slS (t : T AV) (k : Nat) : Option ByteArray := match t.get k with
  | some a => gs a
  | none => none
noncomputable def wFront : cFront.σ → WayF := fun s => { ann := fun _ _ _ => some { σ := Int × Int, pre := fun ⟨r, i⟩ => 1 ≤ i ∧ (i ≤ ldN (bat s 0) ∨ i = 1) ∧ ∃ q : Nat, r = q ∧ (ldN (bat s 0) = 0 ∨ vlF s i.toNat = some q), find := some fun t _ => match slI t 4 with | some r => (match slI t 5 with | some i => some (r, i) | none => none) | none => none, t := fun ⟨r, i⟩ => [(4, .sv (.int .u32 r)), (5, .sv (.int .i64 i))], h := fun _ => [], more := 0, μ := fun ⟨r, i⟩ => 5 - i.toNat, keep := [0, 2, 3] } }
noncomputable def tFront : Nat → Option Ct := ctTab [(109, cLead), (110, cIs), (111, cLength)]
noncomputable def wValid : cValid.σ → WayF := fun s => { ann := fun _ _ _ => some { σ := ByteArray, pre := fun t => t.size ≤ s.size ∧ vld t = vld s, find := some fun t _ => slS t 0, t := fun u => [(0, .sv (.string u))], h := fun _ => [], more := 0, μ := fun u => u.size, keep := [2] } }
noncomputable def tValid : Nat → Option Ct := ctTab [(77, cFront)]
noncomputable def ptV (s : ByteArray) : Nat := if frt s = 0 then 0 else (vlF s (frt s)).getD 0
noncomputable def cPoint : Ct := ctS ByteArray (fun s => [.string s]) f1s (fun s => s.size < 9223372036854775808) (fun _ => {}) fun s => .tup [.sv (.int .u32 (ptV s : Nat)), .sv (.int .i64 (frt s : Nat))]
noncomputable def leN (n : Nat) : Nat := if n = 2 then 128 else if n = 3 then 2048 else 65536
noncomputable def wPoint : cPoint.σ → WayF := fun s => {
  ann := fun _ _ _ => some { σ := Int × Int, pre := fun ⟨v, i⟩ => 1 ≤ i ∧ i ≤ ldN (bat s 0) ∧ ∃ q : Nat, v = q ∧ vlF s i.toNat = some q, find := some fun t _ => match slI t 6 with | some v => (match slI t 8 with | some i => some (v, i) | none => none) | none => none, t := fun ⟨v, i⟩ => [(6, .sv (.int .u32 v)), (8, .sv (.int .i64 i))], h := fun _ => [], more := 0, μ := fun ⟨v, i⟩ => 5 - i.toNat, keep := [0, 5, 7] }
  cut := fun r _ _ => match r with
    | 14 => some { σ := Unit, pre := fun _ => 0 < s.size ∧ 2 ≤ ldN (bat s 0), find := some fun _ _ => some (), t := fun _ => [(5, .sv (.int .i64 (ldN (bat s 0) : Nat))), (6, .sv (.int .u32 (ldV (bat s 0) : Nat))), (7, .sv (.int .u32 (leN (ldN (bat s 0)) : Nat)))], h := fun _ => [], more := 0, μ := fun _ => 0, keep := [0] }
    | _ => none }
noncomputable def wValidR : cValid.σ → WayF := fun s => { ann := fun _ _ _ => some { σ := ByteArray, pre := fun t => t.size ≤ s.size ∧ vld t = vld s, find := some fun t _ => slS t 0, t := fun u => [(0, .sv (.string u))], h := fun _ => [], more := 0, μ := fun u => u.size, keep := [] } }
theorem ldN_le (c : Nat) : ldN c ≤ 4 := by unfold ldN; repeat' split
                                           all_goals omega
theorem ldV_lt (c : Nat) : ldV c < 128 := by unfold ldV; repeat' split
                                             all_goals omega
theorem lead_eq (c : Int) : askF P ((fun _ => none)) Go.Proofs.Try.f109 cLead (fun _ => {}) c = ((0 : Int) ≤ c ∧ c < (256 : Int) → (decide (c < (128 : Int)) = true → (↑(ldN (Int.toNat c)) : Int) = (1 : Int) ∧ (↑(ldV (Int.toNat c)) : Int) = IntKind.wrap IntKind.u32 c ∧ True) ∧ (decide (c < (128 : Int)) = false → (0 : Int) ≤ (5 : Int) ∧ (decide (shP BinOp.shr IntKind.u8 c (5 : Int) = (6 : Int)) = true → (↑(ldN (Int.toNat c)) : Int) = (2 : Int) ∧ (↑(ldV (Int.toNat c)) : Int) = IntKind.wrap IntKind.u32 (bitsP BinOp.and IntKind.u8 c (31 : Int)) ∧ True) ∧ (decide (shP BinOp.shr IntKind.u8 c (5 : Int) = (6 : Int)) = false → (0 : Int) ≤ (4 : Int) ∧ (decide (shP BinOp.shr IntKind.u8 c (4 : Int) = (14 : Int)) = true → (↑(ldN (Int.toNat c)) : Int) = (3 : Int) ∧ (↑(ldV (Int.toNat c)) : Int) = IntKind.wrap IntKind.u32 (bitsP BinOp.and IntKind.u8 c (15 : Int)) ∧ True) ∧ (decide (shP BinOp.shr IntKind.u8 c (4 : Int) = (14 : Int)) = false → (0 : Int) ≤ (3 : Int) ∧ (decide (shP BinOp.shr IntKind.u8 c (3 : Int) = (30 : Int)) = true → (↑(ldN (Int.toNat c)) : Int) = (4 : Int) ∧ (↑(ldV (Int.toNat c)) : Int) = IntKind.wrap IntKind.u32 (bitsP BinOp.and IntKind.u8 c (7 : Int)) ∧ True) ∧ (decide (shP BinOp.shr IntKind.u8 c (3 : Int) = (30 : Int)) = false → (↑(ldN (Int.toNat c)) : Int) = (0 : Int) ∧ (↑(ldV (Int.toNat c)) : Int) = (0 : Int) ∧ True))))) := by kernel_rfl
theorem lead1 : ∀ c < 256, ¬ c < 128 → (decide (shP BinOp.shr IntKind.u8 (c : Nat) 5 = 6) = (decide (192 ≤ c) && decide (c < 224))) ∧ (decide (shP BinOp.shr IntKind.u8 (c : Nat) 4 = 14) = (decide (224 ≤ c) && decide (c < 240))) ∧ (decide (shP BinOp.shr IntKind.u8 (c : Nat) 3 = 30) = (decide (240 ≤ c) && decide (c < 248))) := by decide +kernel
theorem lead2 : ∀ c < 256, IntKind.wrap IntKind.u32 ((c : Nat) : Int) = (c : Nat) ∧ (192 ≤ c → c < 224 → IntKind.wrap IntKind.u32 (bitsP BinOp.and IntKind.u8 (c : Nat) 31) = ((c - 192 : Nat) : Int)) ∧ (224 ≤ c → c < 240 → IntKind.wrap IntKind.u32 (bitsP BinOp.and IntKind.u8 (c : Nat) 15) = ((c - 224 : Nat) : Int)) ∧ (240 ≤ c → c < 248 → IntKind.wrap IntKind.u32 (bitsP BinOp.and IntKind.u8 (c : Nat) 7) = ((c - 240 : Nat) : Int)) := by decide +kernel
theorem lead_ok : CtOK P 109 cLead := by
  refine ask_ok mixed no_tab (W := fun _ => {}) Go.Proofs.Try.func109 (by kernel_rfl) (by decide) (by decide) (fun c => by kernel_rfl) fun (c : Int) => (lead_eq c).mpr ?_
  rintro ⟨h1, h2⟩
  obtain ⟨n, rfl⟩ := Int.eq_ofNat_of_zero_le h1
  have hn : n < 256 := by omega
  obtain ⟨b0, b1, b2, b3⟩ := lead2 n hn
  simp only [Int.toNat_natCast, and_true, decide_eq_true_eq, decide_eq_false_iff_not]
  refine ⟨fun h => ?_, fun h => ⟨by omega, ?_⟩⟩
  · unfold ldN ldV; rw [if_pos (by omega), if_pos (by omega), b0]; simp
  have hg : ¬ n < 128 := by omega
  obtain ⟨a1, a2, a3⟩ := lead1 n hn hg
  have a1 : (shP BinOp.shr IntKind.u8 (n : Nat) 5 = 6) ↔ (192 ≤ n ∧ n < 224) := by
    rw [← decide_eq_true_iff (p := shP BinOp.shr IntKind.u8 (n : Nat) 5 = 6), a1]; simp
  have a2 : (shP BinOp.shr IntKind.u8 (n : Nat) 4 = 14) ↔ (224 ≤ n ∧ n < 240) := by
    rw [← decide_eq_true_iff (p := shP BinOp.shr IntKind.u8 (n : Nat) 4 = 14), a2]; simp
  have a3 : (shP BinOp.shr IntKind.u8 (n : Nat) 3 = 30) ↔ (240 ≤ n ∧ n < 248) := by
    rw [← decide_eq_true_iff (p := shP BinOp.shr IntKind.u8 (n : Nat) 3 = 30), a3]; simp
  rw [a1, a2, a3]
  refine ⟨fun g => ?_, fun g => ⟨by omega, fun g2 => ?_, fun g2 => ⟨by omega, fun g3 => ?_, fun g3 => ?_⟩⟩⟩
  · unfold ldN ldV
    rw [if_neg hg, if_pos g, if_neg hg, if_pos g, b1 g.1 g.2]; simp
  · unfold ldN ldV
    rw [if_neg hg, if_neg g, if_pos g2, if_neg hg, if_neg g, if_pos g2, b2 g2.1 g2.2]; simp
  · unfold ldN ldV
    rw [if_neg hg, if_neg g, if_neg g2, if_pos g3, if_neg hg, if_neg g, if_neg g2, if_pos g3, b3 g3.1 g3.2]; simp
  · unfold ldN ldV
    rw [if_neg hg, if_neg g, if_neg g2, if_neg g3, if_neg hg, if_neg g, if_neg g2, if_neg g3]; simp
theorem isq_eq (c : Int) : askF P ((fun _ => none)) Go.Proofs.Try.f110 cIs (fun _ => {}) c = ((0 : Int) ≤ c ∧ c < (4294967296 : Int) → (decide (c ≤ (1114111 : Int)) = true → (0 : Int) ≤ (11 : Int) ∧ isC (Int.toNat c) = !decide (shP BinOp.shr IntKind.u32 c (11 : Int) = (27 : Int)) ∧ True) ∧ (decide (c ≤ (1114111 : Int)) = false → isC (Int.toNat c) = false ∧ True)) := by kernel_rfl
theorem is_ok : CtOK P 110 cIs := by
  refine ask_ok mixed no_tab (W := fun _ => {}) Go.Proofs.Try.func110 (by kernel_rfl) (by decide) (by decide) (fun c => by kernel_rfl) fun (c : Int) => (isq_eq c).mpr ?_
  rintro ⟨h1, h2⟩
  obtain ⟨n, rfl⟩ := Int.eq_ofNat_of_zero_le h1
  simp only [Int.toNat_natCast, and_true, decide_eq_true_eq, decide_eq_false_iff_not, isC]
  refine ⟨fun h => ⟨by omega, ?_⟩, fun h => ?_⟩
  · have : shP BinOp.shr IntKind.u32 (n : Nat) 11 = ((n / 2048 : Nat) : Int) := by
      show (n : Int).fdiv (2 ^ 11) = _
      rw [Int.fdiv_eq_ediv_of_nonneg _ (by decide)]; omega
    rw [this]
    by_cases g : 55296 ≤ n ∧ n ≤ 57343
    · have e : n / 2048 = 27 := by omega
      rw [e]; simp; omega
    · have e : n / 2048 ≠ 27 := by omega
      have e2 : ¬ ((n / 2048 : Nat) : Int) = 27 := by omega
      rw [decide_eq_false e2]
      simp; omega
  · rw [decide_eq_false (by omega)]; rfl
theorem lengthq_eq (c : Int) : askF P ((fun _ => none)) Go.Proofs.Try.f111 cLength (fun _ => {}) c = ((0 : Int) ≤ c ∧ c < (4294967296 : Int) → (decide (c < (128 : Int)) = true → (↑(lnN (Int.toNat c)) : Int) = (1 : Int) ∧ True) ∧ (decide (c < (128 : Int)) = false → (decide (c < (2048 : Int)) = true → (↑(lnN (Int.toNat c)) : Int) = (2 : Int) ∧ True) ∧ (decide (c < (2048 : Int)) = false → (decide (c < (65536 : Int)) = true → (↑(lnN (Int.toNat c)) : Int) = (3 : Int) ∧ True) ∧ (decide (c < (65536 : Int)) = false → (↑(lnN (Int.toNat c)) : Int) = (4 : Int) ∧ True)))) := by kernel_rfl
theorem length_ok : CtOK P 111 cLength := by
  refine ask_ok mixed no_tab (W := fun _ => {}) Go.Proofs.Try.func111 (by kernel_rfl) (by decide) (by decide) (fun c => by kernel_rfl) fun (c : Int) => (lengthq_eq c).mpr ?_
  rintro ⟨h1, h2⟩
  simp only [and_true, decide_eq_true_eq, decide_eq_false_iff_not, lnN]
  refine ⟨fun h => ?_, fun h => ⟨fun g => ?_, fun g => ⟨fun k => ?_, fun k => ?_⟩⟩⟩
  · rw [if_pos (by omega)]; rfl
  · rw [if_neg (by omega), if_pos (by omega)]; rfl
  · rw [if_neg (by omega), if_neg (by omega), if_pos (by omega)]; rfl
  · rw [if_neg (by omega), if_neg (by omega), if_neg (by omega)]; rfl
theorem ct1 : ∀ c < 256, decide (shP BinOp.shr IntKind.u8 (c : Nat) 6 = 2) = ctC c := by decide +kernel
theorem ct2 : ∀ c < 256, ctC c = true → IntKind.wrap IntKind.u32 (bitsP BinOp.and IntKind.u8 (c : Nat) 63) = ((c - 128 : Nat) : Int) ∧ c - 128 < 64 := by decide +kernel
theorem vlF_bd (s : ByteArray) : ∀ (i r : Nat), vlF s i = some r → i ≤ 4 → r < 128 * 64 ^ (i - 1)
  | 0, r, h, _ => by simp [vlF] at h; subst h; decide
  | 1, r, h, _ => by
    simp [vlF] at h
    have := ldV_lt (bat s 0)
    rw [h] at this; simpa using this
  | i + 2, r, h, hi => by
    simp only [vlF] at h
    split at h
    · rename_i q hq
      have ih := vlF_bd s (i + 1) q hq (by omega)
      split at h
      · rename_i hc
        cases h
        have := bat_lt s (i + 1)
        simp [ctC] at hc
        have e : i + 1 - 1 = i := by omega
        have e2 : i + 2 - 1 = i + 1 := by omega
        rw [e] at ih
        rw [e2, Nat.pow_succ]
        omega
      · cases h
    · cases h
theorem or64 (r d : Nat) (hr : r < 67108864) (hd : d < 64) : bitsP BinOp.or IntKind.u32 (shP BinOp.shl IntKind.u32 (r : Int) 6) (d : Int) = ((r * 64 + d : Nat) : Int) := by
  have e : shP BinOp.shl IntKind.u32 (r : Int) 6 = ((r * 64 : Nat) : Int) := by
    show IntKind.u32.wrap ((r : Int) * 2 ^ 6) = _
    unfold IntKind.wrap; simp [IntKind.bits, IntKind.signed]; omega
  rw [e]
  have h0 := u32_or_nat (r * 64) d (by omega) (by omega)
  have h1 : bitsP BinOp.or IntKind.u32 ((r * 64 : Nat) : Int) (d : Int) = bits .or .u32 ((r * 64 : Nat) : Int) (d : Int) := rfl
  rw [h1, h0]
  congr 1
  have h := Nat.two_pow_add_eq_or_of_lt (i := 6) (b := d) hd r
  rw [show 2 ^ 6 * r = r * 64 by omega] at h
  exact h.symm
theorem vlF_none (s : ByteArray) (i j : Nat) (hij : i ≤ j) (h1 : 1 ≤ i) (h : vlF s i = none) : vlF s j = none := by
  induction j with
  | zero => omega
  | succ j ih =>
    by_cases e : i = j + 1
    · subst e; exact h
    · have := ih (by omega)
      cases j with
      | zero => omega
      | succ j => simp only [vlF]; rw [this]
theorem front_eq (s : ByteArray) : askF P (tFront) Go.Proofs.Try.f77 cFront (wFront) s = ((0 : Nat) < ByteArray.size s ∧ ByteArray.size s < (9223372036854775808 : Nat) → ((0 : Int) ≤ (0 : Int) ∧ (0 : Int) < (↑(ByteArray.size s) : Int)) ∧ (↑(bat s (0 : Nat)) : Int) = (↑(bat s (0 : Nat)) : Int) ∧ ((0 : Int) ≤ (↑(bat s (0 : Nat)) : Int) ∧ (↑(bat s (0 : Nat)) : Int) < (256 : Int)) ∧ (decide ((↑(ByteArray.size s) : Int) < (↑(ldN (Int.toNat (↑(bat s (0 : Nat)) : Int))) : Int)) = true → (↑(frt s) : Int) = (0 : Int) ∧ True) ∧ (decide ((↑(ByteArray.size s) : Int) < (↑(ldN (Int.toNat (↑(bat s (0 : Nat)) : Int))) : Int)) = false → (s = s ∧ (↑(ldN (Int.toNat (↑(bat s (0 : Nat)) : Int))) : Int) = (↑(ldN (Int.toNat (↑(bat s (0 : Nat)) : Int))) : Int) ∧ (1 : Int) = (1 : Int) ∧ (↑(ldV (Int.toNat (↑(bat s (0 : Nat)) : Int))) : Int) = (↑(ldV (Int.toNat (↑(bat s (0 : Nat)) : Int))) : Int) ∧ ((1 : Int) ≤ (1 : Int) ∧ ((1 : Int) ≤ (↑(ldN (bat s (0 : Nat))) : Int) ∨ (1 : Int) = (1 : Int)) ∧ ∃ (q : Nat), (↑(ldV (Int.toNat (↑(bat s (0 : Nat)) : Int))) : Int) = (↑q : Int) ∧ (ldN (bat s (0 : Nat)) = (0 : Nat) ∨ vlF s (1 : Nat) = some q)) ∧ True) ∧ ∀ (s_1 : Int × Int), ((1 : Int) ≤ Prod.snd s_1 ∧ (Prod.snd s_1 ≤ (↑(ldN (bat s (0 : Nat))) : Int) ∨ Prod.snd s_1 = (1 : Int)) ∧ ∃ (q : Nat), Prod.fst s_1 = (↑q : Int) ∧ (ldN (bat s (0 : Nat)) = (0 : Nat) ∨ vlF s (Int.toNat (Prod.snd s_1)) = some q)) → (decide (s_1.2 < (↑(ldN (Int.toNat (↑(bat s (0 : Nat)) : Int))) : Int)) = true → ((0 : Int) ≤ s_1.2 ∧ s_1.2 < (↑(ByteArray.size s) : Int)) ∧ (0 : Int) ≤ (6 : Int) ∧ ((!decide (shP BinOp.shr IntKind.u8 (↑(bat s (Int.toNat s_1.2)) : Int) (6 : Int) = (2 : Int))) = true → (↑(frt s) : Int) = (0 : Int) ∧ True) ∧ ((!decide (shP BinOp.shr IntKind.u8 (↑(bat s (Int.toNat s_1.2)) : Int) (6 : Int) = (2 : Int))) = false → (0 : Int) ≤ (6 : Int) ∧ ((0 : Int) ≤ s_1.2 ∧ s_1.2 < (↑(ByteArray.size s) : Int)) ∧ ((-9223372036854775808 : Int) ≤ s_1.2 + (1 : Int) ∧ s_1.2 + (1 : Int) ≤ (9223372036854775807 : Int)) ∧ s = s ∧ (↑(ldN (Int.toNat (↑(bat s (0 : Nat)) : Int))) : Int) = (↑(ldN (Int.toNat (↑(bat s (0 : Nat)) : Int))) : Int) ∧ s_1.2 + (1 : Int) = s_1.2 + (1 : Int) ∧ bitsP BinOp.or IntKind.u32 (shP BinOp.shl IntKind.u32 s_1.1 (6 : Int)) (IntKind.wrap IntKind.u32 (bitsP BinOp.and IntKind.u8 (↑(bat s (Int.toNat s_1.2)) : Int) (63 : Int))) = bitsP BinOp.or IntKind.u32 (shP BinOp.shl IntKind.u32 s_1.1 (6 : Int)) (IntKind.wrap IntKind.u32 (bitsP BinOp.and IntKind.u8 (↑(bat s (Int.toNat s_1.2)) : Int) (63 : Int))) ∧ ((1 : Int) ≤ s_1.2 + (1 : Int) ∧ (s_1.2 + (1 : Int) ≤ (↑(ldN (bat s (0 : Nat))) : Int) ∨ s_1.2 + (1 : Int) = (1 : Int)) ∧ ∃ (q : Nat), bitsP BinOp.or IntKind.u32 (shP BinOp.shl IntKind.u32 s_1.1 (6 : Int)) (IntKind.wrap IntKind.u32 (bitsP BinOp.and IntKind.u8 (↑(bat s (Int.toNat s_1.2)) : Int) (63 : Int))) = (↑q : Int) ∧ (ldN (bat s (0 : Nat)) = (0 : Nat) ∨ vlF s (Int.toNat (s_1.2 + (1 : Int))) = some q)) ∧ (5 : Nat) - Int.toNat (s_1.2 + (1 : Int)) < (5 : Nat) - Int.toNat (Prod.snd s_1) ∧ True)) ∧ (decide (s_1.2 < (↑(ldN (Int.toNat (↑(bat s (0 : Nat)) : Int))) : Int)) = false → (decide ((↑(ldN (Int.toNat (↑(bat s (0 : Nat)) : Int))) : Int) = (0 : Int)) = true → (↑(frt s) : Int) = (0 : Int) ∧ True) ∧ (decide ((↑(ldN (Int.toNat (↑(bat s (0 : Nat)) : Int))) : Int) = (0 : Int)) = false → s_1.1 = s_1.1 ∧ ((0 : Int) ≤ s_1.1 ∧ s_1.1 < (4294967296 : Int)) ∧ ((!isC (Int.toNat s_1.1)) = true → (↑(frt s) : Int) = (0 : Int) ∧ True) ∧ ((!isC (Int.toNat s_1.1)) = false → s_1.1 = s_1.1 ∧ ((0 : Int) ≤ s_1.1 ∧ s_1.1 < (4294967296 : Int)) ∧ ((!decide ((↑(lnN (Int.toNat s_1.1)) : Int) = (↑(ldN (Int.toNat (↑(bat s (0 : Nat)) : Int))) : Int))) = true → (↑(frt s) : Int) = (0 : Int) ∧ True) ∧ ((!decide ((↑(lnN (Int.toNat s_1.1)) : Int) = (↑(ldN (Int.toNat (↑(bat s (0 : Nat)) : Int))) : Int))) = false → (↑(frt s) : Int) = (↑(ldN (Int.toNat (↑(bat s (0 : Nat)) : Int))) : Int) ∧ True)))))) := by kernel_rfl
theorem tFront_ok : ∀ g C, tFront g = some C → CtOK P g C := ctTab_ok (forall_tab lead_ok (forall_tab is_ok (forall_tab length_ok nil_tab)))
theorem front_ok : CtOK P 77 cFront := by
  refine ask_ok mixed tFront_ok (W := wFront) Go.Proofs.Try.func77 (by kernel_rfl) (by decide) (by decide) (fun c => by kernel_rfl) fun (s : ByteArray) => (front_eq s).mpr ?_
  rintro ⟨h1, h2⟩
  have b0 := bat_lt s 0
  simp only [Int.toNat_natCast, Int.toNat_zero, and_true, true_and, decide_eq_true_eq, decide_eq_false_iff_not, Bool.not_eq_true', Bool.not_eq_false']
  obtain ⟨n, hn⟩ : ∃ n, n = ldN (bat s 0) := ⟨_, rfl⟩
  have hn4 := ldN_le (bat s 0)
  have hfr : frt s = if s.size < n then 0 else match vlF s n with
    | none => 0
    | some r => if n = 0 ∨ isC r = false ∨ lnN r ≠ n then 0 else n := by rw [hn]; rfl
  rw [← hn] at hn4 ⊢
  refine ⟨by omega, by omega, fun g => ?_, fun g => ⟨⟨by omega, .inr trivial, ldV (bat s 0), rfl, .inr rfl⟩, ?_⟩⟩
  · rw [hfr, if_pos (by omega)]; rfl
  rintro ⟨r, i⟩ ⟨i1, i2, q, hq, hv⟩
  simp only at i1 i2 hq hv ⊢
  obtain ⟨m, rfl⟩ := Int.eq_ofNat_of_zero_le (show 0 ≤ i by omega)
  have em : ((m : Int) + 1).toNat = m + 1 := by omega
  simp only [Int.toNat_natCast, em] at hv ⊢
  subst hq
  simp only [Int.toNat_natCast] at hv ⊢
  rw [if_neg (by omega)] at hfr
  refine ⟨fun k => ⟨by omega, by omega, ?_⟩, fun k => ⟨fun k2 => ?_, fun k2 => ?_⟩⟩
  · have bm := bat_lt s m
    have c1 : shP BinOp.shr IntKind.u8 ((bat s m : Nat) : Int) 6 = 2 ↔ ctC (bat s m) = true := by rw [← ct1 (bat s m) bm, decide_eq_true_iff]
    rw [c1]
    have hv : vlF s m = some q := by
      rcases hv with h | h
      · omega
      · exact h
    have hbd := vlF_bd s m q hv (by omega)
    have hq26 : q < 67108864 := by
      have : m ≤ 3 := by omega
      rcases m with _ | _ | _ | _ | m <;> simp at hbd <;> omega
    obtain ⟨m', rfl⟩ : ∃ m', m = m' + 1 := ⟨m - 1, by omega⟩
    refine ⟨fun k3 => ?_, fun k3 => ⟨by omega, by omega, by omega, ⟨by omega, by omega, ?_⟩, by omega⟩⟩
    · have : vlF s (m' + 2) = none := by simp only [vlF]; rw [hv]; simp [k3]
      rw [hfr, vlF_none s (m' + 2) n (by omega) (by omega) this]; rfl
    · obtain ⟨c2, c3⟩ := ct2 (bat s (m' + 1)) bm k3
      rw [c2]
      refine ⟨_, or64 q _ hq26 c3, .inr ?_⟩
      simp only [vlF]
      rw [hv]; simp [k3]
  · have h0 : n = 0 := by omega
    rw [hfr, h0]; simp [vlF]
  · have hn0 : n ≠ 0 := by omega
    have hm : m = n := by omega
    have hv : vlF s n = some q := by
      rcases hv with h | h
      · omega
      · rw [← hm]; exact h
    have hbd := vlF_bd s n q hv (by omega)
    have hq32 : q < 4294967296 := by
      rcases n with _ | _ | _ | _ | _ | n <;> simp at hbd <;> omega
    rw [hv] at hfr
    simp only at hfr
    refine ⟨by omega, fun k3 => ?_, fun k3 => ⟨by omega, fun k4 => ?_, fun k4 => ?_⟩⟩
    · rw [hfr, if_pos (.inr (.inl k3))]; rfl
    · rw [hfr, if_pos (.inr (.inr (by omega)))]; rfl
    · rw [hfr, if_neg]
      rw [k3]; simp; omega
theorem frt_le (s : ByteArray) : frt s ≤ s.size := by
  unfold frt
  split
  · omega
  · split
    · omega
    · split <;> omega
theorem vldF_more : ∀ (f g : Nat) (s : ByteArray), s.size ≤ f → s.size ≤ g → vldF f s = vldF g s
  | 0, 0, s, _, _ => rfl
  | 0, g + 1, s, h, _ => by rw [vldF, vldF, if_pos (by omega)]
  | f + 1, 0, s, _, h => by rw [vldF, vldF, if_pos (by omega)]
  | f + 1, g + 1, s, h1, h2 => by
    rw [vldF, vldF]
    split
    · rfl
    · split
      · rfl
      · exact vldF_more f g _ (by simp; omega) (by simp; omega)
theorem vld_step (s : ByteArray) (h : 0 < s.size) : vld s = if frt s = 0 then false else vld (s.extract (frt s) s.size) := by
  unfold vld
  obtain ⟨f, hf⟩ : ∃ f, s.size = f + 1 := ⟨s.size - 1, by omega⟩
  rw [hf, vldF, if_neg (by omega)]
  split
  · rfl
  · rw [hf]
    refine vldF_more _ _ _ ?_ (Nat.le_refl _)
    simp; omega
theorem vld_nil (s : ByteArray) (h : s.size = 0) : vld s = true := by unfold vld; rw [h]; rfl
theorem valid_eq (s : ByteArray) : askF P (tValid) Go.Proofs.Try.f48 cValid (wValid) s = (ByteArray.size s < (9223372036854775808 : Nat) → (s = s ∧ (ByteArray.size s ≤ ByteArray.size s ∧ vld s = vld s) ∧ True) ∧ ∀ (s_1 : ByteArray), ByteArray.size s_1 ≤ ByteArray.size s ∧ vld s_1 = vld s → (decide ((0 : Int) < (↑(ByteArray.size s_1) : Int)) = true → s_1 = s_1 ∧ ((0 : Nat) < ByteArray.size s_1 ∧ ByteArray.size s_1 < (9223372036854775808 : Nat)) ∧ (decide ((↑(frt s_1) : Int) = (0 : Int)) = true → vld s = false ∧ True) ∧ (decide ((↑(frt s_1) : Int) = (0 : Int)) = false → ((0 : Int) ≤ (↑(frt s_1) : Int) ∧ (↑(frt s_1) : Int) ≤ (↑(ByteArray.size s_1) : Int)) ∧ ByteArray.extract s_1 (Int.toNat (↑(frt s_1) : Int)) (ByteArray.size s_1) = ByteArray.extract s_1 (Int.toNat (↑(frt s_1) : Int)) (ByteArray.size s_1) ∧ (ByteArray.size (ByteArray.extract s_1 (Int.toNat (↑(frt s_1) : Int)) (ByteArray.size s_1)) ≤ ByteArray.size s ∧ vld (ByteArray.extract s_1 (Int.toNat (↑(frt s_1) : Int)) (ByteArray.size s_1)) = vld s) ∧ ByteArray.size (ByteArray.extract s_1 (Int.toNat (↑(frt s_1) : Int)) (ByteArray.size s_1)) < ByteArray.size s_1 ∧ True)) ∧ (decide ((0 : Int) < (↑(ByteArray.size s_1) : Int)) = false → vld s = true ∧ True)) := by kernel_rfl
theorem valid_ok : CtOK P 48 cValid := by
  refine ask_ok mixed (ctTab_ok (forall_tab front_ok nil_tab)) (W := wValid) Go.Proofs.Try.func48 (by kernel_rfl) (by decide) (by decide) (fun c => by kernel_rfl) fun (s : ByteArray) => (valid_eq s).mpr ?_
  intro h
  simp only [Int.toNat_natCast, and_true, true_and, decide_eq_true_eq, decide_eq_false_iff_not]
  refine ⟨Nat.le_refl _, fun t ht => ⟨fun g => ⟨by omega, fun g2 => ?_, fun g2 => ?_⟩, fun g => ?_⟩⟩
  · rw [← ht.2, vld_step t (by omega), if_pos (by omega)]
  · have := frt_le t
    rw [← ht.2, vld_step t (by omega), if_neg (by omega)]
    refine ⟨by omega, ⟨?_, rfl⟩, ?_⟩
    · simp; omega
    · simp; omega
  · rw [← ht.2]; exact vld_nil t (by omega)
theorem wrap8 (x : Int) : IntKind.u8.wrap x = x % 256 := by
  unfold IntKind.wrap; simp [IntKind.bits, IntKind.signed]
theorem tn11 (n : Nat) : ((n : Int) + 1 + 1).toNat = n + 2 := by omega
theorem tn1 (n : Nat) : ((n : Int) + 1).toNat = n + 1 := by omega
theorem wrap32 (x : Int) : IntKind.u32.wrap x = x % 4294967296 := by
  unfold IntKind.wrap; simp [IntKind.bits, IntKind.signed]
theorem ld_cases (b : Nat) : (b < 128 ∧ ldN b = 1 ∧ ldV b = b) ∨ (192 ≤ b ∧ b < 224 ∧ ldN b = 2 ∧ ldV b = b - 192) ∨ (224 ≤ b ∧ b < 240 ∧ ldN b = 3 ∧ ldV b = b - 224) ∨ (240 ≤ b ∧ b < 248 ∧ ldN b = 4 ∧ ldV b = b - 240) ∨ (((128 ≤ b ∧ b < 192) ∨ 248 ≤ b) ∧ ldN b = 0) := by
  unfold ldN ldV
  repeat' split
  all_goals omega
theorem lnN_le (n q : Nat) (hn : n = 2 ∨ n = 3 ∨ n = 4) (hq : q < 128 * 64 ^ (n - 1)) (h2 : n = 2 → q < 2048) (h3 : n = 3 → q < 65536) : lnN q = n ↔ leN n ≤ q := by
  unfold lnN leN
  rcases hn with rfl | rfl | rfl
  all_goals (repeat' split)
  all_goals (first | omega | (have := h2 rfl; omega) | (have := h3 rfl; omega))
theorem point_eq (s : ByteArray) : askF P (fun _ => none) Go.Proofs.Try.f50 cPoint (wPoint) s = (ByteArray.size s < (9223372036854775808 : Nat) → (decide ((↑(ByteArray.size s) : Int) = (0 : Int)) = true → (↑(ptV s) : Int) = (0 : Int) ∧ (↑(frt s) : Int) = (0 : Int) ∧ True) ∧ (decide ((↑(ByteArray.size s) : Int) = (0 : Int)) = false → ((0 : Int) ≤ (0 : Int) ∧ (0 : Int) < (↑(ByteArray.size s) : Int)) ∧ ((decide (IntKind.wrap IntKind.u32 (↑(bat s (0 : Nat)) : Int) < (128 : Int)) = true → (↑(ptV s) : Int) = IntKind.wrap IntKind.u32 (↑(bat s (0 : Nat)) : Int) ∧ (↑(frt s) : Int) = (1 : Int) ∧ True) ∧ (decide (IntKind.wrap IntKind.u32 (↑(bat s (0 : Nat)) : Int) < (128 : Int)) = false → (decide ((192 : Int) ≤ IntKind.wrap IntKind.u32 (↑(bat s (0 : Nat)) : Int)) = true → (decide (IntKind.wrap IntKind.u32 (↑(bat s (0 : Nat)) : Int) < (224 : Int)) = true → s = s ∧ (↑(leN (ldN (bat s (0 : Nat)))) : Int) = (128 : Int) ∧ (↑(ldN (bat s (0 : Nat))) : Int) = (2 : Int) ∧ (↑(ldV (bat s (0 : Nat))) : Int) = IntKind.wrap IntKind.u32 (IntKind.wrap IntKind.u32 (↑(bat s (0 : Nat)) : Int) - (192 : Int)) ∧ ((0 : Nat) < ByteArray.size s ∧ (2 : Nat) ≤ ldN (bat s (0 : Nat))) ∧ True) ∧ (decide (IntKind.wrap IntKind.u32 (↑(bat s (0 : Nat)) : Int) < (224 : Int)) = false → (decide ((224 : Int) ≤ IntKind.wrap IntKind.u32 (↑(bat s (0 : Nat)) : Int)) = true → (decide (IntKind.wrap IntKind.u32 (↑(bat s (0 : Nat)) : Int) < (240 : Int)) = true → s = s ∧ (↑(leN (ldN (bat s (0 : Nat)))) : Int) = (2048 : Int) ∧ (↑(ldN (bat s (0 : Nat))) : Int) = (3 : Int) ∧ (↑(ldV (bat s (0 : Nat))) : Int) = IntKind.wrap IntKind.u32 (IntKind.wrap IntKind.u32 (↑(bat s (0 : Nat)) : Int) - (224 : Int)) ∧ ((0 : Nat) < ByteArray.size s ∧ (2 : Nat) ≤ ldN (bat s (0 : Nat))) ∧ True) ∧ (decide (IntKind.wrap IntKind.u32 (↑(bat s (0 : Nat)) : Int) < (240 : Int)) = false → (decide ((240 : Int) ≤ IntKind.wrap IntKind.u32 (↑(bat s (0 : Nat)) : Int)) = true → (decide (IntKind.wrap IntKind.u32 (↑(bat s (0 : Nat)) : Int) < (248 : Int)) = true → s = s ∧ (↑(leN (ldN (bat s (0 : Nat)))) : Int) = (65536 : Int) ∧ (↑(ldN (bat s (0 : Nat))) : Int) = (4 : Int) ∧ (↑(ldV (bat s (0 : Nat))) : Int) = IntKind.wrap IntKind.u32 (IntKind.wrap IntKind.u32 (↑(bat s (0 : Nat)) : Int) - (240 : Int)) ∧ ((0 : Nat) < ByteArray.size s ∧ (2 : Nat) ≤ ldN (bat s (0 : Nat))) ∧ True) ∧ (decide (IntKind.wrap IntKind.u32 (↑(bat s (0 : Nat)) : Int) < (248 : Int)) = false → (↑(ptV s) : Int) = (0 : Int) ∧ (↑(frt s) : Int) = (0 : Int) ∧ True)) ∧ (decide ((240 : Int) ≤ IntKind.wrap IntKind.u32 (↑(bat s (0 : Nat)) : Int)) = false → (↑(ptV s) : Int) = (0 : Int) ∧ (↑(frt s) : Int) = (0 : Int) ∧ True))) ∧ (decide ((224 : Int) ≤ IntKind.wrap IntKind.u32 (↑(bat s (0 : Nat)) : Int)) = false → (decide ((240 : Int) ≤ IntKind.wrap IntKind.u32 (↑(bat s (0 : Nat)) : Int)) = true → (decide (IntKind.wrap IntKind.u32 (↑(bat s (0 : Nat)) : Int) < (248 : Int)) = true → s = s ∧ (↑(leN (ldN (bat s (0 : Nat)))) : Int) = (65536 : Int) ∧ (↑(ldN (bat s (0 : Nat))) : Int) = (4 : Int) ∧ (↑(ldV (bat s (0 : Nat))) : Int) = IntKind.wrap IntKind.u32 (IntKind.wrap IntKind.u32 (↑(bat s (0 : Nat)) : Int) - (240 : Int)) ∧ ((0 : Nat) < ByteArray.size s ∧ (2 : Nat) ≤ ldN (bat s (0 : Nat))) ∧ True) ∧ (decide (IntKind.wrap IntKind.u32 (↑(bat s (0 : Nat)) : Int) < (248 : Int)) = false → (↑(ptV s) : Int) = (0 : Int) ∧ (↑(frt s) : Int) = (0 : Int) ∧ True)) ∧ (decide ((240 : Int) ≤ IntKind.wrap IntKind.u32 (↑(bat s (0 : Nat)) : Int)) = false → (↑(ptV s) : Int) = (0 : Int) ∧ (↑(frt s) : Int) = (0 : Int) ∧ True)))) ∧ (decide ((192 : Int) ≤ IntKind.wrap IntKind.u32 (↑(bat s (0 : Nat)) : Int)) = false → (decide ((224 : Int) ≤ IntKind.wrap IntKind.u32 (↑(bat s (0 : Nat)) : Int)) = true → (decide (IntKind.wrap IntKind.u32 (↑(bat s (0 : Nat)) : Int) < (240 : Int)) = true → s = s ∧ (↑(leN (ldN (bat s (0 : Nat)))) : Int) = (2048 : Int) ∧ (↑(ldN (bat s (0 : Nat))) : Int) = (3 : Int) ∧ (↑(ldV (bat s (0 : Nat))) : Int) = IntKind.wrap IntKind.u32 (IntKind.wrap IntKind.u32 (↑(bat s (0 : Nat)) : Int) - (224 : Int)) ∧ ((0 : Nat) < ByteArray.size s ∧ (2 : Nat) ≤ ldN (bat s (0 : Nat))) ∧ True) ∧ (decide (IntKind.wrap IntKind.u32 (↑(bat s (0 : Nat)) : Int) < (240 : Int)) = false → (decide ((240 : Int) ≤ IntKind.wrap IntKind.u32 (↑(bat s (0 : Nat)) : Int)) = true → (decide (IntKind.wrap IntKind.u32 (↑(bat s (0 : Nat)) : Int) < (248 : Int)) = true → s = s ∧ (↑(leN (ldN (bat s (0 : Nat)))) : Int) = (65536 : Int) ∧ (↑(ldN (bat s (0 : Nat))) : Int) = (4 : Int) ∧ (↑(ldV (bat s (0 : Nat))) : Int) = IntKind.wrap IntKind.u32 (IntKind.wrap IntKind.u32 (↑(bat s (0 : Nat)) : Int) - (240 : Int)) ∧ ((0 : Nat) < ByteArray.size s ∧ (2 : Nat) ≤ ldN (bat s (0 : Nat))) ∧ True) ∧ (decide (IntKind.wrap IntKind.u32 (↑(bat s (0 : Nat)) : Int) < (248 : Int)) = false → (↑(ptV s) : Int) = (0 : Int) ∧ (↑(frt s) : Int) = (0 : Int) ∧ True)) ∧ (decide ((240 : Int) ≤ IntKind.wrap IntKind.u32 (↑(bat s (0 : Nat)) : Int)) = false → (↑(ptV s) : Int) = (0 : Int) ∧ (↑(frt s) : Int) = (0 : Int) ∧ True))) ∧ (decide ((224 : Int) ≤ IntKind.wrap IntKind.u32 (↑(bat s (0 : Nat)) : Int)) = false → (decide ((240 : Int) ≤ IntKind.wrap IntKind.u32 (↑(bat s (0 : Nat)) : Int)) = true → (decide (IntKind.wrap IntKind.u32 (↑(bat s (0 : Nat)) : Int) < (248 : Int)) = true → s = s ∧ (↑(leN (ldN (bat s (0 : Nat)))) : Int) = (65536 : Int) ∧ (↑(ldN (bat s (0 : Nat))) : Int) = (4 : Int) ∧ (↑(ldV (bat s (0 : Nat))) : Int) = IntKind.wrap IntKind.u32 (IntKind.wrap IntKind.u32 (↑(bat s (0 : Nat)) : Int) - (240 : Int)) ∧ ((0 : Nat) < ByteArray.size s ∧ (2 : Nat) ≤ ldN (bat s (0 : Nat))) ∧ True) ∧ (decide (IntKind.wrap IntKind.u32 (↑(bat s (0 : Nat)) : Int) < (248 : Int)) = false → (↑(ptV s) : Int) = (0 : Int) ∧ (↑(frt s) : Int) = (0 : Int) ∧ True)) ∧ (decide ((240 : Int) ≤ IntKind.wrap IntKind.u32 (↑(bat s (0 : Nat)) : Int)) = false → (↑(ptV s) : Int) = (0 : Int) ∧ (↑(frt s) : Int) = (0 : Int) ∧ True))))) ∧ ∀ (s_1 : Unit), (0 : Nat) < ByteArray.size s ∧ (2 : Nat) ≤ ldN (bat s (0 : Nat)) → (decide ((↑(ByteArray.size s) : Int) < (↑(ldN (bat s (0 : Nat))) : Int)) = true → (↑(ptV s) : Int) = (0 : Int) ∧ (↑(frt s) : Int) = (0 : Int) ∧ True) ∧ (decide ((↑(ByteArray.size s) : Int) < (↑(ldN (bat s (0 : Nat))) : Int)) = false → (s = s ∧ (↑(leN (ldN (bat s (0 : Nat)))) : Int) = (↑(leN (ldN (bat s (0 : Nat)))) : Int) ∧ (↑(ldN (bat s (0 : Nat))) : Int) = (↑(ldN (bat s (0 : Nat))) : Int) ∧ (1 : Int) = (1 : Int) ∧ (↑(ldV (bat s (0 : Nat))) : Int) = (↑(ldV (bat s (0 : Nat))) : Int) ∧ ((1 : Int) ≤ (1 : Int) ∧ (1 : Int) ≤ (↑(ldN (bat s (0 : Nat))) : Int) ∧ ∃ (q : Nat), (↑(ldV (bat s (0 : Nat))) : Int) = (↑q : Int) ∧ vlF s (1 : Nat) = some q) ∧ True) ∧ ∀ (s_2 : Int × Int), ((1 : Int) ≤ Prod.snd s_2 ∧ Prod.snd s_2 ≤ (↑(ldN (bat s (0 : Nat))) : Int) ∧ ∃ (q : Nat), Prod.fst s_2 = (↑q : Int) ∧ vlF s (Int.toNat (Prod.snd s_2)) = some q) → (decide (s_2.2 < (↑(ldN (bat s (0 : Nat))) : Int)) = true → ((0 : Int) ≤ s_2.2 ∧ s_2.2 < (↑(ByteArray.size s) : Int)) ∧ (decide ((↑(bat s (Int.toNat s_2.2)) : Int) < (128 : Int)) = true → (↑(ptV s) : Int) = (0 : Int) ∧ (↑(frt s) : Int) = (0 : Int) ∧ True) ∧ (decide ((↑(bat s (Int.toNat s_2.2)) : Int) < (128 : Int)) = false → ((0 : Int) ≤ s_2.2 ∧ s_2.2 < (↑(ByteArray.size s) : Int)) ∧ (decide ((191 : Int) < (↑(bat s (Int.toNat s_2.2)) : Int)) = true → (↑(ptV s) : Int) = (0 : Int) ∧ (↑(frt s) : Int) = (0 : Int) ∧ True) ∧ (decide ((191 : Int) < (↑(bat s (Int.toNat s_2.2)) : Int)) = false → ((0 : Int) ≤ s_2.2 ∧ s_2.2 < (↑(ByteArray.size s) : Int)) ∧ ((-9223372036854775808 : Int) ≤ s_2.2 + (1 : Int) ∧ s_2.2 + (1 : Int) ≤ (9223372036854775807 : Int)) ∧ s = s ∧ (↑(leN (ldN (bat s (0 : Nat)))) : Int) = (↑(leN (ldN (bat s (0 : Nat)))) : Int) ∧ (↑(ldN (bat s (0 : Nat))) : Int) = (↑(ldN (bat s (0 : Nat))) : Int) ∧ s_2.2 + (1 : Int) = s_2.2 + (1 : Int) ∧ IntKind.wrap IntKind.u32 (IntKind.wrap IntKind.u32 (s_2.1 * (64 : Int)) + IntKind.wrap IntKind.u32 (IntKind.wrap IntKind.u8 ((↑(bat s (Int.toNat s_2.2)) : Int) - (128 : Int)))) = IntKind.wrap IntKind.u32 (IntKind.wrap IntKind.u32 (s_2.1 * (64 : Int)) + IntKind.wrap IntKind.u32 (IntKind.wrap IntKind.u8 ((↑(bat s (Int.toNat s_2.2)) : Int) - (128 : Int)))) ∧ ((1 : Int) ≤ s_2.2 + (1 : Int) ∧ s_2.2 + (1 : Int) ≤ (↑(ldN (bat s (0 : Nat))) : Int) ∧ ∃ (q : Nat), IntKind.wrap IntKind.u32 (IntKind.wrap IntKind.u32 (s_2.1 * (64 : Int)) + IntKind.wrap IntKind.u32 (IntKind.wrap IntKind.u8 ((↑(bat s (Int.toNat s_2.2)) : Int) - (128 : Int)))) = (↑q : Int) ∧ vlF s (Int.toNat (s_2.2 + (1 : Int))) = some q) ∧ (5 : Nat) - Int.toNat (s_2.2 + (1 : Int)) < (5 : Nat) - Int.toNat (Prod.snd s_2) ∧ True))) ∧ (decide (s_2.2 < (↑(ldN (bat s (0 : Nat))) : Int)) = false → (decide (s_2.1 < (↑(leN (ldN (bat s (0 : Nat)))) : Int)) = true → (↑(ptV s) : Int) = (0 : Int) ∧ (↑(frt s) : Int) = (0 : Int) ∧ True) ∧ (decide (s_2.1 < (↑(leN (ldN (bat s (0 : Nat)))) : Int)) = false → (decide ((1114111 : Int) < s_2.1) = true → (↑(ptV s) : Int) = (0 : Int) ∧ (↑(frt s) : Int) = (0 : Int) ∧ True) ∧ (decide ((1114111 : Int) < s_2.1) = false → (decide ((55296 : Int) ≤ s_2.1) = true → (decide (s_2.1 ≤ (57343 : Int)) = true → (↑(ptV s) : Int) = (0 : Int) ∧ (↑(frt s) : Int) = (0 : Int) ∧ True) ∧ (decide (s_2.1 ≤ (57343 : Int)) = false → (↑(ptV s) : Int) = s_2.1 ∧ (↑(frt s) : Int) = (↑(ldN (bat s (0 : Nat))) : Int) ∧ True)) ∧ (decide ((55296 : Int) ≤ s_2.1) = false → (↑(ptV s) : Int) = s_2.1 ∧ (↑(frt s) : Int) = (↑(ldN (bat s (0 : Nat))) : Int) ∧ True))))))) := by kernel_rfl
theorem ldV_2 (b : Nat) : (ldN b = 2 → ldV b < 32) ∧ (ldN b = 3 → ldV b < 16) := by
  have := ld_cases b; omega
theorem vlF_2 (s : ByteArray) (q : Nat) (h : vlF s 2 = some q) (h2 : ldN (bat s 0) = 2) : q < 2048 := by
  have b := (ldV_2 (bat s 0)).1 h2
  simp only [vlF] at h
  split at h
  · rename_i hc
    have hb := bat_lt s 1
    simp only [ctC, Bool.and_eq_true, decide_eq_true_eq] at hc
    cases h
    simp only [Nat.zero_add] at hc ⊢
    omega
  · cases h
theorem vlF_3 (s : ByteArray) (q : Nat) (h : vlF s 3 = some q) (h2 : ldN (bat s 0) = 3) : q < 65536 := by
  have b := (ldV_2 (bat s 0)).2 h2
  simp only [vlF] at h
  split at h
  · rename_i r hr
    split at hr
    · cases hr
      rename_i hc0
      split at h
      · rename_i hc
        have hb := bat_lt s 1
        have hb2 := bat_lt s 2
        simp only [ctC, Bool.and_eq_true, decide_eq_true_eq] at hc hc0
        cases h
        simp only [Nat.zero_add, show 1 + 1 = 2 from rfl] at hc hc0 ⊢
        omega
      · cases h
    · cases hr
  · cases h
theorem isC_of (q : Nat) : isC q = true ↔ q ≤ 1114111 ∧ ¬ (55296 ≤ q ∧ q ≤ 57343) := by
  simp [isC]; omega
theorem ct_of (b : Nat) : ctC b = true ↔ 128 ≤ b ∧ b < 192 := by simp [ctC]
theorem point_ok : CtOK P 50 cPoint := by
  refine ask_ok mixed no_tab (W := wPoint) Go.Proofs.Try.func50 (by kernel_rfl) (by decide) (by decide) (fun c => by kernel_rfl) fun (s : ByteArray) => (point_eq s).mpr ?_
  intro h2
  have b0 := bat_lt s 0
  obtain ⟨n, hn⟩ : ∃ n, n = ldN (bat s 0) := ⟨_, rfl⟩
  have hc := ld_cases (bat s 0)
  have hz : frt s = 0 → ptV s = 0 := fun h => by unfold ptV; rw [if_pos h]
  have hfr : frt s = if s.size < n then 0 else match vlF s n with
    | none => 0
    | some r => if n = 0 ∨ isC r = false ∨ lnN r ≠ n then 0 else n := by rw [hn]; rfl
  rw [← hn] at hc
  have A0 : s.size = 0 → frt s = 0 := fun h => by
    have := bat_out (s := s) (j := 0) (by omega)
    rw [hfr, if_pos (by omega)]
  have A1 : s.size ≠ 0 → bat s 0 < 128 → ptV s = bat s 0 ∧ frt s = 1 := fun h h1 => by
    have e1 : n = 1 := by omega
    have ev : ldV (bat s 0) = bat s 0 := by omega
    have ef : frt s = 1 := by
      rw [hfr, if_neg (by omega), e1]
      simp only [vlF]
      rw [ev, if_neg]
      have hi := (isC_of (bat s 0)).mpr (by omega)
      have hl : lnN (bat s 0) = 1 := by unfold lnN; rw [if_pos h1]
      rw [hi, hl]; simp
    refine ⟨?_, ef⟩
    unfold ptV
    rw [if_neg (by omega), ef]
    simp only [vlF, ev]; rfl
  have A5 : n = 0 → frt s = 0 := fun h => by
    rw [hfr, if_neg (by omega), h]; simp [vlF]
  have hle : (n = 2 → leN n = 128) ∧ (n = 3 → leN n = 2048) ∧ (n = 4 → leN n = 65536) := by
    refine ⟨fun h => ?_, fun h => ?_, fun h => ?_⟩ <;> rw [h] <;> rfl
  have e0 : IntKind.u32.wrap (bat s 0 : Nat) = (bat s 0 : Nat) := by rw [wrap32]; omega
  simp only [Int.toNat_natCast, Int.toNat_zero, and_true, true_and, decide_eq_true_eq, decide_eq_false_iff_not, Bool.not_eq_true', Bool.not_eq_false', e0, ← hn]
  refine ⟨?_, fun g0 => ⟨by omega, ?_, ?_⟩⟩
  · intro h; have := A0 (by omega); have := hz this; omega
  · simp only [wrap32]
    clear hfr A0 e0
    rcases hc with ⟨c1, c2, c3⟩ | ⟨c0, c1, c2, c3⟩ | ⟨c0, c1, c2, c3⟩ | ⟨c0, c1, c2, c3⟩ | ⟨c1, c2⟩
    · obtain ⟨p, f⟩ := A1 (by omega) c1
      clear A1 A5 hle hz
      refine ⟨fun _ => by omega, fun h => absurd (by omega) h⟩
    · have l := hle.1 c2
      clear A1 A5 hle hz
      refine ⟨fun h => by omega, fun h => ⟨fun _ => ⟨fun _ => by omega, fun k => absurd (by omega) k⟩, fun k => absurd (by omega) k⟩⟩
    · have l := hle.2.1 c2
      clear A1 A5 hle hz
      refine ⟨fun h => by omega, fun h => ⟨fun _ => ⟨fun k => by omega, fun _ => ⟨fun _ => ⟨fun _ => by omega, fun k => absurd (by omega) k⟩, fun k => absurd (by omega) k⟩⟩, fun k => absurd (by omega) k⟩⟩
    · have l := hle.2.2 c2
      clear A1 A5 hle hz
      refine ⟨fun h => by omega, fun h => ⟨fun _ => ⟨fun k => by omega, fun _ => ⟨fun _ => ⟨fun k => by omega, fun _ => ⟨fun _ => ⟨fun _ => by omega, fun k => absurd (by omega) k⟩, fun k => absurd (by omega) k⟩⟩, fun k => absurd (by omega) k⟩⟩, fun k => absurd (by omega) k⟩⟩
    · have f := A5 c2
      have p := hz f
      clear A1 A5 hle hz
      repeat' first | intro _ | apply And.intro
      all_goals omega
  · clear A0 A1 A5
    rintro _ ⟨g1, g2⟩
    have Z : frt s = 0 → ((ptV s : Nat) : Int) = 0 ∧ ((frt s : Nat) : Int) = 0 := fun h => by have := hz h; omega
    refine ⟨fun k => Z ?_, fun k => ⟨⟨by omega, by omega, ldV (bat s 0), rfl, rfl⟩, ?_⟩⟩
    · rw [hfr, if_pos (by omega)]
    rw [if_neg (by omega)] at hfr
    rintro ⟨v, i⟩ ⟨i1, i2, q, hq, hv⟩
    simp only at i1 i2 hq hv ⊢
    obtain ⟨m, rfl⟩ := Int.eq_ofNat_of_zero_le (show 0 ≤ i by omega)
    subst hq
    simp only [Int.toNat_natCast, tn1] at hv ⊢
    have hbd := vlF_bd s m q hv (by omega)
    have bm := bat_lt s m
    obtain ⟨m', rfl⟩ : ∃ m', m = m' + 1 := ⟨m - 1, by omega⟩
    have cn : ¬ (128 ≤ bat s (m' + 1) ∧ bat s (m' + 1) < 192) → ((m' + 1 : Nat) : Int) < n → frt s = 0 := fun h hl => by
      have : vlF s (m' + 2) = none := by
        simp only [vlF]; rw [hv]; simp only []
        rw [if_neg (by rw [ct_of]; exact h)]
      rw [hfr, vlF_none s (m' + 2) n (by omega) (by omega) this]
    refine ⟨fun k1 => ⟨by omega, fun k2 => Z (cn (by omega) k1), fun k2 => ⟨by omega, fun k3 => Z (cn (by omega) k1), fun k3 => ⟨by omega, by omega, ⟨by omega, by omega, ?_⟩, by omega⟩⟩⟩, fun k1 => ?_⟩
    · have hq26 : q < 67108864 := by
        have : m' + 1 ≤ 3 := by omega
        rcases m' with _ | _ | _ | m' <;> simp at hbd <;> omega
      refine ⟨q * 64 + (bat s (m' + 1) - 128), ?_, ?_⟩
      · rw [wrap8, wrap32, wrap32, wrap32]; omega
      · simp only [vlF]; rw [hv]; simp only []
        rw [if_pos (by rw [ct_of]; omega)]
    · have em : m' + 1 = n := by omega
      rw [em] at hv hbd
      rw [hv] at hfr
      simp only at hfr
      have nn : n = 2 ∨ n = 3 ∨ n = 4 := by omega
      have ln := lnN_le n q nn hbd (fun h => vlF_2 s q (h ▸ hv) (by omega)) (fun h => vlF_3 s q (h ▸ hv) (by omega))
      have ic := isC_of q
      have bad : ¬ (leN n ≤ q) ∨ ¬ (q ≤ 1114111 ∧ ¬ (55296 ≤ q ∧ q ≤ 57343)) → frt s = 0 := fun h => by
        rw [hfr, if_pos]
        rcases h with h | h
        · exact .inr (.inr fun e => h (ln.mp e))
        · exact .inr (.inl (by rw [← Bool.not_eq_true]; exact fun e => h (ic.mp e)))
      have good : leN n ≤ q → (q ≤ 1114111 ∧ ¬ (55296 ≤ q ∧ q ≤ 57343)) → ((ptV s : Nat) : Int) = q ∧ ((frt s : Nat) : Int) = n := fun h1 h2 => by
        have ef : frt s = n := by
          rw [hfr, if_neg]
          rw [ic.mpr h2, ln.mpr h1]; simp; omega
        refine ⟨?_, by omega⟩
        unfold ptV
        rw [if_neg (by omega), ef, hv]; rfl
      refine ⟨fun c1 => Z (bad (.inl (by omega))), fun c1 => ⟨fun c2 => Z (bad (.inr (by omega))), fun c2 => ⟨fun c3 => ⟨fun c4 => Z (bad (.inr (by omega))), fun c4 => good (by omega) (by omega)⟩, fun c3 => good (by omega) (by omega)⟩⟩⟩
theorem validR_eq (s : ByteArray) : askF P (ctTab [(50, cPoint)]) Go.Proofs.Try.f34 cValid (wValidR) s = (ByteArray.size s < (9223372036854775808 : Nat) → (s = s ∧ (ByteArray.size s ≤ ByteArray.size s ∧ vld s = vld s) ∧ True) ∧ ∀ (s_1 : ByteArray), ByteArray.size s_1 ≤ ByteArray.size s ∧ vld s_1 = vld s → (decide ((0 : Int) < (↑(ByteArray.size s_1) : Int)) = true → s_1 = s_1 ∧ ByteArray.size s_1 < (9223372036854775808 : Nat) ∧ (decide ((↑(frt s_1) : Int) = (0 : Int)) = true → vld s = false ∧ True) ∧ (decide ((↑(frt s_1) : Int) = (0 : Int)) = false → ((0 : Int) ≤ (↑(frt s_1) : Int) ∧ (↑(frt s_1) : Int) ≤ (↑(ByteArray.size s_1) : Int)) ∧ ByteArray.extract s_1 (Int.toNat (↑(frt s_1) : Int)) (ByteArray.size s_1) = ByteArray.extract s_1 (Int.toNat (↑(frt s_1) : Int)) (ByteArray.size s_1) ∧ (ByteArray.size (ByteArray.extract s_1 (Int.toNat (↑(frt s_1) : Int)) (ByteArray.size s_1)) ≤ ByteArray.size s ∧ vld (ByteArray.extract s_1 (Int.toNat (↑(frt s_1) : Int)) (ByteArray.size s_1)) = vld s) ∧ ByteArray.size (ByteArray.extract s_1 (Int.toNat (↑(frt s_1) : Int)) (ByteArray.size s_1)) < ByteArray.size s_1 ∧ True)) ∧ (decide ((0 : Int) < (↑(ByteArray.size s_1) : Int)) = false → vld s = true ∧ True)) := by kernel_rfl
theorem validR_ok : CtOK P 34 cValid := by
  refine ask_ok mixed (ctTab_ok (forall_tab point_ok nil_tab)) (W := wValidR) Go.Proofs.Try.func34 (by kernel_rfl) (by decide) (by decide) (fun c => by kernel_rfl) fun (s : ByteArray) => (validR_eq s).mpr ?_
  intro h
  simp only [Int.toNat_natCast, and_true, true_and, decide_eq_true_eq, decide_eq_false_iff_not]
  refine ⟨Nat.le_refl _, fun t ht => ⟨fun g => ⟨by omega, fun g2 => ?_, fun g2 => ?_⟩, fun g => ?_⟩⟩
  · rw [← ht.2, vld_step t (by omega), if_pos (by omega)]
  · have := frt_le t
    rw [← ht.2, vld_step t (by omega), if_neg (by omega)]
    refine ⟨by omega, ⟨?_, rfl⟩, ?_⟩
    · simp; omega
    · simp; omega
  · rw [← ht.2]; exact vld_nil t (by omega)
theorem dec_iff {p q : Prop} [Decidable p] [Decidable q] (h : p ↔ q) : decide p = decide q := by simp [h]
/-! Rows in public memory. -/
noncomputable abbrev svV (x : SV) : Value := .slice x.1 x.2.1 x.2.2
noncomputable abbrev svA (x : SV) : AV := .sv (.slice x.1 x.2.1 x.2.2)
noncomputable def txV (s : ByteArray) : List Value := [.string s]
noncomputable def inV (i : Int) : List Value := [.int .i64 i]
/-- A slice, told row by row. -/
noncomputable def slP {α : Type} (f : α → List Value) (x : SV) (l : List α) (p : Pub) : Prop := x.2.1 = l.length ∧ sliP p x.1 x.2.1 x.2.2 (rowsV f l)
theorem slP_mono {α : Type} {f : α → List Value} {x : SV} {l : List α} {p q : Pub} (h : Pub.le p q) (e : slP f x l p) : slP f x l q := ⟨e.1, sliP_mono h e.2⟩
theorem slP_at {α : Type} {f : α → List Value} {e : Nat} (hf : ∀ x, (f x).length = e) (he : 0 < e) {p : Pub} {x : SV} {l : List α} (h : slP f x l p) {i : Nat} (hi : i < l.length) : x.1 ≠ noA ∧ cellsP p (adr x.1 (i * e)) (f l[i]) := rows_cells hf he h.2 hi
theorem slP_nil {α : Type} {f : α → List Value} {p : Pub} : slP f (none, 0, 0) [] p := ⟨rfl, Nat.le_refl _, .inl ⟨rfl, Pl_none⟩⟩
theorem slP_Pl {α : Type} {f : α → List Value} {x : SV} {l : List α} {p : Pub} (h : slP f x l p) : Pl x.1 := Sen.rowP_Pl h.2.2
/-! Trees of texts and numbers. -/
inductive GJ where
  | mk (k n : Int) (s : ByteArray) (y : SV) (l : List GJ) (x : SV) (nm : List ByteArray)
noncomputable def GJ.k : GJ → Int | .mk k _ _ _ _ _ _ => k
noncomputable def GJ.n : GJ → Int | .mk _ n _ _ _ _ _ => n
noncomputable def GJ.s : GJ → ByteArray | .mk _ _ s _ _ _ _ => s
noncomputable def GJ.y : GJ → SV | .mk _ _ _ y _ _ _ => y
noncomputable def GJ.l : GJ → List GJ | .mk _ _ _ _ l _ _ => l
noncomputable def GJ.x : GJ → SV | .mk _ _ _ _ _ x _ => x
noncomputable def GJ.nm : GJ → List ByteArray | .mk _ _ _ _ _ _ nm => nm
noncomputable def GJ.cells (g : GJ) : List Value := [.int .i64 g.k, .int .i64 g.n, .string g.s, svV g.y, svV g.x]
noncomputable def GJ.av (g : GJ) : AV := .agg [.sv (.int .i64 g.k), .sv (.int .i64 g.n), .sv (.string g.s), svA g.y, svA g.x]
mutual
noncomputable def GJ.ok : GJ → Pub → Prop
  | .mk k n s y l x nm, p => slP GJ.cells y l p ∧ slP txV x nm p ∧ GJ.oks l p
noncomputable def GJ.oks : List GJ → Pub → Prop
  | [], _ => True
  | g :: l, p => GJ.ok g p ∧ GJ.oks l p
end
mutual
theorem GJ.ok_mono : ∀ {g : GJ} {p q : Pub}, Pub.le p q → g.ok p → g.ok q
  | .mk k n s y l x nm, p, q, h, e => by
    unfold GJ.ok at e ⊢
    exact ⟨slP_mono h e.1, slP_mono h e.2.1, GJ.oks_mono h e.2.2⟩
theorem GJ.oks_mono : ∀ {l : List GJ} {p q : Pub}, Pub.le p q → GJ.oks l p → GJ.oks l q
  | [], p, q, h, e => by unfold GJ.oks; trivial
  | g :: l, p, q, h, e => by
    unfold GJ.oks at e ⊢
    exact ⟨GJ.ok_mono h e.1, GJ.oks_mono h e.2⟩
end
/-! Schemas. -/
structure AF where
  nm : ByteArray
  al : SV
  als : List ByteArray
  ty : Int
  hd : Bool
  df : GJ
noncomputable def AF.cells (f : AF) : List Value := [.string f.nm, svV f.al, .int .i64 f.ty, .bool f.hd, .int .i64 f.df.k, .int .i64 f.df.n, .string f.df.s, svV f.df.y, svV f.df.x]
noncomputable def AF.av (f : AF) : AV := .agg [.sv (.string f.nm), svA f.al, .sv (.int .i64 f.ty), .sv (.bool f.hd), .sv (.int .i64 f.df.k), .sv (.int .i64 f.df.n), .sv (.string f.df.s), svA f.df.y, svA f.df.x]
noncomputable def AF.ok (f : AF) (p : Pub) : Prop := slP txV f.al f.als p ∧ f.df.ok p
structure AT where
  k : Int
  nm : ByteArray
  al : SV
  als : List ByteArray
  it : Int
  sy : SV
  sys : List ByteArray
  hd : Bool
  df : ByteArray
  sz : Int
  f : SV
  fs : List AF
  br : SV
  brs : List Int
noncomputable def AT.cells (e : AT) : List Value := [.int .i64 e.k, .string e.nm, svV e.al, .int .i64 e.it, svV e.sy, .bool e.hd, .string e.df, .int .i64 e.sz, svV e.f, svV e.br]
noncomputable def AT.av (e : AT) : AV := .agg [.sv (.int .i64 e.k), .sv (.string e.nm), svA e.al, .sv (.int .i64 e.it), svA e.sy, .sv (.bool e.hd), .sv (.string e.df), .sv (.int .i64 e.sz), svA e.f, svA e.br]
noncomputable def AT.ok (e : AT) (p : Pub) : Prop := slP txV e.al e.als p ∧ slP txV e.sy e.sys p ∧ slP AF.cells e.f e.fs p ∧ slP inV e.br e.brs p ∧ ∀ f ∈ e.fs, f.ok p
theorem AT.ok_mono {e : AT} {p q : Pub} (h : Pub.le p q) (g : e.ok p) : e.ok q := ⟨slP_mono h g.1, slP_mono h g.2.1, slP_mono h g.2.2.1, slP_mono h g.2.2.2.1, fun f hf => ⟨slP_mono h (g.2.2.2.2 f hf).1, GJ.ok_mono h (g.2.2.2.2 f hf).2⟩⟩
noncomputable def schP (S : List AT) (x : SV) (p : Pub) : Prop := slP AT.cells x S p ∧ ∀ e ∈ S, e.ok p
theorem schP_mono {S : List AT} {x : SV} {p q : Pub} (h : Pub.le p q) (g : schP S x p) : schP S x q := ⟨slP_mono h g.1, fun e he => AT.ok_mono h (g.2 e he)⟩
theorem at_len (e : AT) : e.cells.length = 10 := rfl
theorem af_len (f : AF) : f.cells.length = 9 := rfl
theorem tx_len (s : ByteArray) : (txV s).length = 1 := rfl
theorem in_len (i : Int) : (inV i).length = 1 := rfl
theorem gj_len (g : GJ) : g.cells.length = 5 := rfl
/-- A schema's numbers are such as fit. -/
noncomputable def small (S : List AT) : Prop := S.length < 1000000 ∧ ∀ e ∈ S, e.fs.length < 1000000 ∧ e.brs.length < 1000000 ∧ e.sys.length < 1000000
/-! Values. -/
inductive GV where
  | mk (n : Int) (s : ByteArray) (x : SV) (l : List GV) (y : SV) (ks : List ByteArray) (b : Int)
inductive PV where
  | mk (n : Int) (s : ByteArray) (l : List PV) (ks : List ByteArray) (b : Int)
noncomputable def GV.n : GV → Int | .mk n _ _ _ _ _ _ => n
noncomputable def GV.s : GV → ByteArray | .mk _ s _ _ _ _ _ => s
noncomputable def GV.x : GV → SV | .mk _ _ x _ _ _ _ => x
noncomputable def GV.l : GV → List GV | .mk _ _ _ l _ _ _ => l
noncomputable def GV.y : GV → SV | .mk _ _ _ _ y _ _ => y
noncomputable def GV.ks : GV → List ByteArray | .mk _ _ _ _ _ ks _ => ks
noncomputable def GV.b : GV → Int | .mk _ _ _ _ _ _ b => b
noncomputable def GV.cells (v : GV) : List Value := [.int .u64 v.n, .string v.s, svV v.x, svV v.y, .int .i64 v.b]
noncomputable def GV.av (v : GV) : AV := .agg [.sv (.int .u64 v.n), .sv (.string v.s), svA v.x, svA v.y, .sv (.int .i64 v.b)]
theorem gv_len (v : GV) : v.cells.length = 5 := rfl
mutual
noncomputable def GV.ok : GV → Pub → Prop
  | .mk n s x l y ks b, p => slP GV.cells x l p ∧ slP txV y ks p ∧ GV.oks l p
noncomputable def GV.oks : List GV → Pub → Prop
  | [], _ => True
  | v :: l, p => GV.ok v p ∧ GV.oks l p
end
mutual
theorem GV.ok_mono : ∀ {v : GV} {p q : Pub}, Pub.le p q → v.ok p → v.ok q
  | .mk n s x l y ks b, p, q, h, e => by
    unfold GV.ok at e ⊢
    exact ⟨slP_mono h e.1, slP_mono h e.2.1, GV.oks_mono h e.2.2⟩
theorem GV.oks_mono : ∀ {l : List GV} {p q : Pub}, Pub.le p q → GV.oks l p → GV.oks l q
  | [], p, q, h, e => by unfold GV.oks; trivial
  | g :: l, p, q, h, e => by
    unfold GV.oks at e ⊢
    exact ⟨GV.ok_mono h e.1, GV.oks_mono h e.2⟩
end
theorem GV.ok_eq (v : GV) (p : Pub) : v.ok p = (slP GV.cells v.x v.l p ∧ slP txV v.y v.ks p ∧ GV.oks v.l p) := by cases v; unfold GV.ok; rfl
theorem GV.oks_at : ∀ {l : List GV} {p : Pub}, GV.oks l p → ∀ {i : Nat} (h : i < l.length), l[i].ok p
  | v :: l, p, e, 0, h => by unfold GV.oks at e; exact e.1
  | v :: l, p, e, i + 1, h => by unfold GV.oks at e; exact GV.oks_at e.2 (by simpa using h)
mutual
noncomputable def GV.pv : GV → PV
  | .mk n s x l y ks b => .mk n s (GV.pvs l) ks b
noncomputable def GV.pvs : List GV → List PV
  | [] => []
  | v :: l => GV.pv v :: GV.pvs l
end
theorem GV.pv_eq (v : GV) : v.pv = .mk v.n v.s (GV.pvs v.l) v.ks v.b := by cases v; rw [GV.pv]; rfl
theorem GV.pvs_map : ∀ l : List GV, GV.pvs l = l.map GV.pv
  | [] => by rw [GV.pvs]; rfl
  | v :: l => by rw [GV.pvs, GV.pvs_map l]; rfl
theorem GV.pvs_len (l : List GV) : (GV.pvs l).length = l.length := by rw [GV.pvs_map, List.length_map]
mutual
/-- Numbers that fit, texts and rows that are not too long. -/
noncomputable def PV.sm : PV → Prop
  | .mk n s l ks b => (0 ≤ n ∧ n < 18446744073709551616) ∧ s.size < 9223372036854775808 ∧ l.length < 4611686018427387904 ∧ ks.length < 4611686018427387904 ∧ (∀ k ∈ ks, k.size < 9223372036854775808) ∧ PV.sms l
noncomputable def PV.sms : List PV → Prop
  | [] => True
  | v :: l => PV.sm v ∧ PV.sms l
end
theorem PV.sms_at : ∀ {l : List PV}, PV.sms l → ∀ {i : Nat} (h : i < l.length), l[i].sm
  | v :: l, e, 0, h => by unfold PV.sms at e; exact e.1
  | v :: l, e, i + 1, h => by unfold PV.sms at e; exact PV.sms_at e.2 (by simpa using h)
theorem GV.sm_eq (v : GV) : v.pv.sm = ((0 ≤ v.n ∧ v.n < 18446744073709551616) ∧ v.s.size < 9223372036854775808 ∧ v.l.length < 4611686018427387904 ∧ v.ks.length < 4611686018427387904 ∧ (∀ k ∈ v.ks, k.size < 9223372036854775808) ∧ PV.sms (GV.pvs v.l)) := by rw [GV.pv_eq, PV.sm, GV.pvs_len]
theorem GV.sm_at {v : GV} (h : v.pv.sm) {i : Nat} (hi : i < v.l.length) : v.l[i].pv.sm := by
  rw [GV.sm_eq] at h
  have := PV.sms_at h.2.2.2.2.2 (i := i) (by rw [GV.pvs_len]; exact hi)
  simpa [GV.pvs_map] using this
theorem GV.ok_at {v : GV} {p : Pub} (h : v.ok p) {i : Nat} (hi : i < v.l.length) : v.l[i].ok p := by
  rw [GV.ok_eq] at h; exact GV.oks_at h.2.2 hi
theorem GV.cells_at {v : GV} {p : Pub} (h : v.ok p) {i : Nat} (hi : i < v.l.length) : v.x.1 ≠ noA ∧ cellsP p (adr v.x.1 (i * 5)) v.l[i].cells := by
  rw [GV.ok_eq] at h; exact slP_at gv_len (by decide) h.1 hi
theorem GV.x_len {v : GV} {p : Pub} (h : v.ok p) : v.x.2.1 = v.l.length := by rw [GV.ok_eq] at h; exact h.1.1
theorem GV.y_len {v : GV} {p : Pub} (h : v.ok p) : v.y.2.1 = v.ks.length := by rw [GV.ok_eq] at h; exact h.2.1.1
/-! What fits. -/
/-- The sizes that a value's number may have. -/
noncomputable def okN (a : AT) (n : Int) : Bool := if a.k = 1 then decide (n = 0) else if a.k = 2 then decide (n ≤ 1) else if a.k = 3 then decide (n < 2147483648 ∨ 18446744071562067968 ≤ n) else if a.k = 5 then decide (n < 4294967296) else if a.k = 10 then decide (n < a.sys.length) else true
noncomputable def okT (a : AT) (s : ByteArray) : Bool := if a.k = 8 then vld s else if a.k = 11 then decide ((s.size : Int) = a.sz) else true
noncomputable def keyF : List ByteArray → Bool
  | [] => true
  | [k] => vld k
  | k :: j :: l => vld k && sLess k j && keyF (j :: l)
noncomputable def okP (a : AT) (n : Nat) (ks : List ByteArray) (b : Int) : Bool :=
  if ks.length > 0 ∧ a.k ≠ 13 ∨ b ≠ 0 ∧ a.k ≠ 14 then false else
  if a.k = 9 then decide (n = a.fs.length) else if a.k = 14 then decide (0 ≤ b ∧ b < a.brs.length ∧ n = 1) else if a.k = 13 then decide (n = ks.length) && keyF ks else true
noncomputable def isN (k : Int) : Bool := decide (k = 1 ∨ k = 2 ∨ k = 3 ∨ k = 4 ∨ k = 5 ∨ k = 6 ∨ k = 10)
noncomputable def isT (k : Int) : Bool := decide (k = 7 ∨ k = 8 ∨ k = 11)
noncomputable def isQ (k : Int) : Bool := decide (k = 9 ∨ k = 12 ∨ k = 13 ∨ k = 14)
noncomputable def noPt (n m : Nat) (b : Int) : Bool := decide (n = 0) && decide (m = 0) && decide (b = 0)
/-- Of which type a part is. -/
noncomputable def tyOf (a : AT) (b : Int) (i : Nat) : Int := if a.k = 9 then (match a.fs[i]? with | some f => f.ty | none => 0) else if a.k = 14 then a.brs.getD b.toNat 0 else a.it
mutual
noncomputable def PV.fits (S : List AT) (t : Int) : PV → Bool
  | .mk n s l ks b => if t < 0 ∨ S.length ≤ t then false else match S[t.toNat]? with
    | none => false
    | some a => if isN a.k = true then okN a n && decide (s.size = 0) && noPt l.length ks.length b else
      if isT a.k = true then okT a s && decide (n = 0) && noPt l.length ks.length b else
      if isQ a.k = true then okP a l.length ks b && PV.fitL S (tyOf a b) 0 l && decide (n = 0) && decide (s.size = 0) else false
noncomputable def PV.fitL (S : List AT) (f : Nat → Int) (i : Nat) : List PV → Bool
  | [] => true
  | v :: l => PV.fits S (f i) v && PV.fitL S f (i + 1) l
end
mutual
noncomputable def PV.same : PV → PV → Bool
  | .mk n s l ks b, .mk n' s' l' ks' b' => decide (n = n') && decide (s = s') && decide (b = b') && decide (ks = ks') && PV.sames l l'
noncomputable def PV.sames : List PV → List PV → Bool
  | [], [] => true
  | v :: l, w :: m => PV.same v w && PV.sames l m
  | _, _ => false
end
/-! aval: contracts. -/
noncomputable def txM (y : SV) (ks : List ByteArray) : PF := ⟨true, slP txV y ks, fun _ _ h e => slP_mono h e⟩
noncomputable def vM (v : GV) : PF := ⟨true, v.ok, fun _ _ h e => GV.ok_mono h e⟩
noncomputable def svM (S : List AT) (x : SV) (v : GV) : PF := ⟨true, fun p => schP S x p ∧ v.ok p, fun _ _ h e => ⟨schP_mono h e.1, GV.ok_mono h e.2⟩⟩
noncomputable def savM (S : List AT) (x : SV) (a : AT) (v : GV) : PF := ⟨true, fun p => schP S x p ∧ a.ok p ∧ v.ok p, fun _ _ h e => ⟨schP_mono h e.1, AT.ok_mono h e.2.1, GV.ok_mono h e.2.2⟩⟩
noncomputable def vwM (v w : GV) : PF := ⟨true, fun p => v.ok p ∧ w.ok p, fun _ _ h e => ⟨GV.ok_mono h e.1, GV.ok_mono h e.2⟩⟩
noncomputable def vsM (x : SV) (l : List GV) (y : SV) (m : List GV) : PF := ⟨true, fun p => (slP GV.cells x l p ∧ GV.oks l p) ∧ slP GV.cells y m p ∧ GV.oks m p, fun _ _ h e => ⟨⟨slP_mono h e.1.1, GV.oks_mono h e.1.2⟩, slP_mono h e.2.1, GV.oks_mono h e.2.2⟩⟩
noncomputable def ttM (x : SV) (l : List ByteArray) (y : SV) (m : List ByteArray) : PF := ⟨true, fun p => slP txV x l p ∧ slP txV y m p, fun _ _ h e => ⟨slP_mono h e.1, slP_mono h e.2⟩⟩
noncomputable abbrev scA (x : SV) : AV := .agg [svA x]
/-- Without own memory. -/
noncomputable def ctP (σ : Type) (args : σ → List AV) (pre : σ → Prop) (mem : σ → PF) (r : σ → AV) : Ct where
  σ := σ
  args := args
  h := fun _ => []
  m := 1
  pre := pre
  mem := mem
  r := r
  h' := fun _ => []
  m' := 1
  g := fun _ => none
noncomputable def cWhole : Ct := ctP GV (fun v => [v.av]) (fun _ => True) (fun _ => {}) fun v => .sv (.bool (noPt v.x.2.1 v.y.2.1 v.b))
noncomputable def cFitsN : Ct := ctP (AT × Int) (fun ⟨a, n⟩ => [a.av, .sv (.int .u64 n)]) (fun ⟨a, n⟩ => 0 ≤ n ∧ n < 18446744073709551616 ∧ a.sy.2.1 = a.sys.length ∧ a.sys.length < 1000000) (fun _ => {}) fun ⟨a, n⟩ => .sv (.bool (okN a n))
noncomputable def cFitsT : Ct := ctP (AT × ByteArray) (fun ⟨a, s⟩ => [a.av, .sv (.string s)]) (fun ⟨a, s⟩ => s.size < 9223372036854775808) (fun _ => {}) fun ⟨a, s⟩ => .sv (.bool (okT a s))
noncomputable def cKeys : Ct := ctP (SV × List ByteArray) (fun ⟨y, ks⟩ => [svA y]) (fun ⟨y, ks⟩ => ks.length < 4611686018427387904 ∧ ∀ k ∈ ks, k.size < 9223372036854775808) (fun ⟨y, ks⟩ => txM y ks) fun ⟨y, ks⟩ => .sv (.bool (keyF ks))
noncomputable abbrev FpS := List AT × SV × AT × GV
noncomputable def cFitsP : Ct := ctP FpS (fun ⟨S, x, a, v⟩ => [scA x, a.av, v.av]) (fun ⟨S, x, a, v⟩ => small S ∧ a.fs.length < 1000000 ∧ v.pv.sm ∧ isQ a.k = true) (fun ⟨S, x, a, v⟩ => savM S x a v) fun ⟨S, x, a, v⟩ => .sv (.bool (okP a v.l.length v.ks v.b && PV.fitL S (tyOf a v.b) 0 (GV.pvs v.l)))
noncomputable abbrev FtS := List AT × SV × Int × GV
noncomputable def cFits : Ct := ctP FtS (fun ⟨S, x, t, v⟩ => [scA x, .sv (.int .i64 t), v.av]) (fun ⟨S, x, t, v⟩ => small S ∧ v.pv.sm) (fun ⟨S, x, t, v⟩ => svM S x v) fun ⟨S, x, t, v⟩ => .sv (.bool (PV.fits S t v.pv))
noncomputable def muFp : FpS → Nat := fun ⟨S, x, a, v⟩ => SizeOf.sizeOf v
noncomputable def muFt : FtS → Nat := fun ⟨S, x, t, v⟩ => SizeOf.sizeOf v
noncomputable def wKeys : cKeys.σ → WayF := fun ⟨y, ks⟩ => {
  ann := fun _ _ _ => some { σ := Nat, pre := fun j => j ≤ ks.length ∧ keyF ks = (if j = 0 then keyF ks else keyF (ks.drop (j - 1))) ∧ (∀ (h : 0 < j) (h2 : j ≤ ks.length), vld ks[j - 1] = true), t := fun j => [(7, .sv (.int .i64 (j : Int)))], h := fun _ => [], more := 0, μ := fun j => ks.length - j, keep := [0, 2, 5, 6] } }
noncomputable def wFitsP : FpS → WayF := fun ⟨S, x, a, v⟩ => {
  ann := fun id _ _ => match id with
    | 1 => some { σ := Nat, pre := fun j => j ≤ a.fs.length ∧ v.l.length = a.fs.length ∧ PV.fitL S (tyOf a v.b) j ((GV.pvs v.l).drop j) = PV.fitL S (tyOf a v.b) 0 (GV.pvs v.l), t := fun j => [(44, .sv (.int .i64 (j : Int)))], h := fun _ => [], more := 0, μ := fun j => a.fs.length - j, keep := [3, 4, 5, 6, 42, 43] }
    | _ => some { σ := Nat, pre := fun j => j ≤ v.l.length ∧ PV.fitL S (tyOf a v.b) j ((GV.pvs v.l).drop j) = PV.fitL S (tyOf a v.b) 0 (GV.pvs v.l), t := fun j => [(111, .sv (.int .i64 (j : Int)))], h := fun _ => [], more := 0, μ := fun j => v.l.length - j, keep := [3, 4, 5, 6, 109, 110] }
  cut := fun i t _ => match i with
    | 3 => some { σ := Unit, pre := fun _ => ¬ (0 < v.ks.length ∧ a.k ≠ 13 ∨ v.b ≠ 0 ∧ a.k ≠ 14), t := fun _ => [], h := fun _ => [], more := 0, μ := fun _ => 0, keep := [3, 4, 5, 6] }
    | 19 => some { σ := Unit, pre := fun _ => a.k ≠ 9 ∧ a.k ≠ 14 ∧ okP a v.l.length v.ks v.b = true, t := fun _ => [], h := fun _ => [], more := 0, μ := fun _ => 0, keep := [3, 4, 5, 6] }
    | _ => none }
noncomputable def swc (f : Int → Bool) (i k : Nat) (keep : List Nat) (t : T AV) : Option LT := match slI t k with
  | some a => some { σ := Unit, t := fun _ => [(i, .sv (.bool (f a)))], h := fun _ => [], more := 0, μ := fun _ => 0, keep := keep }
  | none => none
noncomputable def wFits : FtS → WayF := fun ⟨S, x, t, v⟩ => {
  cut := fun i t _ => match i with
    | 12 => swc isN 24 23 [3, 5, 6, 7, 23] t
    | 16 => swc isT 45 23 [3, 5, 6, 7, 23] t
    | 21 => swc isQ 62 23 [3, 5, 6, 7, 23] t
    | _ => none }
/-! The same. -/
noncomputable def cEqS : Ct := ctP (SV × List ByteArray × SV × List ByteArray) (fun ⟨x, l, y, m⟩ => [svA x, svA y]) (fun ⟨x, l, y, m⟩ => l.length < 4611686018427387904 ∧ m.length < 4611686018427387904) (fun ⟨x, l, y, m⟩ => ttM x l y m) fun ⟨x, l, y, m⟩ => .sv (.bool (decide (l = m)))
noncomputable def wEqS : cEqS.σ → WayF := fun ⟨x, l, y, m⟩ => {
  ann := fun _ _ _ => some { σ := Nat, pre := fun j => j ≤ l.length ∧ l.length = m.length ∧ l.take j = m.take j, t := fun j => [(13, .sv (.int .i64 (j : Int)))], h := fun _ => [], more := 0, μ := fun j => l.length - j, keep := [0, 1, 4, 11, 12] } }
noncomputable abbrev EfS := SV × List GV × SV × List GV
noncomputable def cEqF : Ct := ctP EfS (fun ⟨x, l, y, m⟩ => [svA x, svA y, .fn 16 []]) (fun ⟨x, l, y, m⟩ => (l.length < 4611686018427387904 ∧ PV.sms (GV.pvs l)) ∧ m.length < 4611686018427387904 ∧ PV.sms (GV.pvs m)) (fun ⟨x, l, y, m⟩ => vsM x l y m) fun ⟨x, l, y, m⟩ => .sv (.bool (PV.sames (GV.pvs l) (GV.pvs m)))
noncomputable def wEqF : EfS → WayF := fun ⟨x, l, y, m⟩ => {
  ann := fun _ _ _ => some { σ := Nat, pre := fun j => j ≤ l.length ∧ l.length = m.length ∧ PV.sames ((GV.pvs l).drop j) ((GV.pvs m).drop j) = PV.sames (GV.pvs l) (GV.pvs m), t := fun j => [(17, .sv (.int .i64 (j : Int)))], h := fun _ => [], more := 0, μ := fun j => l.length - j, keep := [0, 1, 2, 6, 15, 16] } }
noncomputable def cSame : Ct := ctP (GV × GV) (fun ⟨v, w⟩ => [v.av, w.av]) (fun ⟨v, w⟩ => v.pv.sm ∧ w.pv.sm) (fun ⟨v, w⟩ => vwM v w) fun ⟨v, w⟩ => .sv (.bool (PV.same v.pv w.pv))
noncomputable def muEf : EfS → Nat := fun ⟨x, l, y, m⟩ => SizeOf.sizeOf l
noncomputable def muSa : GV × GV → Nat := fun ⟨v, w⟩ => SizeOf.sizeOf v
end Go.Proofs.Ytabfjgbidbibgaa.Wd
