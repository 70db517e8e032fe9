/-
  What the functions do: contracts, and their questions answered. No condition but what its theorems ask.
-/
import Derived.Test.YtjjambbdkbpdgaaU6
import Derived.Test.YtjjambbdkbpdgaaProg
import Derived.Laws.BitsAllLaws
import Derived.Lib.Index
import Derived.Test.YtjjambbdkbpdgaaSh
namespace Go.Proofs.Ytjjambbdkbpdgaa.Wd
open Go.Proofs.Ytjjambbdkbpdgaa.Eng Go.Proofs.Ytjjambbdkbpdgaa.Sen Go.RowKit
set_option linter.unusedVariables false
set_option linter.unusedSimpArgs false
set_option maxRecDepth 1000000
/-! The words of a schema's text: what is said of them. -/
noncomputable abbrev P := Go.Proofs.Try.prog
theorem mixed : P.follows .mixedOrders = true := by decide +kernel
noncomputable def isLet (c : Nat) : Bool := (c == 95) || (decide (65 ≤ c) && decide (c ≤ 90)) || (decide (97 ≤ c) && decide (c ≤ 122))
noncomputable def isDig (c : Nat) : Bool := decide (48 ≤ c) && decide (c ≤ 57)
noncomputable def isSp (c : Nat) : Bool := (decide (9 ≤ c) && decide (c ≤ 13)) || (c == 32)
/-- A digit's worth; 16: none. -/
noncomputable def dv (c : Nat) : Nat := if 48 ≤ c ∧ c ≤ 57 then c - 48 else if 65 ≤ c ∧ c ≤ 70 then c - 55 else if 97 ≤ c ∧ c ≤ 102 then c - 87 else 16
/-- Is a byte of a name there? -/
noncomputable def nmC (s : ByteArray) (j : Nat) : Bool := isLet (bat s j) || isDig (bat s j) || ((bat s j == 46) && isLet (bat s (j + 1)))
noncomputable def nmF (s : ByteArray) : Nat → Nat → Nat
  | 0, j => j
  | f + 1, j => if nmC s j then nmF s f (j + 1) else j
noncomputable def nmE (s : ByteArray) (j : Nat) : Nat := nmF s (s.size - j) j
/-- Digits, from there on: where they end, what they are worth. -/
noncomputable def dgF (s : ByteArray) (B : Nat) : Nat → Nat → Nat → Nat × Nat
  | 0, j, v => (j, v)
  | f + 1, j, v => if dv (bat s j) < B then dgF s B f (j + 1) (v * B + dv (bat s j)) else (j, v)
noncomputable def dgE (s : ByteArray) (B j v : Nat) : Nat × Nat := dgF s B (s.size - j) j v
noncomputable def nbB (s : ByteArray) (i : Nat) : Nat := if bat s i = 48 then (if dv (bat s (i + 2)) < 16 ∧ (bat s (i + 1) = 120 ∨ bat s (i + 1) = 88) then 16 else 8) else 10
noncomputable def nbO (s : ByteArray) (i : Nat) : Nat := if bat s i = 48 then (if dv (bat s (i + 2)) < 16 ∧ (bat s (i + 1) = 120 ∨ bat s (i + 1) = 88) then 2 else 1) else 0
/-- A number: its error, its worth, where it ends. -/
noncomputable def nbR (s : ByteArray) (i : Nat) : Nat × Nat × Nat :=
  let r := dgE s (nbB s i) (i + nbO s i) 0
  if 18446744073709551616 ≤ r.2 then (3, 0, i) else
  if isLet (bat s r.1) || isDig (bat s r.1) || (bat s r.1 == 46) then (2, 0, i) else (0, r.2, r.1)
/-- A byte behind a backslash. -/
noncomputable def esc (c : Nat) : Option Nat := if c = 92 ∨ c = 34 ∨ c = 39 then some c else if c = 110 then some 10 else none
/-- A text's bytes, and where it ends. -/
noncomputable def txF (s : ByteArray) (q : Nat) : Nat → Nat → List Nat → Option (List Nat × Nat)
  | 0, _, _ => none
  | f + 1, j, acc => if j < s.size then
      if bat s j = q then some (acc, j + 1) else if bat s j = 10 then none else if bat s j = 92 then
        match esc (bat s (j + 1)) with
        | some c => txF s q f (j + 2) (acc ++ [c])
        | none => none
      else txF s q f (j + 1) (acc ++ [bat s j])
    else none
noncomputable def txE (s : ByteArray) (q j : Nat) (acc : List Nat) : Option (List Nat × Nat) := txF s q (s.size + 1 - j) j acc
noncomputable def bs (l : List Nat) : ByteArray := ⟨⟨l.map UInt8.ofNat⟩⟩
/-- A token: kind, text, number, place. -/
noncomputable def tokA (k : Nat) (t : ByteArray) (n a : Nat) : AV := .agg [.sv (.int .i64 (k : Nat)), .sv (.string t), .sv (.int .u64 (n : Nat)), .sv (.int .i64 (a : Nat))]
noncomputable def cur (s : ByteArray) (i : Int) : List (Nat × AO) := [(1, .cells 46 (some 0) false [.sv (.string s), .sv (.int .i64 i)])]
/-- What a cursor holds. -/
noncomputable def curOf (h : T AO) (id : Nat) : Option (ByteArray × Int) := match h.get id with
  | some (.cells _ _ _ [a, b]) => match gs a with
    | some s => match gi b with
      | some (_, i) => some (s, i)
      | none => none
    | none => none
  | _ => none
noncomputable def cByteAt : Ct where
  σ := ByteArray × Int × Int
  args := fun ⟨s, i, d⟩ => [.ptr 1 0, .sv (.int .i64 d)]
  h := fun ⟨s, i, d⟩ => cur s i
  m := 2
  pre := fun ⟨s, i, d⟩ => 0 ≤ i ∧ i ≤ s.size ∧ s.size < 1000000 ∧ 0 ≤ d ∧ d < 1000000
  find := some fun l h => match l with
    | [.ptr id _, a] => match gi a with
      | some (_, d) => match curOf h id with
        | some (s, i) => some (s, i, d)
        | none => none
      | none => none
    | _ => none
  r := fun ⟨s, i, d⟩ => .sv (.int .u8 (bat s (i + d).toNat : Nat))
  h' := fun ⟨s, i, d⟩ => cur s i
  m' := 2
  g := fun _ => none
/-- A method of the cursor. -/
noncomputable def ctCur (pre : ByteArray → Int → Prop) (r : ByteArray → Int → AV) (to : ByteArray → Int → Int) : Ct where
  σ := ByteArray × Int
  args := fun ⟨s, i⟩ => [.ptr 1 0]
  h := fun ⟨s, i⟩ => cur s i
  m := 2
  pre := fun ⟨s, i⟩ => pre s i
  find := some fun l h => match l with
    | [.ptr id _] => curOf h id
    | _ => none
  r := fun ⟨s, i⟩ => r s i
  h' := fun ⟨s, i⟩ => cur s (to s i)
  m' := 2
  g := fun _ => none
noncomputable def cLeft : Ct := ctCur (fun s i => 0 ≤ i ∧ i ≤ s.size) (fun s i => .sv (.string (s.extract i.toNat s.size))) fun s i => i
noncomputable def hasPre (s p : ByteArray) : Bool := decide (p.size ≤ s.size) && decide (s.extract 0 p.size = p)
noncomputable def f1s : List Value → Option ByteArray
  | [.string s] => some s
  | _ => none
noncomputable def f2s : List Value → Option (ByteArray × ByteArray)
  | [.string s, .string p] => some (s, p)
  | _ => none
noncomputable def fsi : List Value → Option (ByteArray × Int)
  | [.string s, .int _ c] => some (s, c)
  | _ => none
noncomputable def f1i : List Value → Option Int
  | [.int _ c] => some c
  | _ => none
noncomputable def f2i : List Value → Option (Int × Int)
  | [.int _ c, .int _ d] => some (c, d)
  | _ => none
noncomputable def cHasPrefix : Ct := ctS (ByteArray × ByteArray) (fun ⟨s, p⟩ => [.string s, .string p]) f2s (fun _ => True) (fun _ => {}) fun ⟨s, p⟩ => .sv (.bool (hasPre s p))
noncomputable def cIndexByte : Ct := ctS (ByteArray × Int) (fun ⟨s, c⟩ => [.string s, .int .u8 c]) fsi (fun ⟨s, c⟩ => 0 ≤ c ∧ c < 256) (fun _ => {}) fun ⟨s, c⟩ => .sv (.int .i64 (Lib.indexByte s.data.toList (UInt8.ofNat c.toNat)))
/-- A variable of the library, which holds some number. -/
noncomputable def hG : PF := ⟨true, fun p => ∃ m : Int, cellP p ⟨0, 0, none⟩ = some (.int .i64 m), fun _ _ h e => e.imp fun _ e => cellP_mono h e⟩
noncomputable def cIndex : Ct := ctS (ByteArray × ByteArray) (fun ⟨s, p⟩ => [.string s, .string p]) f2s (fun ⟨s, c⟩ => s.size < 4294967281) (fun _ => hG) fun ⟨s, p⟩ => .sv (.int .i64 (Lib.index s.data.toList p.data.toList))
noncomputable def cLetter : Ct := ctS Int (fun c => [.int .u8 c]) f1i (fun c => 0 ≤ c ∧ c < 256) (fun _ => {}) fun c => .sv (.bool (isLet c.toNat))
noncomputable def cDigit : Ct := ctS Int (fun c => [.int .u8 c]) f1i (fun c => 0 ≤ c ∧ c < 256) (fun _ => {}) fun c => .sv (.bool (isDig c.toNat))
noncomputable def cValue : Ct := ctS (Int × Int) (fun ⟨c, B⟩ => [.int .u8 c, .int .u64 B]) f2i (fun ⟨c, B⟩ => (0 ≤ c ∧ c < 256) ∧ 0 ≤ B ∧ B ≤ 16) (fun _ => {}) fun ⟨c, B⟩ => .tup [.sv (.int .u64 (dv c.toNat : Nat)), .sv (.bool (decide (dv c.toNat < B)))]
noncomputable def cEscaped : Ct := ctS Int (fun c => [.int .u8 c]) f1i (fun c => 0 ≤ c ∧ c < 256) (fun _ => {}) fun c => .tup [.sv (.int .u8 ((esc c.toNat).getD 0 : Nat)), .sv (.bool (esc c.toNat).isSome)]
noncomputable def cName : Ct := ctCur (fun s i => 0 ≤ i ∧ i < s.size ∧ s.size < 100000) (fun s i => tokA 1 (s.extract i.toNat (nmE s (i.toNat + 1))) 0 i.toNat) fun s i => nmE s (i.toNat + 1)
noncomputable def tName : Nat → Option Ct := ctTab [(20, cByteAt), (25, cLetter), (27, cDigit)]
/-- A loop over the cursor's place, which lies in memory. -/
noncomputable def atCur (s : ByteArray) (pre : Int → Prop) (keep : List Nat) : LT := { σ := Int, pre := pre, find := some fun _ h => match curOf h 1 with | some (_, j) => some j | none => none, t := fun _ => [], h := fun j => cur s j, more := 0, μ := fun j => s.size - j.toNat, keep := keep }
noncomputable def wName : cName.σ → WayF := fun ⟨s, i⟩ => { ann := fun _ _ _ => some (atCur s (fun j => i < j ∧ j ≤ s.size ∧ nmE s j.toNat = nmE s (i.toNat + 1)) [0, 2, 3]) }
theorem no_tab : ∀ g C, (fun _ => none : Nat → Option Ct) g = some C → CtOK P g C := fun g C h => by cases h
theorem bat_lt (s : ByteArray) (j : Nat) : bat s j < 256 := by unfold bat; exact UInt8.toNat_lt _
theorem bat_out {s : ByteArray} {j : Nat} (h : s.size ≤ j) : bat s j = 0 := by
  unfold bat
  rw [getElem?_neg s j (by omega)]; rfl
theorem bat_in {s : ByteArray} {j : Nat} (h : j < s.size) : bat s j = s[j].toNat := by
  unfold bat
  rw [getElem?_pos s j h]; rfl
theorem byteAt_eq (s : ByteArray) (i d : Int) : askF P ((fun _ => none)) Go.Proofs.Try.f20 cByteAt (fun _ => {}) ⟨s, i, d⟩ = ((0 : Int) ≤ i ∧ i ≤ (↑(ByteArray.size s) : Int) ∧ ByteArray.size s < (1000000 : Nat) ∧ (0 : Int) ≤ d ∧ d < (1000000 : Int) → ((-9223372036854775808 : Int) ≤ i + d ∧ i + d ≤ (9223372036854775807 : Int)) ∧ (decide (i + d < (↑(ByteArray.size s) : Int)) = true → ((-9223372036854775808 : Int) ≤ i + d ∧ i + d ≤ (9223372036854775807 : Int)) ∧ ((0 : Int) ≤ i + d ∧ i + d < (↑(ByteArray.size s) : Int)) ∧ (↑(bat s (Int.toNat (i + d))) : Int) = (↑(bat s (Int.toNat (i + d))) : Int) ∧ s = s ∧ i = i ∧ True) ∧ (decide (i + d < (↑(ByteArray.size s) : Int)) = false → (↑(bat s (Int.toNat (i + d))) : Int) = (0 : Int) ∧ s = s ∧ i = i ∧ True)) := by kernel_rfl
theorem byteAt_ok : CtOK P 20 cByteAt := by
  refine ask_ok mixed no_tab (W := fun _ => {}) Go.Proofs.Try.func20 (by kernel_rfl) (by decide) (by decide) (fun ⟨s, i, d⟩ => by kernel_rfl) fun ⟨s, i, d⟩ => (byteAt_eq s i d).mpr ?_
  simp only [decide_eq_true_eq, decide_eq_false_iff_not, and_true, true_and]
  intro h
  refine ⟨by omega, fun h4 => by omega, fun h4 => ?_⟩
  rw [bat_out (by omega)]; rfl
theorem left_eq (s : ByteArray) (i : Int) : askF P ((fun _ => none)) Go.Proofs.Try.f22 cLeft (fun _ => {}) ⟨s, i⟩ = ((0 : Int) ≤ i ∧ i ≤ (↑(ByteArray.size s) : Int) → ((0 : Int) ≤ i ∧ i ≤ (↑(ByteArray.size s) : Int)) ∧ ByteArray.extract s (Int.toNat i) (ByteArray.size s) = ByteArray.extract s (Int.toNat i) (ByteArray.size s) ∧ s = s ∧ i = i ∧ True) := by kernel_rfl
theorem left_ok : CtOK P 22 cLeft := by
  refine ask_ok mixed no_tab (W := fun _ => {}) Go.Proofs.Try.func22 (by kernel_rfl) (by decide) (by decide) (fun ⟨s, i⟩ => by kernel_rfl) fun ⟨s, i⟩ => (left_eq s i).mpr ?_
  intro h
  exact ⟨h, rfl, rfl, rfl, trivial⟩
theorem letter_eq (c : Int) : askF P ((fun _ => none)) Go.Proofs.Try.f25 cLetter (fun _ => {}) c = ((0 : Int) ≤ c ∧ c < (256 : Int) → (decide (c = (95 : Int)) = true → isLet (Int.toNat c) = true ∧ True) ∧ (decide (c = (95 : Int)) = false → (decide ((97 : Int) ≤ bitsP BinOp.or IntKind.u8 c (32 : Int)) = true → isLet (Int.toNat c) = decide (bitsP BinOp.or IntKind.u8 c (32 : Int) ≤ (122 : Int)) ∧ True) ∧ (decide ((97 : Int) ≤ bitsP BinOp.or IntKind.u8 c (32 : Int)) = false → isLet (Int.toNat c) = false ∧ True))) := by kernel_rfl
theorem letter_ok : CtOK P 25 cLetter := by
  refine ask_ok mixed no_tab (W := fun _ => {}) Go.Proofs.Try.func25 (by kernel_rfl) (by decide) (by decide) (fun c => by kernel_rfl) fun (c : Int) => (letter_eq c).mpr ?_
  rintro ⟨h1, h2⟩
  obtain ⟨n, rfl⟩ := Int.eq_ofNat_of_zero_le h1
  have hn : n < 256 := by omega
  clear h1 h2
  revert n
  decide +kernel
theorem digit_eq (c : Int) : askF P ((fun _ => none)) Go.Proofs.Try.f27 cDigit (fun _ => {}) c = ((0 : Int) ≤ c ∧ c < (256 : Int) → (decide ((48 : Int) ≤ c) = true → isDig (Int.toNat c) = decide (c ≤ (57 : Int)) ∧ True) ∧ (decide ((48 : Int) ≤ c) = false → isDig (Int.toNat c) = false ∧ True)) := by kernel_rfl
theorem digit_ok : CtOK P 27 cDigit := by
  refine ask_ok mixed no_tab (W := fun _ => {}) Go.Proofs.Try.func27 (by kernel_rfl) (by decide) (by decide) (fun c => by kernel_rfl) fun (c : Int) => (digit_eq c).mpr ?_
  rintro ⟨h1, h2⟩
  obtain ⟨n, rfl⟩ := Int.eq_ofNat_of_zero_le h1
  have hn : n < 256 := by omega
  clear h1 h2
  revert n
  decide +kernel
theorem tName_ok : ∀ g C, tName g = some C → CtOK P g C := ctTab_ok (forall_tab byteAt_ok (forall_tab letter_ok (forall_tab digit_ok nil_tab)))
theorem nmC_out {s : ByteArray} {j : Nat} (h : s.size ≤ j) : nmC s j = false := by
  unfold nmC
  rw [bat_out h]
  rfl
theorem nmE_step (s : ByteArray) (j : Nat) (h : j ≤ s.size) : nmE s j = if nmC s j = true then nmE s (j + 1) else j := by
  unfold nmE
  cases hj : s.size - j with
  | zero =>
    rw [nmC_out (by omega)]; simp [nmF]
  | succ f =>
    rw [show s.size - (j + 1) = f by omega]
    simp [nmF]
theorem name_eq (s : ByteArray) (i : Int) : askF P (tName) Go.Proofs.Try.f26 cName (wName) ⟨s, i⟩ = ((0 : Int) ≤ i ∧ i < (↑(ByteArray.size s) : Int) ∧ ByteArray.size s < (100000 : Nat) → ((-9223372036854775808 : Int) ≤ i + (1 : Int) ∧ i + (1 : Int) ≤ (9223372036854775807 : Int)) ∧ (i = i ∧ s = s ∧ i + (1 : Int) = i + (1 : Int) ∧ (i < i + (1 : Int) ∧ i + (1 : Int) ≤ (↑(ByteArray.size s) : Int) ∧ nmE s (Int.toNat (i + (1 : Int))) = nmE s (Int.toNat i + (1 : Nat))) ∧ True) ∧ ∀ (s_1 : Int), i < s_1 ∧ s_1 ≤ (↑(ByteArray.size s) : Int) ∧ nmE s (Int.toNat s_1) = nmE s (Int.toNat i + (1 : Nat)) → (0 : Int) = (0 : Int) ∧ s = s ∧ s_1 = s_1 ∧ ((0 : Int) ≤ s_1 ∧ s_1 ≤ (↑(ByteArray.size s) : Int) ∧ ByteArray.size s < (1000000 : Nat) ∧ (0 : Int) ≤ (0 : Int) ∧ (0 : Int) < (1000000 : Int)) ∧ (↑(bat s (Int.toNat (s_1 + (0 : Int)))) : Int) = (↑(bat s (Int.toNat (s_1 + (0 : Int)))) : Int) ∧ ((0 : Int) ≤ (↑(bat s (Int.toNat (s_1 + (0 : Int)))) : Int) ∧ (↑(bat s (Int.toNat (s_1 + (0 : Int)))) : Int) < (256 : Int)) ∧ (isLet (Int.toNat (↑(bat s (Int.toNat (s_1 + (0 : Int)))) : Int)) = true → ((-9223372036854775808 : Int) ≤ s_1 + (1 : Int) ∧ s_1 + (1 : Int) ≤ (9223372036854775807 : Int)) ∧ i = i ∧ s = s ∧ s_1 + (1 : Int) = s_1 + (1 : Int) ∧ (i < s_1 + (1 : Int) ∧ s_1 + (1 : Int) ≤ (↑(ByteArray.size s) : Int) ∧ nmE s (Int.toNat (s_1 + (1 : Int))) = nmE s (Int.toNat i + (1 : Nat))) ∧ ByteArray.size s - Int.toNat (s_1 + (1 : Int)) < ByteArray.size s - Int.toNat s_1 ∧ True) ∧ (isLet (Int.toNat (↑(bat s (Int.toNat (s_1 + (0 : Int)))) : Int)) = false → (0 : Int) = (0 : Int) ∧ s = s ∧ s_1 = s_1 ∧ ((0 : Int) ≤ s_1 ∧ s_1 ≤ (↑(ByteArray.size s) : Int) ∧ ByteArray.size s < (1000000 : Nat) ∧ (0 : Int) ≤ (0 : Int) ∧ (0 : Int) < (1000000 : Int)) ∧ (↑(bat s (Int.toNat (s_1 + (0 : Int)))) : Int) = (↑(bat s (Int.toNat (s_1 + (0 : Int)))) : Int) ∧ ((0 : Int) ≤ (↑(bat s (Int.toNat (s_1 + (0 : Int)))) : Int) ∧ (↑(bat s (Int.toNat (s_1 + (0 : Int)))) : Int) < (256 : Int)) ∧ (isDig (Int.toNat (↑(bat s (Int.toNat (s_1 + (0 : Int)))) : Int)) = true → ((-9223372036854775808 : Int) ≤ s_1 + (1 : Int) ∧ s_1 + (1 : Int) ≤ (9223372036854775807 : Int)) ∧ i = i ∧ s = s ∧ s_1 + (1 : Int) = s_1 + (1 : Int) ∧ (i < s_1 + (1 : Int) ∧ s_1 + (1 : Int) ≤ (↑(ByteArray.size s) : Int) ∧ nmE s (Int.toNat (s_1 + (1 : Int))) = nmE s (Int.toNat i + (1 : Nat))) ∧ ByteArray.size s - Int.toNat (s_1 + (1 : Int)) < ByteArray.size s - Int.toNat s_1 ∧ True) ∧ (isDig (Int.toNat (↑(bat s (Int.toNat (s_1 + (0 : Int)))) : Int)) = false → (0 : Int) = (0 : Int) ∧ s = s ∧ s_1 = s_1 ∧ ((0 : Int) ≤ s_1 ∧ s_1 ≤ (↑(ByteArray.size s) : Int) ∧ ByteArray.size s < (1000000 : Nat) ∧ (0 : Int) ≤ (0 : Int) ∧ (0 : Int) < (1000000 : Int)) ∧ (decide ((↑(bat s (Int.toNat (s_1 + (0 : Int)))) : Int) = (46 : Int)) = true → (1 : Int) = (1 : Int) ∧ s = s ∧ s_1 = s_1 ∧ ((0 : Int) ≤ s_1 ∧ s_1 ≤ (↑(ByteArray.size s) : Int) ∧ ByteArray.size s < (1000000 : Nat) ∧ (0 : Int) ≤ (1 : Int) ∧ (1 : Int) < (1000000 : Int)) ∧ (↑(bat s (Int.toNat (s_1 + (1 : Int)))) : Int) = (↑(bat s (Int.toNat (s_1 + (1 : Int)))) : Int) ∧ ((0 : Int) ≤ (↑(bat s (Int.toNat (s_1 + (1 : Int)))) : Int) ∧ (↑(bat s (Int.toNat (s_1 + (1 : Int)))) : Int) < (256 : Int)) ∧ (isLet (Int.toNat (↑(bat s (Int.toNat (s_1 + (1 : Int)))) : Int)) = true → ((-9223372036854775808 : Int) ≤ s_1 + (1 : Int) ∧ s_1 + (1 : Int) ≤ (9223372036854775807 : Int)) ∧ i = i ∧ s = s ∧ s_1 + (1 : Int) = s_1 + (1 : Int) ∧ (i < s_1 + (1 : Int) ∧ s_1 + (1 : Int) ≤ (↑(ByteArray.size s) : Int) ∧ nmE s (Int.toNat (s_1 + (1 : Int))) = nmE s (Int.toNat i + (1 : Nat))) ∧ ByteArray.size s - Int.toNat (s_1 + (1 : Int)) < ByteArray.size s - Int.toNat s_1 ∧ True) ∧ (isLet (Int.toNat (↑(bat s (Int.toNat (s_1 + (1 : Int)))) : Int)) = false → ((0 : Int) ≤ i ∧ i ≤ s_1 ∧ s_1 ≤ (↑(ByteArray.size s) : Int)) ∧ (↑(1 : Nat) : Int) = (1 : Int) ∧ ByteArray.extract s (Int.toNat i) (nmE s (Int.toNat i + (1 : Nat))) = ByteArray.extract s (Int.toNat i) (Int.toNat s_1) ∧ (↑(0 : Nat) : Int) = (0 : Int) ∧ (↑(Int.toNat i) : Int) = i ∧ s = s ∧ Int.ofNat (nmE s (Int.toNat i + (1 : Nat))) = s_1 ∧ True)) ∧ (decide ((↑(bat s (Int.toNat (s_1 + (0 : Int)))) : Int) = (46 : Int)) = false → ((0 : Int) ≤ i ∧ i ≤ s_1 ∧ s_1 ≤ (↑(ByteArray.size s) : Int)) ∧ (↑(1 : Nat) : Int) = (1 : Int) ∧ ByteArray.extract s (Int.toNat i) (nmE s (Int.toNat i + (1 : Nat))) = ByteArray.extract s (Int.toNat i) (Int.toNat s_1) ∧ (↑(0 : Nat) : Int) = (0 : Int) ∧ (↑(Int.toNat i) : Int) = i ∧ s = s ∧ Int.ofNat (nmE s (Int.toNat i + (1 : Nat))) = s_1 ∧ True)))) := by kernel_rfl
theorem name_ok : CtOK P 26 cName := by
  refine ask_ok mixed tName_ok (W := wName) Go.Proofs.Try.func26 (by kernel_rfl) (by decide) (by decide) (fun ⟨s, i⟩ => by kernel_rfl) fun ⟨s, i⟩ => (name_eq s i).mpr ?_
  simp only [decide_eq_true_eq, decide_eq_false_iff_not, and_true, true_and, Int.toNat_natCast, Int.add_zero]
  intro h
  obtain ⟨n, rfl⟩ := Int.eq_ofNat_of_zero_le h.1
  refine ⟨by omega, by simp; omega, fun j hj => ?_⟩
  obtain ⟨m, rfl⟩ := Int.eq_ofNat_of_zero_le (show 0 ≤ j by omega)
  have e1 : ((m : Int) + 1).toNat = m + 1 := by omega
  simp only [Int.toNat_natCast, e1] at hj ⊢
  have hs := nmE_step s m (by omega)
  have b1 := bat_lt s m
  have b2 := bat_lt s (m + 1)
  have hin : nmC s m = true → m < s.size := fun h => by
    rcases Nat.lt_or_ge m s.size with h1 | h1
    · exact h1
    · rw [nmC_out h1] at h; cases h
  have yes : nmC s m = true → (n : Int) < (m : Int) + 1 ∧ (m : Int) + 1 ≤ s.size ∧ nmE s (m + 1) = nmE s (n + 1) := fun h => by
    rw [if_pos h] at hs
    have := hin h
    exact ⟨by omega, by omega, hs ▸ hj.2.2⟩
  have no : nmC s m = false → nmE s (n + 1) = m := fun h => by
    rw [if_neg (by rw [h]; simp)] at hs
    rw [← hj.2.2, hs]
  refine ⟨by omega, by omega, fun a1 => ?_, fun a1 => ⟨by omega, by omega, fun a2 => ?_, fun a2 => ⟨by omega, fun a3 => ⟨by omega, by omega, fun a4 => ?_, fun a4 => ?_⟩, fun a3 => ?_⟩⟩⟩
  · have y := yes (by unfold nmC; rw [a1]; rfl)
    exact ⟨by omega, y, by omega⟩
  · have y := yes (by unfold nmC; rw [a2]; simp)
    exact ⟨by omega, y, by omega⟩
  · have y := yes (by unfold nmC; rw [a4, show bat s m = 46 by omega]; simp)
    exact ⟨by omega, y, by omega⟩
  · rw [no (by unfold nmC; rw [a1, a2, a4]; simp)]
    exact ⟨by omega, by simp⟩
  · rw [no (by unfold nmC; rw [a1, a2]; simp; intro h; exact absurd h (by omega))]
    exact ⟨by omega, by simp⟩
/-! Which texts are code points. -/
noncomputable def ldN (c : Nat) : Nat := if c < 128 then 1 else if 192 ≤ c ∧ c < 224 then 2 else if 224 ≤ c ∧ c < 240 then 3 else if 240 ≤ c ∧ c < 248 then 4 else 0
noncomputable def ldV (c : Nat) : Nat := if c < 128 then c else if 192 ≤ c ∧ c < 224 then c - 192 else if 224 ≤ c ∧ c < 240 then c - 224 else if 240 ≤ c ∧ c < 248 then c - 240 else 0
noncomputable def ctC (c : Nat) : Bool := decide (128 ≤ c) && decide (c < 192)
/-- The bits of so many bytes. -/
noncomputable def vlF (s : ByteArray) : Nat → Option Nat
  | 0 => some 0
  | 1 => some (ldV (bat s 0))
  | i + 2 => match vlF s (i + 1) with
    | some r => if ctC (bat s (i + 1)) = true then some (r * 64 + (bat s (i + 1) - 128)) else none
    | none => none
noncomputable def lnN (r : Nat) : Nat := if r < 128 then 1 else if r < 2048 then 2 else if r < 65536 then 3 else 4
noncomputable def isC (r : Nat) : Bool := decide (r ≤ 1114111) && !(decide (55296 ≤ r) && decide (r ≤ 57343))
/-- How many bytes the code point at the front has; 0: there is none. -/
noncomputable def frt (s : ByteArray) : Nat := if s.size < ldN (bat s 0) then 0 else match vlF s (ldN (bat s 0)) with
  | none => 0
  | some r => if ldN (bat s 0) = 0 ∨ isC r = false ∨ lnN r ≠ ldN (bat s 0) then 0 else ldN (bat s 0)
noncomputable def vldF : Nat → ByteArray → Bool
  | 0, _ => true
  | f + 1, s => if s.size = 0 then true else if frt s = 0 then false else vldF f (s.extract (frt s) s.size)
noncomputable def vld (s : ByteArray) : Bool := vldF s.size s
noncomputable def cLead : Ct := ctS Int (fun c => [.int .u8 c]) f1i (fun c => 0 ≤ c ∧ c < 256) (fun _ => {}) fun c => .tup [.sv (.int .i64 (ldN c.toNat : Nat)), .sv (.int .u32 (ldV c.toNat : Nat))]
noncomputable def cIs : Ct := ctS Int (fun c => [.int .u32 c]) f1i (fun c => 0 ≤ c ∧ c < 4294967296) (fun _ => {}) fun c => .sv (.bool (isC c.toNat))
noncomputable def cLength : Ct := ctS Int (fun c => [.int .u32 c]) f1i (fun c => 0 ≤ c ∧ c < 4294967296) (fun _ => {}) fun c => .sv (.int .i64 (lnN c.toNat : Nat))
noncomputable def cFront : Ct := ctS ByteArray (fun s => [.string s]) f1s (fun s => 0 < s.size ∧ s.size < 1000000) (fun _ => {}) fun s => .sv (.int .i64 (frt s : Nat))
noncomputable def cValid : Ct := ctS ByteArray (fun s => [.string s]) f1s (fun s => s.size < 1000000) (fun _ => {}) fun s => .sv (.bool (vld s))
noncomputable def slI (t : T AV) (k : Nat) : Option Int := match t.get k with
  | some a => match gi a with
    | some (_, n) => some n
    | none => none
  | none => none
noncomputable def slS (t : T AV) (k : Nat) : Option ByteArray := match t.get k with
  | some a => gs a
  | none => none
noncomputable def wFront : cFront.σ → WayF := fun s => { ann := fun _ _ _ => some { σ := Int × Int, pre := fun ⟨r, i⟩ => 1 ≤ i ∧ (i ≤ ldN (bat s 0) ∨ i = 1) ∧ ∃ q : Nat, r = q ∧ (ldN (bat s 0) = 0 ∨ vlF s i.toNat = some q), find := some fun t _ => match slI t 4 with | some r => (match slI t 5 with | some i => some (r, i) | none => none) | none => none, t := fun ⟨r, i⟩ => [(4, .sv (.int .u32 r)), (5, .sv (.int .i64 i))], h := fun _ => [], more := 0, μ := fun ⟨r, i⟩ => 5 - i.toNat, keep := [0, 2, 3] } }
noncomputable def tFront : Nat → Option Ct := ctTab [(58, cLead), (59, cIs), (60, cLength)]
noncomputable def wValid : cValid.σ → WayF := fun s => { ann := fun _ _ _ => some { σ := ByteArray, pre := fun t => t.size ≤ s.size ∧ vld t = vld s, find := some fun t _ => slS t 0, t := fun u => [(0, .sv (.string u))], h := fun _ => [], more := 0, μ := fun u => u.size, keep := [2] } }
noncomputable def tValid : Nat → Option Ct := ctTab [(55, cFront)]
theorem ldN_le (c : Nat) : ldN c ≤ 4 := by unfold ldN; repeat' split
                                           all_goals omega
theorem ldV_lt (c : Nat) : ldV c < 128 := by unfold ldV; repeat' split
                                             all_goals omega
theorem lead_eq (c : Int) : askF P ((fun _ => none)) Go.Proofs.Try.f58 cLead (fun _ => {}) c = ((0 : Int) ≤ c ∧ c < (256 : Int) → (decide (c < (128 : Int)) = true → (↑(ldN (Int.toNat c)) : Int) = (1 : Int) ∧ (↑(ldV (Int.toNat c)) : Int) = IntKind.wrap IntKind.u32 c ∧ True) ∧ (decide (c < (128 : Int)) = false → (0 : Int) ≤ (5 : Int) ∧ (decide (shP BinOp.shr IntKind.u8 c (5 : Int) = (6 : Int)) = true → (↑(ldN (Int.toNat c)) : Int) = (2 : Int) ∧ (↑(ldV (Int.toNat c)) : Int) = IntKind.wrap IntKind.u32 (bitsP BinOp.and IntKind.u8 c (31 : Int)) ∧ True) ∧ (decide (shP BinOp.shr IntKind.u8 c (5 : Int) = (6 : Int)) = false → (0 : Int) ≤ (4 : Int) ∧ (decide (shP BinOp.shr IntKind.u8 c (4 : Int) = (14 : Int)) = true → (↑(ldN (Int.toNat c)) : Int) = (3 : Int) ∧ (↑(ldV (Int.toNat c)) : Int) = IntKind.wrap IntKind.u32 (bitsP BinOp.and IntKind.u8 c (15 : Int)) ∧ True) ∧ (decide (shP BinOp.shr IntKind.u8 c (4 : Int) = (14 : Int)) = false → (0 : Int) ≤ (3 : Int) ∧ (decide (shP BinOp.shr IntKind.u8 c (3 : Int) = (30 : Int)) = true → (↑(ldN (Int.toNat c)) : Int) = (4 : Int) ∧ (↑(ldV (Int.toNat c)) : Int) = IntKind.wrap IntKind.u32 (bitsP BinOp.and IntKind.u8 c (7 : Int)) ∧ True) ∧ (decide (shP BinOp.shr IntKind.u8 c (3 : Int) = (30 : Int)) = false → (↑(ldN (Int.toNat c)) : Int) = (0 : Int) ∧ (↑(ldV (Int.toNat c)) : Int) = (0 : Int) ∧ True))))) := by kernel_rfl
theorem lead1 : ∀ c < 256, ¬ c < 128 → (decide (shP BinOp.shr IntKind.u8 (c : Nat) 5 = 6) = (decide (192 ≤ c) && decide (c < 224))) ∧ (decide (shP BinOp.shr IntKind.u8 (c : Nat) 4 = 14) = (decide (224 ≤ c) && decide (c < 240))) ∧ (decide (shP BinOp.shr IntKind.u8 (c : Nat) 3 = 30) = (decide (240 ≤ c) && decide (c < 248))) := by decide +kernel
theorem lead2 : ∀ c < 256, IntKind.wrap IntKind.u32 ((c : Nat) : Int) = (c : Nat) ∧ (192 ≤ c → c < 224 → IntKind.wrap IntKind.u32 (bitsP BinOp.and IntKind.u8 (c : Nat) 31) = ((c - 192 : Nat) : Int)) ∧ (224 ≤ c → c < 240 → IntKind.wrap IntKind.u32 (bitsP BinOp.and IntKind.u8 (c : Nat) 15) = ((c - 224 : Nat) : Int)) ∧ (240 ≤ c → c < 248 → IntKind.wrap IntKind.u32 (bitsP BinOp.and IntKind.u8 (c : Nat) 7) = ((c - 240 : Nat) : Int)) := by decide +kernel
theorem lead_ok : CtOK P 58 cLead := by
  refine ask_ok mixed no_tab (W := fun _ => {}) Go.Proofs.Try.func58 (by kernel_rfl) (by decide) (by decide) (fun c => by kernel_rfl) fun (c : Int) => (lead_eq c).mpr ?_
  rintro ⟨h1, h2⟩
  obtain ⟨n, rfl⟩ := Int.eq_ofNat_of_zero_le h1
  have hn : n < 256 := by omega
  obtain ⟨b0, b1, b2, b3⟩ := lead2 n hn
  simp only [Int.toNat_natCast, and_true, decide_eq_true_eq, decide_eq_false_iff_not]
  refine ⟨fun h => ?_, fun h => ⟨by omega, ?_⟩⟩
  · unfold ldN ldV; rw [if_pos (by omega), if_pos (by omega), b0]; simp
  have hg : ¬ n < 128 := by omega
  obtain ⟨a1, a2, a3⟩ := lead1 n hn hg
  have a1 : (shP BinOp.shr IntKind.u8 (n : Nat) 5 = 6) ↔ (192 ≤ n ∧ n < 224) := by
    rw [← decide_eq_true_iff (p := shP BinOp.shr IntKind.u8 (n : Nat) 5 = 6), a1]; simp
  have a2 : (shP BinOp.shr IntKind.u8 (n : Nat) 4 = 14) ↔ (224 ≤ n ∧ n < 240) := by
    rw [← decide_eq_true_iff (p := shP BinOp.shr IntKind.u8 (n : Nat) 4 = 14), a2]; simp
  have a3 : (shP BinOp.shr IntKind.u8 (n : Nat) 3 = 30) ↔ (240 ≤ n ∧ n < 248) := by
    rw [← decide_eq_true_iff (p := shP BinOp.shr IntKind.u8 (n : Nat) 3 = 30), a3]; simp
  rw [a1, a2, a3]
  refine ⟨fun g => ?_, fun g => ⟨by omega, fun g2 => ?_, fun g2 => ⟨by omega, fun g3 => ?_, fun g3 => ?_⟩⟩⟩
  · unfold ldN ldV
    rw [if_neg hg, if_pos g, if_neg hg, if_pos g, b1 g.1 g.2]; simp
  · unfold ldN ldV
    rw [if_neg hg, if_neg g, if_pos g2, if_neg hg, if_neg g, if_pos g2, b2 g2.1 g2.2]; simp
  · unfold ldN ldV
    rw [if_neg hg, if_neg g, if_neg g2, if_pos g3, if_neg hg, if_neg g, if_neg g2, if_pos g3, b3 g3.1 g3.2]; simp
  · unfold ldN ldV
    rw [if_neg hg, if_neg g, if_neg g2, if_neg g3, if_neg hg, if_neg g, if_neg g2, if_neg g3]; simp
theorem isq_eq (c : Int) : askF P ((fun _ => none)) Go.Proofs.Try.f59 cIs (fun _ => {}) c = ((0 : Int) ≤ c ∧ c < (4294967296 : Int) → (decide (c ≤ (1114111 : Int)) = true → (0 : Int) ≤ (11 : Int) ∧ isC (Int.toNat c) = !decide (shP BinOp.shr IntKind.u32 c (11 : Int) = (27 : Int)) ∧ True) ∧ (decide (c ≤ (1114111 : Int)) = false → isC (Int.toNat c) = false ∧ True)) := by kernel_rfl
theorem is_ok : CtOK P 59 cIs := by
  refine ask_ok mixed no_tab (W := fun _ => {}) Go.Proofs.Try.func59 (by kernel_rfl) (by decide) (by decide) (fun c => by kernel_rfl) fun (c : Int) => (isq_eq c).mpr ?_
  rintro ⟨h1, h2⟩
  obtain ⟨n, rfl⟩ := Int.eq_ofNat_of_zero_le h1
  simp only [Int.toNat_natCast, and_true, decide_eq_true_eq, decide_eq_false_iff_not, isC]
  refine ⟨fun h => ⟨by omega, ?_⟩, fun h => ?_⟩
  · have : shP BinOp.shr IntKind.u32 (n : Nat) 11 = ((n / 2048 : Nat) : Int) := by
      show (n : Int).fdiv (2 ^ 11) = _
      rw [Int.fdiv_eq_ediv_of_nonneg _ (by decide)]; omega
    rw [this]
    by_cases g : 55296 ≤ n ∧ n ≤ 57343
    · have e : n / 2048 = 27 := by omega
      rw [e]; simp; omega
    · have e : n / 2048 ≠ 27 := by omega
      have e2 : ¬ ((n / 2048 : Nat) : Int) = 27 := by omega
      rw [decide_eq_false e2]
      simp; omega
  · rw [decide_eq_false (by omega)]; rfl
theorem lengthq_eq (c : Int) : askF P ((fun _ => none)) Go.Proofs.Try.f60 cLength (fun _ => {}) c = ((0 : Int) ≤ c ∧ c < (4294967296 : Int) → (decide (c < (128 : Int)) = true → (↑(lnN (Int.toNat c)) : Int) = (1 : Int) ∧ True) ∧ (decide (c < (128 : Int)) = false → (decide (c < (2048 : Int)) = true → (↑(lnN (Int.toNat c)) : Int) = (2 : Int) ∧ True) ∧ (decide (c < (2048 : Int)) = false → (decide (c < (65536 : Int)) = true → (↑(lnN (Int.toNat c)) : Int) = (3 : Int) ∧ True) ∧ (decide (c < (65536 : Int)) = false → (↑(lnN (Int.toNat c)) : Int) = (4 : Int) ∧ True)))) := by kernel_rfl
theorem length_ok : CtOK P 60 cLength := by
  refine ask_ok mixed no_tab (W := fun _ => {}) Go.Proofs.Try.func60 (by kernel_rfl) (by decide) (by decide) (fun c => by kernel_rfl) fun (c : Int) => (lengthq_eq c).mpr ?_
  rintro ⟨h1, h2⟩
  simp only [and_true, decide_eq_true_eq, decide_eq_false_iff_not, lnN]
  refine ⟨fun h => ?_, fun h => ⟨fun g => ?_, fun g => ⟨fun k => ?_, fun k => ?_⟩⟩⟩
  · rw [if_pos (by omega)]; rfl
  · rw [if_neg (by omega), if_pos (by omega)]; rfl
  · rw [if_neg (by omega), if_neg (by omega), if_pos (by omega)]; rfl
  · rw [if_neg (by omega), if_neg (by omega), if_neg (by omega)]; rfl
theorem ct1 : ∀ c < 256, decide (shP BinOp.shr IntKind.u8 (c : Nat) 6 = 2) = ctC c := by decide +kernel
theorem ct2 : ∀ c < 256, ctC c = true → IntKind.wrap IntKind.u32 (bitsP BinOp.and IntKind.u8 (c : Nat) 63) = ((c - 128 : Nat) : Int) ∧ c - 128 < 64 := by decide +kernel
theorem vlF_bd (s : ByteArray) : ∀ (i r : Nat), vlF s i = some r → i ≤ 4 → r < 128 * 64 ^ (i - 1)
  | 0, r, h, _ => by simp [vlF] at h; subst h; decide
  | 1, r, h, _ => by
    simp [vlF] at h
    have := ldV_lt (bat s 0)
    rw [h] at this; simpa using this
  | i + 2, r, h, hi => by
    simp only [vlF] at h
    split at h
    · rename_i q hq
      have ih := vlF_bd s (i + 1) q hq (by omega)
      split at h
      · rename_i hc
        cases h
        have := bat_lt s (i + 1)
        simp [ctC] at hc
        have e : i + 1 - 1 = i := by omega
        have e2 : i + 2 - 1 = i + 1 := by omega
        rw [e] at ih
        rw [e2, Nat.pow_succ]
        omega
      · cases h
    · cases h
theorem or64 (r d : Nat) (hr : r < 67108864) (hd : d < 64) : bitsP BinOp.or IntKind.u32 (shP BinOp.shl IntKind.u32 (r : Int) 6) (d : Int) = ((r * 64 + d : Nat) : Int) := by
  have e : shP BinOp.shl IntKind.u32 (r : Int) 6 = ((r * 64 : Nat) : Int) := by
    show IntKind.u32.wrap ((r : Int) * 2 ^ 6) = _
    unfold IntKind.wrap; simp [IntKind.bits, IntKind.signed]; omega
  rw [e]
  have h0 := u32_or_nat (r * 64) d (by omega) (by omega)
  have h1 : bitsP BinOp.or IntKind.u32 ((r * 64 : Nat) : Int) (d : Int) = bits .or .u32 ((r * 64 : Nat) : Int) (d : Int) := rfl
  rw [h1, h0]
  congr 1
  have h := Nat.two_pow_add_eq_or_of_lt (i := 6) (b := d) hd r
  rw [show 2 ^ 6 * r = r * 64 by omega] at h
  exact h.symm
theorem vlF_none (s : ByteArray) (i j : Nat) (hij : i ≤ j) (h1 : 1 ≤ i) (h : vlF s i = none) : vlF s j = none := by
  induction j with
  | zero => omega
  | succ j ih =>
    by_cases e : i = j + 1
    · subst e; exact h
    · have := ih (by omega)
      cases j with
      | zero => omega
      | succ j => simp only [vlF]; rw [this]
theorem front_eq (s : ByteArray) : askF P (tFront) Go.Proofs.Try.f55 cFront (wFront) s = ((0 : Nat) < ByteArray.size s ∧ ByteArray.size s < (1000000 : Nat) → ((0 : Int) ≤ (0 : Int) ∧ (0 : Int) < (↑(ByteArray.size s) : Int)) ∧ (↑(bat s (0 : Nat)) : Int) = (↑(bat s (0 : Nat)) : Int) ∧ ((0 : Int) ≤ (↑(bat s (0 : Nat)) : Int) ∧ (↑(bat s (0 : Nat)) : Int) < (256 : Int)) ∧ (decide ((↑(ByteArray.size s) : Int) < (↑(ldN (Int.toNat (↑(bat s (0 : Nat)) : Int))) : Int)) = true → (↑(frt s) : Int) = (0 : Int) ∧ True) ∧ (decide ((↑(ByteArray.size s) : Int) < (↑(ldN (Int.toNat (↑(bat s (0 : Nat)) : Int))) : Int)) = false → (s = s ∧ (↑(ldN (Int.toNat (↑(bat s (0 : Nat)) : Int))) : Int) = (↑(ldN (Int.toNat (↑(bat s (0 : Nat)) : Int))) : Int) ∧ (1 : Int) = (1 : Int) ∧ (↑(ldV (Int.toNat (↑(bat s (0 : Nat)) : Int))) : Int) = (↑(ldV (Int.toNat (↑(bat s (0 : Nat)) : Int))) : Int) ∧ ((1 : Int) ≤ (1 : Int) ∧ ((1 : Int) ≤ (↑(ldN (bat s (0 : Nat))) : Int) ∨ (1 : Int) = (1 : Int)) ∧ ∃ (q : Nat), (↑(ldV (Int.toNat (↑(bat s (0 : Nat)) : Int))) : Int) = (↑q : Int) ∧ (ldN (bat s (0 : Nat)) = (0 : Nat) ∨ vlF s (1 : Nat) = some q)) ∧ True) ∧ ∀ (s_1 : Int × Int), ((1 : Int) ≤ Prod.snd s_1 ∧ (Prod.snd s_1 ≤ (↑(ldN (bat s (0 : Nat))) : Int) ∨ Prod.snd s_1 = (1 : Int)) ∧ ∃ (q : Nat), Prod.fst s_1 = (↑q : Int) ∧ (ldN (bat s (0 : Nat)) = (0 : Nat) ∨ vlF s (Int.toNat (Prod.snd s_1)) = some q)) → (decide (s_1.2 < (↑(ldN (Int.toNat (↑(bat s (0 : Nat)) : Int))) : Int)) = true → ((0 : Int) ≤ s_1.2 ∧ s_1.2 < (↑(ByteArray.size s) : Int)) ∧ (0 : Int) ≤ (6 : Int) ∧ ((!decide (shP BinOp.shr IntKind.u8 (↑(bat s (Int.toNat s_1.2)) : Int) (6 : Int) = (2 : Int))) = true → (↑(frt s) : Int) = (0 : Int) ∧ True) ∧ ((!decide (shP BinOp.shr IntKind.u8 (↑(bat s (Int.toNat s_1.2)) : Int) (6 : Int) = (2 : Int))) = false → (0 : Int) ≤ (6 : Int) ∧ ((0 : Int) ≤ s_1.2 ∧ s_1.2 < (↑(ByteArray.size s) : Int)) ∧ ((-9223372036854775808 : Int) ≤ s_1.2 + (1 : Int) ∧ s_1.2 + (1 : Int) ≤ (9223372036854775807 : Int)) ∧ s = s ∧ (↑(ldN (Int.toNat (↑(bat s (0 : Nat)) : Int))) : Int) = (↑(ldN (Int.toNat (↑(bat s (0 : Nat)) : Int))) : Int) ∧ s_1.2 + (1 : Int) = s_1.2 + (1 : Int) ∧ bitsP BinOp.or IntKind.u32 (shP BinOp.shl IntKind.u32 s_1.1 (6 : Int)) (IntKind.wrap IntKind.u32 (bitsP BinOp.and IntKind.u8 (↑(bat s (Int.toNat s_1.2)) : Int) (63 : Int))) = bitsP BinOp.or IntKind.u32 (shP BinOp.shl IntKind.u32 s_1.1 (6 : Int)) (IntKind.wrap IntKind.u32 (bitsP BinOp.and IntKind.u8 (↑(bat s (Int.toNat s_1.2)) : Int) (63 : Int))) ∧ ((1 : Int) ≤ s_1.2 + (1 : Int) ∧ (s_1.2 + (1 : Int) ≤ (↑(ldN (bat s (0 : Nat))) : Int) ∨ s_1.2 + (1 : Int) = (1 : Int)) ∧ ∃ (q : Nat), bitsP BinOp.or IntKind.u32 (shP BinOp.shl IntKind.u32 s_1.1 (6 : Int)) (IntKind.wrap IntKind.u32 (bitsP BinOp.and IntKind.u8 (↑(bat s (Int.toNat s_1.2)) : Int) (63 : Int))) = (↑q : Int) ∧ (ldN (bat s (0 : Nat)) = (0 : Nat) ∨ vlF s (Int.toNat (s_1.2 + (1 : Int))) = some q)) ∧ (5 : Nat) - Int.toNat (s_1.2 + (1 : Int)) < (5 : Nat) - Int.toNat (Prod.snd s_1) ∧ True)) ∧ (decide (s_1.2 < (↑(ldN (Int.toNat (↑(bat s (0 : Nat)) : Int))) : Int)) = false → (decide ((↑(ldN (Int.toNat (↑(bat s (0 : Nat)) : Int))) : Int) = (0 : Int)) = true → (↑(frt s) : Int) = (0 : Int) ∧ True) ∧ (decide ((↑(ldN (Int.toNat (↑(bat s (0 : Nat)) : Int))) : Int) = (0 : Int)) = false → s_1.1 = s_1.1 ∧ ((0 : Int) ≤ s_1.1 ∧ s_1.1 < (4294967296 : Int)) ∧ ((!isC (Int.toNat s_1.1)) = true → (↑(frt s) : Int) = (0 : Int) ∧ True) ∧ ((!isC (Int.toNat s_1.1)) = false → s_1.1 = s_1.1 ∧ ((0 : Int) ≤ s_1.1 ∧ s_1.1 < (4294967296 : Int)) ∧ ((!decide ((↑(lnN (Int.toNat s_1.1)) : Int) = (↑(ldN (Int.toNat (↑(bat s (0 : Nat)) : Int))) : Int))) = true → (↑(frt s) : Int) = (0 : Int) ∧ True) ∧ ((!decide ((↑(lnN (Int.toNat s_1.1)) : Int) = (↑(ldN (Int.toNat (↑(bat s (0 : Nat)) : Int))) : Int))) = false → (↑(frt s) : Int) = (↑(ldN (Int.toNat (↑(bat s (0 : Nat)) : Int))) : Int) ∧ True)))))) := by kernel_rfl
theorem tFront_ok : ∀ g C, tFront g = some C → CtOK P g C := ctTab_ok (forall_tab lead_ok (forall_tab is_ok (forall_tab length_ok nil_tab)))
theorem front_ok : CtOK P 55 cFront := by
  refine ask_ok mixed tFront_ok (W := wFront) Go.Proofs.Try.func55 (by kernel_rfl) (by decide) (by decide) (fun c => by kernel_rfl) fun (s : ByteArray) => (front_eq s).mpr ?_
  rintro ⟨h1, h2⟩
  have b0 := bat_lt s 0
  simp only [Int.toNat_natCast, Int.toNat_zero, and_true, true_and, decide_eq_true_eq, decide_eq_false_iff_not, Bool.not_eq_true', Bool.not_eq_false']
  obtain ⟨n, hn⟩ : ∃ n, n = ldN (bat s 0) := ⟨_, rfl⟩
  have hn4 := ldN_le (bat s 0)
  have hfr : frt s = if s.size < n then 0 else match vlF s n with
    | none => 0
    | some r => if n = 0 ∨ isC r = false ∨ lnN r ≠ n then 0 else n := by rw [hn]; rfl
  rw [← hn] at hn4 ⊢
  refine ⟨by omega, by omega, fun g => ?_, fun g => ⟨⟨by omega, .inr trivial, ldV (bat s 0), rfl, .inr rfl⟩, ?_⟩⟩
  · rw [hfr, if_pos (by omega)]; rfl
  rintro ⟨r, i⟩ ⟨i1, i2, q, hq, hv⟩
  simp only at i1 i2 hq hv ⊢
  obtain ⟨m, rfl⟩ := Int.eq_ofNat_of_zero_le (show 0 ≤ i by omega)
  have em : ((m : Int) + 1).toNat = m + 1 := by omega
  simp only [Int.toNat_natCast, em] at hv ⊢
  subst hq
  simp only [Int.toNat_natCast] at hv ⊢
  rw [if_neg (by omega)] at hfr
  refine ⟨fun k => ⟨by omega, by omega, ?_⟩, fun k => ⟨fun k2 => ?_, fun k2 => ?_⟩⟩
  · have bm := bat_lt s m
    have c1 : shP BinOp.shr IntKind.u8 ((bat s m : Nat) : Int) 6 = 2 ↔ ctC (bat s m) = true := by rw [← ct1 (bat s m) bm, decide_eq_true_iff]
    rw [c1]
    have hv : vlF s m = some q := by
      rcases hv with h | h
      · omega
      · exact h
    have hbd := vlF_bd s m q hv (by omega)
    have hq26 : q < 67108864 := by
      have : m ≤ 3 := by omega
      rcases m with _ | _ | _ | _ | m <;> simp at hbd <;> omega
    obtain ⟨m', rfl⟩ : ∃ m', m = m' + 1 := ⟨m - 1, by omega⟩
    refine ⟨fun k3 => ?_, fun k3 => ⟨by omega, by omega, by omega, ⟨by omega, by omega, ?_⟩, by omega⟩⟩
    · have : vlF s (m' + 2) = none := by simp only [vlF]; rw [hv]; simp [k3]
      rw [hfr, vlF_none s (m' + 2) n (by omega) (by omega) this]; rfl
    · obtain ⟨c2, c3⟩ := ct2 (bat s (m' + 1)) bm k3
      rw [c2]
      refine ⟨_, or64 q _ hq26 c3, .inr ?_⟩
      simp only [vlF]
      rw [hv]; simp [k3]
  · have h0 : n = 0 := by omega
    rw [hfr, h0]; simp [vlF]
  · have hn0 : n ≠ 0 := by omega
    have hm : m = n := by omega
    have hv : vlF s n = some q := by
      rcases hv with h | h
      · omega
      · rw [← hm]; exact h
    have hbd := vlF_bd s n q hv (by omega)
    have hq32 : q < 4294967296 := by
      rcases n with _ | _ | _ | _ | _ | n <;> simp at hbd <;> omega
    rw [hv] at hfr
    simp only at hfr
    refine ⟨by omega, fun k3 => ?_, fun k3 => ⟨by omega, fun k4 => ?_, fun k4 => ?_⟩⟩
    · rw [hfr, if_pos (.inr (.inl k3))]; rfl
    · rw [hfr, if_pos (.inr (.inr (by omega)))]; rfl
    · rw [hfr, if_neg]
      rw [k3]; simp; omega
theorem frt_le (s : ByteArray) : frt s ≤ s.size := by
  unfold frt
  split
  · omega
  · split
    · omega
    · split <;> omega
theorem vldF_more : ∀ (f g : Nat) (s : ByteArray), s.size ≤ f → s.size ≤ g → vldF f s = vldF g s
  | 0, 0, s, _, _ => rfl
  | 0, g + 1, s, h, _ => by rw [vldF, vldF, if_pos (by omega)]
  | f + 1, 0, s, _, h => by rw [vldF, vldF, if_pos (by omega)]
  | f + 1, g + 1, s, h1, h2 => by
    rw [vldF, vldF]
    split
    · rfl
    · split
      · rfl
      · exact vldF_more f g _ (by simp; omega) (by simp; omega)
theorem vld_step (s : ByteArray) (h : 0 < s.size) : vld s = if frt s = 0 then false else vld (s.extract (frt s) s.size) := by
  unfold vld
  obtain ⟨f, hf⟩ : ∃ f, s.size = f + 1 := ⟨s.size - 1, by omega⟩
  rw [hf, vldF, if_neg (by omega)]
  split
  · rfl
  · rw [hf]
    refine vldF_more _ _ _ ?_ (Nat.le_refl _)
    simp; omega
theorem vld_nil (s : ByteArray) (h : s.size = 0) : vld s = true := by unfold vld; rw [h]; rfl
theorem valid_eq (s : ByteArray) : askF P (tValid) Go.Proofs.Try.f46 cValid (wValid) s = (ByteArray.size s < (1000000 : Nat) → (s = s ∧ (ByteArray.size s ≤ ByteArray.size s ∧ vld s = vld s) ∧ True) ∧ ∀ (s_1 : ByteArray), ByteArray.size s_1 ≤ ByteArray.size s ∧ vld s_1 = vld s → (decide ((0 : Int) < (↑(ByteArray.size s_1) : Int)) = true → s_1 = s_1 ∧ ((0 : Nat) < ByteArray.size s_1 ∧ ByteArray.size s_1 < (1000000 : Nat)) ∧ (decide ((↑(frt s_1) : Int) = (0 : Int)) = true → vld s = false ∧ True) ∧ (decide ((↑(frt s_1) : Int) = (0 : Int)) = false → ((0 : Int) ≤ (↑(frt s_1) : Int) ∧ (↑(frt s_1) : Int) ≤ (↑(ByteArray.size s_1) : Int)) ∧ ByteArray.extract s_1 (Int.toNat (↑(frt s_1) : Int)) (ByteArray.size s_1) = ByteArray.extract s_1 (Int.toNat (↑(frt s_1) : Int)) (ByteArray.size s_1) ∧ (ByteArray.size (ByteArray.extract s_1 (Int.toNat (↑(frt s_1) : Int)) (ByteArray.size s_1)) ≤ ByteArray.size s ∧ vld (ByteArray.extract s_1 (Int.toNat (↑(frt s_1) : Int)) (ByteArray.size s_1)) = vld s) ∧ ByteArray.size (ByteArray.extract s_1 (Int.toNat (↑(frt s_1) : Int)) (ByteArray.size s_1)) < ByteArray.size s_1 ∧ True)) ∧ (decide ((0 : Int) < (↑(ByteArray.size s_1) : Int)) = false → vld s = true ∧ True)) := by kernel_rfl
theorem valid_ok : CtOK P 46 cValid := by
  refine ask_ok mixed (ctTab_ok (forall_tab front_ok nil_tab)) (W := wValid) Go.Proofs.Try.func46 (by kernel_rfl) (by decide) (by decide) (fun c => by kernel_rfl) fun (s : ByteArray) => (valid_eq s).mpr ?_
  intro h
  simp only [Int.toNat_natCast, and_true, true_and, decide_eq_true_eq, decide_eq_false_iff_not]
  refine ⟨Nat.le_refl _, fun t ht => ⟨fun g => ⟨by omega, fun g2 => ?_, fun g2 => ?_⟩, fun g => ?_⟩⟩
  · rw [← ht.2, vld_step t (by omega), if_pos (by omega)]
  · have := frt_le t
    rw [← ht.2, vld_step t (by omega), if_neg (by omega)]
    refine ⟨by omega, ⟨?_, rfl⟩, ?_⟩
    · simp; omega
    · simp; omega
  · rw [← ht.2]; exact vld_nil t (by omega)
/-! What parts words. -/
noncomputable def eolF (s : ByteArray) : Nat → Nat → Nat
  | 0, k => k
  | f + 1, k => if k < s.size ∧ bat s k ≠ 10 then eolF s f (k + 1) else k
noncomputable def eol (s : ByteArray) (k : Nat) : Nat := eolF s (s.size - k) k
theorem eol_step (s : ByteArray) (k : Nat) : eol s k = if k < s.size ∧ bat s k ≠ 10 then eol s (k + 1) else k := by
  unfold eol
  cases h : s.size - k with
  | zero => rw [if_neg (by omega)]; rfl
  | succ f => rw [eolF, show s.size - (k + 1) = f by omega]
theorem eol_le (s : ByteArray) : ∀ (f k : Nat), k ≤ s.size → s.size - k = f → k ≤ eol s k ∧ eol s k ≤ s.size
  | 0, k, h, hf => by rw [eol_step, if_neg (by omega)]; omega
  | f + 1, k, h, hf => by
    rw [eol_step]
    split
    · have := eol_le s f (k + 1) (by omega) (by omega)
      omega
    · omega
noncomputable def clF (s : ByteArray) : Nat → Nat → Option Nat
  | 0, _ => none
  | f + 1, k => if bat s k = 42 ∧ bat s (k + 1) = 47 then some k else clF s f (k + 1)
noncomputable def cl (s : ByteArray) (k : Nat) : Option Nat := clF s (s.size - k) k
theorem cl_step (s : ByteArray) (k : Nat) (h : k < s.size) : cl s k = if bat s k = 42 ∧ bat s (k + 1) = 47 then some k else cl s (k + 1) := by
  unfold cl
  obtain ⟨f, hf⟩ : ∃ f, s.size - k = f + 1 := ⟨s.size - k - 1, by omega⟩
  rw [hf, clF, show s.size - (k + 1) = f by omega]
theorem cl_end (s : ByteArray) (k : Nat) (h : s.size ≤ k) : cl s k = none := by
  unfold cl
  rw [show s.size - k = 0 by omega]; rfl
theorem bat_pos {s : ByteArray} {k : Nat} (h : bat s k ≠ 0) : k < s.size := by
  rcases Nat.lt_or_ge k s.size with g | g
  · exact g
  · exact absurd (bat_out g) h
theorem cl_le (s : ByteArray) : ∀ (f k m : Nat), s.size - k = f → cl s k = some m → k ≤ m ∧ m + 2 ≤ s.size
  | 0, k, m, hf, h => by rw [cl_end s k (by omega)] at h; cases h
  | f + 1, k, m, hf, h => by
    rw [cl_step s k (by omega)] at h
    split at h
    · rename_i g
      cases h
      have := bat_pos (s := s) (k := k + 1) (by omega)
      omega
    · have := cl_le s f (k + 1) m (by omega) h
      omega
/-- Behind what parts words; no: a remark that does not end begins there. -/
noncomputable def spF (s : ByteArray) : Nat → Nat → Bool × Nat
  | 0, i => (true, i)
  | f + 1, i => if isSp (bat s i) = true then spF s f (i + 1) else if bat s i = 47 ∧ bat s (i + 1) = 47 then spF s f (eol s i) else if bat s i = 47 ∧ bat s (i + 1) = 42 then
      match cl s (i + 2) with
      | some k => spF s f (k + 2)
      | none => (false, i)
    else (true, i)
noncomputable def spR (s : ByteArray) (i : Nat) : Bool × Nat := spF s (s.size + 1 - i) i
theorem eol_gt (s : ByteArray) (i : Nat) (h : bat s i = 47 ∧ bat s (i + 1) = 47) : i + 2 ≤ eol s i ∧ eol s i ≤ s.size := by
  have h1 := bat_pos (s := s) (k := i + 1) (by omega)
  rw [eol_step, if_pos (by omega), eol_step, if_pos (by omega)]
  exact eol_le s _ (i + 2) (by omega) rfl
theorem isSp_pos {s : ByteArray} {k : Nat} (h : isSp (bat s k) = true) : k < s.size := by
  refine bat_pos fun e => ?_
  rw [e] at h; cases h
theorem spF_more (s : ByteArray) : ∀ (f g i : Nat), s.size + 1 - i ≤ f → s.size + 1 - i ≤ g → i ≤ s.size → spF s f i = spF s g i
  | 0, _, i, h, _, hi => by omega
  | _, 0, i, _, h, hi => by omega
  | f + 1, g + 1, i, h1, h2, hi => by
    rw [spF, spF]
    split
    · rename_i h
      have := isSp_pos h
      exact spF_more s f g _ (by omega) (by omega) (by omega)
    · split
      · rename_i h
        have := eol_gt s i h
        exact spF_more s f g _ (by omega) (by omega) (by omega)
      · split
        · split
          · rename_i k hk
            have := cl_le s _ _ _ rfl hk
            exact spF_more s f g _ (by omega) (by omega) (by omega)
          · rfl
        · rfl
theorem spR_step (s : ByteArray) (i : Nat) (hi : i ≤ s.size) : spR s i = if isSp (bat s i) = true then spR s (i + 1) else if bat s i = 47 ∧ bat s (i + 1) = 47 then spR s (eol s i) else if bat s i = 47 ∧ bat s (i + 1) = 42 then
      (match cl s (i + 2) with
      | some k => spR s (k + 2)
      | none => (false, i))
    else (true, i) := by
  unfold spR
  obtain ⟨f, hf⟩ : ∃ f, s.size + 1 - i = f + 1 := ⟨s.size - i, by omega⟩
  rw [hf, spF]
  split
  · rename_i h
    have := isSp_pos h
    exact spF_more s _ _ _ (by omega) (by omega) (by omega)
  · split
    · rename_i h
      have := eol_gt s i h
      exact spF_more s _ _ _ (by omega) (by omega) (by omega)
    · split
      · split
        · rename_i k hk
          have := cl_le s _ _ _ rfl hk
          exact spF_more s _ _ _ (by omega) (by omega) (by omega)
        · rfl
      · rfl
theorem drop_at (s : ByteArray) (i : Nat) (h : i < s.size) : s.data.toList.drop i = s[i] :: s.data.toList.drop (i + 1) := by
  have : s.data.toList[i]? = some s[i] := by
    rw [Array.getElem?_toList]; exact Array.getElem?_eq_getElem h
  rw [List.drop_eq_getElem?_toList_append, this]; rfl
theorem drop_end (s : ByteArray) (i : Nat) (h : s.size ≤ i) : s.data.toList.drop i = [] := by
  apply List.drop_eq_nil_of_le
  rw [Array.length_toList]; exact h
theorem u8_of (b : UInt8) (n : Nat) (hn : n < 256) : (b == UInt8.ofNat n) = decide (b.toNat = n) := by
  by_cases h : b.toNat = n
  · subst h; simp
  · rw [decide_eq_false h]
    rw [beq_eq_false_iff_ne]
    intro e; apply h; rw [e, UInt8.toNat_ofNat']; omega
theorem ixB (s : ByteArray) : ∀ (f i : Nat), i ≤ s.size → s.size - i = f → Lib.indexByte (s.data.toList.drop i) (UInt8.ofNat 10) = if eol s i < s.size then ((eol s i - i : Nat) : Int) else -1
  | 0, i, h, hf => by
    have e : eol s i = i := by rw [eol_step, if_neg (by omega)]
    rw [drop_end s i (by omega), e, if_neg (by omega)]; rfl
  | f + 1, i, h, hf => by
    have hi : i < s.size := by omega
    have ih := ixB s f (i + 1) (by omega) (by omega)
    have hle := eol_le s f (i + 1) (by omega) (by omega)
    have hb := bat_in hi
    rw [drop_at s i hi, Lib.indexByte, u8_of _ 10 (by omega)]
    by_cases h10 : s[i].toNat = 10
    · have e : eol s i = i := by rw [eol_step, if_neg (by omega)]
      rw [e, if_pos (by simpa using h10), if_pos hi]; simp
    · have e : eol s i = eol s (i + 1) := by rw [eol_step s i, if_pos (by omega)]
      rw [e, if_neg (by simpa using h10), ih]
      by_cases hl : eol s (i + 1) < s.size
      · rw [if_pos hl, if_pos hl, if_neg (by simp; try omega)]; omega
      · rw [if_neg hl, if_neg hl]; rfl
theorem ixS (s : ByteArray) : ∀ (f k : Nat), k ≤ s.size → s.size - k = f → Lib.index (s.data.toList.drop k) [UInt8.ofNat 42, UInt8.ofNat 47] = match cl s k with
    | some m => ((m - k : Nat) : Int)
    | none => -1
  | 0, k, h, hf => by
    rw [drop_end s k (by omega), cl_end s k (by omega)]; rfl
  | f + 1, k, h, hf => by
    have ih := ixS s f (k + 1) (by omega) (by omega)
    rw [drop_at s k (by omega), Lib.index, cl_step s k (by omega)]
    have hp : [UInt8.ofNat 42, UInt8.ofNat 47].isPrefixOf (s[k] :: s.data.toList.drop (k + 1)) = decide (bat s k = 42 ∧ bat s (k + 1) = 47) := by
      rw [List.isPrefixOf, show (UInt8.ofNat 42 == s[k]) = decide (s[k].toNat = 42) by rw [BEq.comm]; exact u8_of _ 42 (by omega)]
      rw [bat_in (by omega : k < s.size)]
      by_cases h2 : k + 1 < s.size
      · rw [drop_at s (k + 1) h2, List.isPrefixOf, show (UInt8.ofNat 47 == s[k + 1]) = decide (s[k + 1].toNat = 47) by rw [BEq.comm]; exact u8_of _ 47 (by omega), List.isPrefixOf, bat_in h2]
        simp
      · rw [drop_end s (k + 1) (by omega), bat_out (s := s) (j := k + 1) (by omega)]
        simp [List.isPrefixOf]
    rw [hp, ih]
    by_cases hc : bat s k = 42 ∧ bat s (k + 1) = 47
    · rw [if_pos hc, decide_eq_true hc]; simp
    · rw [if_neg hc, decide_eq_false hc]
      cases hcl : cl s (k + 1) with
      | none => rfl
      | some m =>
        have := cl_le s _ _ _ rfl hcl
        simp only [Bool.false_eq_true, if_false]
        rw [if_neg (by simp; try omega)]; omega
/-- The library's functions, as they are laid. -/
theorem indexByte_ok : CtOK P 23 cIndexByte := by
  refine ctS_ok (Sen.enters_of Go.Proofs.Try.func23 (by kernel_rfl)) (fun ⟨s, c⟩ => .int .i64 (Lib.indexByte s.data.toList (UInt8.ofNat c.toNat))) (fun s I => .sv _) fun ⟨s, c⟩ F w hp hm => ?_
  exact (Go.Proofs.Try.strings_IndexByte s c w).mono fun e w' h => ⟨h.1, by rw [h.2]; exact Below.refl _ _⟩
theorem index_ok : CtOK P 24 cIndex := by
  refine ctS_ok (Sen.enters_of Go.Proofs.Try.func24 (by kernel_rfl)) (fun ⟨s, p⟩ => .int .i64 (Lib.index s.data.toList p.data.toList)) (fun s I => .sv _) fun ⟨s, p⟩ F w hp hm => ?_
  obtain ⟨m, hm⟩ := hm
  exact (Go.Proofs.Try.strings_Index s p m w hp (cellP_world hm)).mono fun e w' h => ⟨h.1, by rw [h.2]; exact Below.refl _ _⟩
noncomputable def cSpace : Ct := { ctCur (fun s i => 0 ≤ i ∧ i ≤ s.size ∧ s.size < 100000) (fun s i => .sv (.bool (spR s i.toNat).1)) (fun s i => ((spR s i.toNat).2 : Nat)) with mem := fun _ => hG }
noncomputable def wSpace : cSpace.σ → WayF := fun ⟨s, i⟩ => { ann := fun _ _ _ => some (atCur s (fun j => 0 ≤ j ∧ j ≤ s.size ∧ spR s j.toNat = spR s i.toNat) [0, 2]) }
noncomputable def tSpace : Nat → Option Ct := ctTab [(20, cByteAt), (22, cLeft), (21, cHasPrefix), (23, cIndexByte), (24, cIndex)]
theorem dv_le (c : Nat) : dv c ≤ 16 := by unfold dv; split <;> (try split) <;> (try split) <;> omega
theorem wrapU64 (x : Int) (h1 : 0 ≤ x) (h2 : x ≤ 18446744073709551615) : IntKind.u64.wrap x = x := by
  unfold IntKind.wrap; simp [IntKind.bits, IntKind.signed]; omega
theorem val1 : ∀ c < 256, isDig c = true → IntKind.u8.wrap (↑c - 48) = ((dv c : Nat) : Int) := by decide +kernel
theorem val2 : ∀ c < 256, isDig c = false → decide (97 ≤ bitsP BinOp.or IntKind.u8 (↑c) 32) = true → decide (bitsP BinOp.or IntKind.u8 (↑c) 32 ≤ 102) = true → IntKind.u8.wrap (bitsP BinOp.or IntKind.u8 (↑c) 32 - 97) = ((dv c : Nat) : Int) - 10 ∧ 10 ≤ dv c := by decide +kernel
theorem val3 : ∀ c < 256, isDig c = false → decide (97 ≤ bitsP BinOp.or IntKind.u8 (↑c) 32) = true → decide (bitsP BinOp.or IntKind.u8 (↑c) 32 ≤ 102) = false → dv c = 16 := by decide +kernel
theorem val4 : ∀ c < 256, isDig c = false → decide (97 ≤ bitsP BinOp.or IntKind.u8 (↑c) 32) = false → dv c = 16 := by decide +kernel
theorem value_eq (c B : Int) : askF P (ctTab [(27, cDigit)]) Go.Proofs.Try.f45 cValue (fun _ => {}) ⟨c, B⟩ = (((0 : Int) ≤ c ∧ c < (256 : Int)) ∧ (0 : Int) ≤ B ∧ B ≤ (16 : Int) → c = c ∧ ((0 : Int) ≤ c ∧ c < (256 : Int)) ∧ (isDig (Int.toNat c) = true → ((0 : Int) ≤ IntKind.wrap IntKind.u8 (c - (48 : Int)) ∧ IntKind.wrap IntKind.u8 (c - (48 : Int)) ≤ (18446744073709551615 : Int)) ∧ (↑(dv (Int.toNat c)) : Int) = IntKind.wrap IntKind.u8 (c - (48 : Int)) ∧ decide ((↑(dv (Int.toNat c)) : Int) < B) = decide (IntKind.wrap IntKind.u8 (c - (48 : Int)) < B) ∧ True) ∧ (isDig (Int.toNat c) = false → (decide ((97 : Int) ≤ bitsP BinOp.or IntKind.u8 c (32 : Int)) = true → (decide (bitsP BinOp.or IntKind.u8 c (32 : Int) ≤ (102 : Int)) = true → ((0 : Int) ≤ IntKind.wrap IntKind.u8 (bitsP BinOp.or IntKind.u8 c (32 : Int) - (97 : Int)) ∧ IntKind.wrap IntKind.u8 (bitsP BinOp.or IntKind.u8 c (32 : Int) - (97 : Int)) ≤ (18446744073709551615 : Int)) ∧ (↑(dv (Int.toNat c)) : Int) = IntKind.wrap IntKind.u64 (IntKind.wrap IntKind.u8 (bitsP BinOp.or IntKind.u8 c (32 : Int) - (97 : Int)) + (10 : Int)) ∧ decide ((↑(dv (Int.toNat c)) : Int) < B) = decide (IntKind.wrap IntKind.u64 (IntKind.wrap IntKind.u8 (bitsP BinOp.or IntKind.u8 c (32 : Int) - (97 : Int)) + (10 : Int)) < B) ∧ True) ∧ (decide (bitsP BinOp.or IntKind.u8 c (32 : Int) ≤ (102 : Int)) = false → (↑(dv (Int.toNat c)) : Int) = (16 : Int) ∧ decide ((↑(dv (Int.toNat c)) : Int) < B) = decide ((16 : Int) < B) ∧ True)) ∧ (decide ((97 : Int) ≤ bitsP BinOp.or IntKind.u8 c (32 : Int)) = false → (↑(dv (Int.toNat c)) : Int) = (16 : Int) ∧ decide ((↑(dv (Int.toNat c)) : Int) < B) = decide ((16 : Int) < B) ∧ True))) := by kernel_rfl
theorem value_ok : CtOK P 45 cValue := by
  refine ask_ok mixed (ctTab_ok (forall_tab digit_ok nil_tab)) (W := fun _ => {}) Go.Proofs.Try.func45 (by kernel_rfl) (by decide) (by decide) (fun ⟨c, B⟩ => by kernel_rfl) fun ⟨c, B⟩ => (value_eq c B).mpr ?_
  rintro ⟨⟨h1, h2⟩, h3, h4⟩
  obtain ⟨n, rfl⟩ := Int.eq_ofNat_of_zero_le h1
  obtain ⟨b, rfl⟩ := Int.eq_ofNat_of_zero_le h3
  have hn : n < 256 := by omega
  have w := dv_le n
  have out : dv n = 16 → ((dv n : Nat) : Int) = 16 ∧ decide (((dv n : Nat) : Int) < (b : Nat)) = decide ((16 : Int) < (b : Nat)) := fun e => by
    rw [e]; exact ⟨rfl, rfl⟩
  simp only [Int.toNat_natCast, and_true, true_and]
  refine ⟨⟨h1, h2⟩, fun g => ?_, fun g => ⟨fun g2 => ⟨fun g3 => ?_, fun g3 => ?_⟩, fun g2 => ?_⟩⟩
  · rw [val1 n hn g]
    refine ⟨by omega, rfl, ?_⟩
    simp
  · obtain ⟨a1, a2⟩ := val2 n hn g g2 g3
    rw [a1]
    have : IntKind.u64.wrap (((dv n : Nat) : Int) - 10 + 10) = (dv n : Nat) := by
      rw [show (((dv n : Nat) : Int) - 10 + 10) = (dv n : Nat) by omega]; exact wrapU64 _ (by omega) (by omega)
    rw [this]
    refine ⟨by omega, rfl, ?_⟩
    simp
  · exact out (val3 n hn g g2 g3)
  · exact out (val4 n hn g g2)
theorem escaped_eq (c : Int) : askF P ((fun _ => none)) Go.Proofs.Try.f47 cEscaped (fun _ => {}) c = ((0 : Int) ≤ c ∧ c < (256 : Int) → (decide (c = (92 : Int)) = true → (decide (c = (92 : Int)) = true → (↑(Option.getD (esc (Int.toNat c)) (0 : Nat)) : Int) = c ∧ Option.isSome (esc (Int.toNat c)) = true ∧ True) ∧ (decide (c = (92 : Int)) = false → (decide (c = (110 : Int)) = true → (↑(Option.getD (esc (Int.toNat c)) (0 : Nat)) : Int) = (10 : Int) ∧ Option.isSome (esc (Int.toNat c)) = true ∧ True) ∧ (decide (c = (110 : Int)) = false → (↑(Option.getD (esc (Int.toNat c)) (0 : Nat)) : Int) = (0 : Int) ∧ Option.isSome (esc (Int.toNat c)) = false ∧ True))) ∧ (decide (c = (92 : Int)) = false → (decide (c = (34 : Int)) = true → (decide (c = (34 : Int)) = true → (↑(Option.getD (esc (Int.toNat c)) (0 : Nat)) : Int) = c ∧ Option.isSome (esc (Int.toNat c)) = true ∧ True) ∧ (decide (c = (34 : Int)) = false → (decide (c = (110 : Int)) = true → (↑(Option.getD (esc (Int.toNat c)) (0 : Nat)) : Int) = (10 : Int) ∧ Option.isSome (esc (Int.toNat c)) = true ∧ True) ∧ (decide (c = (110 : Int)) = false → (↑(Option.getD (esc (Int.toNat c)) (0 : Nat)) : Int) = (0 : Int) ∧ Option.isSome (esc (Int.toNat c)) = false ∧ True))) ∧ (decide (c = (34 : Int)) = false → (decide (c = (39 : Int)) = true → (↑(Option.getD (esc (Int.toNat c)) (0 : Nat)) : Int) = c ∧ Option.isSome (esc (Int.toNat c)) = true ∧ True) ∧ (decide (c = (39 : Int)) = false → (decide (c = (110 : Int)) = true → (↑(Option.getD (esc (Int.toNat c)) (0 : Nat)) : Int) = (10 : Int) ∧ Option.isSome (esc (Int.toNat c)) = true ∧ True) ∧ (decide (c = (110 : Int)) = false → (↑(Option.getD (esc (Int.toNat c)) (0 : Nat)) : Int) = (0 : Int) ∧ Option.isSome (esc (Int.toNat c)) = false ∧ True))))) := by kernel_rfl
theorem escaped_ok : CtOK P 47 cEscaped := by
  refine ask_ok mixed no_tab (W := fun _ => {}) Go.Proofs.Try.func47 (by kernel_rfl) (by decide) (by decide) (fun c => by kernel_rfl) fun (c : Int) => (escaped_eq c).mpr ?_
  rintro ⟨h1, h2⟩
  obtain ⟨n, rfl⟩ := Int.eq_ofNat_of_zero_le h1
  simp only [decide_eq_true_eq, decide_eq_false_iff_not, Int.toNat_natCast]
  repeat' first | intro _ | apply And.intro
  all_goals first
    | trivial
    | (exfalso; omega)
    | (have e : n = 92 := by omega
       subst e; rfl)
    | (have e : n = 34 := by omega
       subst e; rfl)
    | (have e : n = 39 := by omega
       subst e; rfl)
    | (have e : n = 110 := by omega
       subst e; rfl)
    | (unfold esc; rw [if_neg (by omega), if_neg (by omega)]; rfl)
theorem hasPrefix0_eq (s p : ByteArray) : askF P ((fun _ => none)) Go.Proofs.Try.f42 cHasPrefix (fun _ => {}) ⟨s, p⟩ = (True → (decide ((↑(ByteArray.size p) : Int) ≤ (↑(ByteArray.size s) : Int)) = true → ((0 : Int) ≤ (↑(ByteArray.size p) : Int) ∧ (↑(ByteArray.size p) : Int) ≤ (↑(ByteArray.size s) : Int)) ∧ hasPre s p = decide (ByteArray.extract s (0 : Nat) (Int.toNat (↑(ByteArray.size p) : Int)) = p) ∧ True) ∧ (decide ((↑(ByteArray.size p) : Int) ≤ (↑(ByteArray.size s) : Int)) = false → hasPre s p = false ∧ True)) := by kernel_rfl
theorem hasPrefix0_ok : CtOK P 42 cHasPrefix := by
  refine ask_ok mixed no_tab (W := fun _ => {}) Go.Proofs.Try.func42 (by kernel_rfl) (by decide) (by decide) (fun ⟨s, p⟩ => by kernel_rfl) fun ⟨s, p⟩ => (hasPrefix0_eq s p).mpr ?_
  intro _
  simp only [decide_eq_true_eq, decide_eq_false_iff_not, and_true, Int.toNat_natCast, hasPre]
  refine ⟨fun h => ⟨⟨by omega, h⟩, ?_⟩, fun h => ?_⟩
  · simp; omega
  · simp; omega
theorem hasPrefix1_eq (s p : ByteArray) : askF P (ctTab [(42, cHasPrefix)]) Go.Proofs.Try.f21 cHasPrefix (fun _ => {}) ⟨s, p⟩ = (True → s = s ∧ p = p ∧ True ∧ hasPre s p = hasPre s p ∧ True) := by kernel_rfl
theorem hasPrefix_ok : CtOK P 21 cHasPrefix := by
  refine ask_ok mixed (ctTab_ok (forall_tab hasPrefix0_ok nil_tab)) (W := fun _ => {}) Go.Proofs.Try.func21 (by kernel_rfl) (by decide) (by decide) (fun ⟨s, p⟩ => by kernel_rfl) fun ⟨s, p⟩ => (hasPrefix1_eq s p).mpr ?_
  intro _
  exact ⟨rfl, rfl, trivial, rfl, trivial⟩
theorem ext_list (s : ByteArray) (n : Nat) : (s.extract n s.size).data.toList = s.data.toList.drop n := by
  rw [ByteArray.data_extract, Array.toList_extract, List.extract_eq_take_drop, List.take_of_length_le]
  rw [List.length_drop, Array.length_toList]; exact Nat.le_refl _
theorem hasPre2 (s : ByteArray) (n a b : Nat) (hn : n ≤ s.size) (ha : a < 256 ∧ 0 < a) (hb : b < 256 ∧ 0 < b) : hasPre (s.extract n s.size) (mkS [a, b]) = decide (bat s n = a ∧ bat s (n + 1) = b) := by
  unfold hasPre
  rw [Bool.eq_iff_iff]
  simp only [Bool.and_eq_true, decide_eq_true_eq]
  have hsz : (mkS [a, b]).size = 2 := rfl
  rw [hsz, ByteArray.size_extract]
  constructor
  · rintro ⟨h1, h2⟩
    have e : ((s.extract n s.size).extract 0 2).data.toList = (mkS [a, b]).data.toList := by rw [h2]
    rw [ByteArray.data_extract, Array.toList_extract, List.extract_eq_take_drop, ext_list, drop_at s n (by omega), drop_at s (n + 1) (by omega)] at e
    simp [mkS] at e
    rw [bat_in (by omega : n < s.size), bat_in (by omega : n + 1 < s.size), e.1, e.2, UInt8.toNat_ofNat', UInt8.toNat_ofNat']
    omega
  · rintro ⟨h1, h2⟩
    have p1 := bat_pos (s := s) (k := n) (by omega)
    have p2 := bat_pos (s := s) (k := n + 1) (by omega)
    refine ⟨by omega, ?_⟩
    apply ByteArray.ext; apply Array.toList_inj.mp
    rw [ByteArray.data_extract, Array.toList_extract, List.extract_eq_take_drop, ext_list, drop_at s n (by omega), drop_at s (n + 1) (by omega)]
    rw [bat_in p1] at h1; rw [bat_in p2] at h2
    subst h1; subst h2
    simp [mkS]
theorem space_eq (s : ByteArray) (i : Int) : askF P (tSpace) Go.Proofs.Try.f15 cSpace (wSpace) ⟨s, i⟩ = ((0 : Int) ≤ i ∧ i ≤ (↑(ByteArray.size s) : Int) ∧ ByteArray.size s < (100000 : Nat) → (∃ (p : Nat → Option Obj), True ∧ ∃ (m : Int), cellP p (Addr.mk (0 : Nat) (0 : Nat) none) = some (Value.int IntKind.i64 m)) → (s = s ∧ i = i ∧ (∀ (p : Nat → Option Obj), (True ∧ ∃ (m : Int), cellP p (Addr.mk (0 : Nat) (0 : Nat) none) = some (Value.int IntKind.i64 m)) → True ∧ ∃ (m : Int), cellP p (Addr.mk (0 : Nat) (0 : Nat) none) = some (Value.int IntKind.i64 m)) ∧ ((0 : Int) ≤ i ∧ i ≤ (↑(ByteArray.size s) : Int) ∧ spR s (Int.toNat i) = spR s (Int.toNat i)) ∧ True) ∧ ∀ (s_1 : Int), (0 : Int) ≤ s_1 ∧ s_1 ≤ (↑(ByteArray.size s) : Int) ∧ spR s (Int.toNat s_1) = spR s (Int.toNat i) → (0 : Int) = (0 : Int) ∧ s = s ∧ s_1 = s_1 ∧ ((0 : Int) ≤ s_1 ∧ s_1 ≤ (↑(ByteArray.size s) : Int) ∧ ByteArray.size s < (1000000 : Nat) ∧ (0 : Int) ≤ (0 : Int) ∧ (0 : Int) < (1000000 : Int)) ∧ (decide ((9 : Int) ≤ (↑(bat s (Int.toNat (s_1 + (0 : Int)))) : Int)) = true → (decide ((↑(bat s (Int.toNat (s_1 + (0 : Int)))) : Int) ≤ (13 : Int)) = true → ((-9223372036854775808 : Int) ≤ s_1 + (1 : Int) ∧ s_1 + (1 : Int) ≤ (9223372036854775807 : Int)) ∧ s = s ∧ s_1 + (1 : Int) = s_1 + (1 : Int) ∧ (∀ (p : Nat → Option Obj), (True ∧ ∃ (m : Int), cellP p (Addr.mk (0 : Nat) (0 : Nat) none) = some (Value.int IntKind.i64 m)) → True ∧ ∃ (m : Int), cellP p (Addr.mk (0 : Nat) (0 : Nat) none) = some (Value.int IntKind.i64 m)) ∧ ((0 : Int) ≤ s_1 + (1 : Int) ∧ s_1 + (1 : Int) ≤ (↑(ByteArray.size s) : Int) ∧ spR s (Int.toNat (s_1 + (1 : Int))) = spR s (Int.toNat i)) ∧ ByteArray.size s - Int.toNat (s_1 + (1 : Int)) < ByteArray.size s - Int.toNat s_1 ∧ True) ∧ (decide ((↑(bat s (Int.toNat (s_1 + (0 : Int)))) : Int) ≤ (13 : Int)) = false → (decide ((↑(bat s (Int.toNat (s_1 + (0 : Int)))) : Int) = (32 : Int)) = true → ((-9223372036854775808 : Int) ≤ s_1 + (1 : Int) ∧ s_1 + (1 : Int) ≤ (9223372036854775807 : Int)) ∧ s = s ∧ s_1 + (1 : Int) = s_1 + (1 : Int) ∧ (∀ (p : Nat → Option Obj), (True ∧ ∃ (m : Int), cellP p (Addr.mk (0 : Nat) (0 : Nat) none) = some (Value.int IntKind.i64 m)) → True ∧ ∃ (m : Int), cellP p (Addr.mk (0 : Nat) (0 : Nat) none) = some (Value.int IntKind.i64 m)) ∧ ((0 : Int) ≤ s_1 + (1 : Int) ∧ s_1 + (1 : Int) ≤ (↑(ByteArray.size s) : Int) ∧ spR s (Int.toNat (s_1 + (1 : Int))) = spR s (Int.toNat i)) ∧ ByteArray.size s - Int.toNat (s_1 + (1 : Int)) < ByteArray.size s - Int.toNat s_1 ∧ True) ∧ (decide ((↑(bat s (Int.toNat (s_1 + (0 : Int)))) : Int) = (32 : Int)) = false → s = s ∧ s_1 = s_1 ∧ ((0 : Int) ≤ s_1 ∧ s_1 ≤ (↑(ByteArray.size s) : Int)) ∧ ByteArray.extract s (Int.toNat s_1) (ByteArray.size s) = ByteArray.extract s (Int.toNat s_1) (ByteArray.size s) ∧ mkS [(47 : Nat), (47 : Nat)] = mkS [(47 : Nat), (47 : Nat)] ∧ True ∧ (hasPre (ByteArray.extract s (Int.toNat s_1) (ByteArray.size s)) (mkS [(47 : Nat), (47 : Nat)]) = true → s = s ∧ s_1 = s_1 ∧ ((0 : Int) ≤ s_1 ∧ s_1 ≤ (↑(ByteArray.size s) : Int)) ∧ ByteArray.extract s (Int.toNat s_1) (ByteArray.size s) = ByteArray.extract s (Int.toNat s_1) (ByteArray.size s) ∧ (10 : Int) = (10 : Int) ∧ ((0 : Int) ≤ (10 : Int) ∧ (10 : Int) < (256 : Int)) ∧ (decide (Lib.indexByte (Array.toList (ByteArray.data (ByteArray.extract s (Int.toNat s_1) (ByteArray.size s)))) (UInt8.ofNat (10 : Nat)) < (0 : Int)) = true → s = s ∧ s_1 = s_1 ∧ ((0 : Int) ≤ s_1 ∧ s_1 ≤ (↑(ByteArray.size s) : Int)) ∧ ((-9223372036854775808 : Int) ≤ s_1 + (↑(ByteArray.size (ByteArray.extract s (Int.toNat s_1) (ByteArray.size s))) : Int) ∧ s_1 + (↑(ByteArray.size (ByteArray.extract s (Int.toNat s_1) (ByteArray.size s))) : Int) ≤ (9223372036854775807 : Int)) ∧ s = s ∧ s_1 + (↑(ByteArray.size (ByteArray.extract s (Int.toNat s_1) (ByteArray.size s))) : Int) = s_1 + (↑(ByteArray.size (ByteArray.extract s (Int.toNat s_1) (ByteArray.size s))) : Int) ∧ (∀ (p : Nat → Option Obj), (True ∧ ∃ (m : Int), cellP p (Addr.mk (0 : Nat) (0 : Nat) none) = some (Value.int IntKind.i64 m)) → True ∧ ∃ (m : Int), cellP p (Addr.mk (0 : Nat) (0 : Nat) none) = some (Value.int IntKind.i64 m)) ∧ ((0 : Int) ≤ s_1 + (↑(ByteArray.size (ByteArray.extract s (Int.toNat s_1) (ByteArray.size s))) : Int) ∧ s_1 + (↑(ByteArray.size (ByteArray.extract s (Int.toNat s_1) (ByteArray.size s))) : Int) ≤ (↑(ByteArray.size s) : Int) ∧ spR s (Int.toNat (s_1 + (↑(ByteArray.size (ByteArray.extract s (Int.toNat s_1) (ByteArray.size s))) : Int))) = spR s (Int.toNat i)) ∧ ByteArray.size s - Int.toNat (s_1 + (↑(ByteArray.size (ByteArray.extract s (Int.toNat s_1) (ByteArray.size s))) : Int)) < ByteArray.size s - Int.toNat s_1 ∧ True) ∧ (decide (Lib.indexByte (Array.toList (ByteArray.data (ByteArray.extract s (Int.toNat s_1) (ByteArray.size s)))) (UInt8.ofNat (10 : Nat)) < (0 : Int)) = false → ((-9223372036854775808 : Int) ≤ s_1 + Lib.indexByte (Array.toList (ByteArray.data (ByteArray.extract s (Int.toNat s_1) (ByteArray.size s)))) (UInt8.ofNat (10 : Nat)) ∧ s_1 + Lib.indexByte (Array.toList (ByteArray.data (ByteArray.extract s (Int.toNat s_1) (ByteArray.size s)))) (UInt8.ofNat (10 : Nat)) ≤ (9223372036854775807 : Int)) ∧ s = s ∧ s_1 + Lib.indexByte (Array.toList (ByteArray.data (ByteArray.extract s (Int.toNat s_1) (ByteArray.size s)))) (UInt8.ofNat (10 : Nat)) = s_1 + Lib.indexByte (Array.toList (ByteArray.data (ByteArray.extract s (Int.toNat s_1) (ByteArray.size s)))) (UInt8.ofNat (10 : Nat)) ∧ (∀ (p : Nat → Option Obj), (True ∧ ∃ (m : Int), cellP p (Addr.mk (0 : Nat) (0 : Nat) none) = some (Value.int IntKind.i64 m)) → True ∧ ∃ (m : Int), cellP p (Addr.mk (0 : Nat) (0 : Nat) none) = some (Value.int IntKind.i64 m)) ∧ ((0 : Int) ≤ s_1 + Lib.indexByte (Array.toList (ByteArray.data (ByteArray.extract s (Int.toNat s_1) (ByteArray.size s)))) (UInt8.ofNat (10 : Nat)) ∧ s_1 + Lib.indexByte (Array.toList (ByteArray.data (ByteArray.extract s (Int.toNat s_1) (ByteArray.size s)))) (UInt8.ofNat (10 : Nat)) ≤ (↑(ByteArray.size s) : Int) ∧ spR s (Int.toNat (s_1 + Lib.indexByte (Array.toList (ByteArray.data (ByteArray.extract s (Int.toNat s_1) (ByteArray.size s)))) (UInt8.ofNat (10 : Nat)))) = spR s (Int.toNat i)) ∧ ByteArray.size s - Int.toNat (s_1 + Lib.indexByte (Array.toList (ByteArray.data (ByteArray.extract s (Int.toNat s_1) (ByteArray.size s)))) (UInt8.ofNat (10 : Nat))) < ByteArray.size s - Int.toNat s_1 ∧ True)) ∧ (hasPre (ByteArray.extract s (Int.toNat s_1) (ByteArray.size s)) (mkS [(47 : Nat), (47 : Nat)]) = false → s = s ∧ s_1 = s_1 ∧ ((0 : Int) ≤ s_1 ∧ s_1 ≤ (↑(ByteArray.size s) : Int)) ∧ ByteArray.extract s (Int.toNat s_1) (ByteArray.size s) = ByteArray.extract s (Int.toNat s_1) (ByteArray.size s) ∧ mkS [(47 : Nat), (42 : Nat)] = mkS [(47 : Nat), (42 : Nat)] ∧ True ∧ (hasPre (ByteArray.extract s (Int.toNat s_1) (ByteArray.size s)) (mkS [(47 : Nat), (42 : Nat)]) = true → s = s ∧ s_1 = s_1 ∧ ((0 : Int) ≤ s_1 ∧ s_1 ≤ (↑(ByteArray.size s) : Int)) ∧ ((0 : Int) ≤ (2 : Int) ∧ (2 : Int) ≤ (↑(ByteArray.size (ByteArray.extract s (Int.toNat s_1) (ByteArray.size s))) : Int)) ∧ ByteArray.extract (ByteArray.extract s (Int.toNat s_1) (ByteArray.size s)) (2 : Nat) (ByteArray.size (ByteArray.extract s (Int.toNat s_1) (ByteArray.size s))) = ByteArray.extract (ByteArray.extract s (Int.toNat s_1) (ByteArray.size s)) (2 : Nat) (ByteArray.size (ByteArray.extract s (Int.toNat s_1) (ByteArray.size s))) ∧ mkS [(42 : Nat), (47 : Nat)] = mkS [(42 : Nat), (47 : Nat)] ∧ ByteArray.size (ByteArray.extract (ByteArray.extract s (Int.toNat s_1) (ByteArray.size s)) (2 : Nat) (ByteArray.size (ByteArray.extract s (Int.toNat s_1) (ByteArray.size s)))) < (4294967281 : Nat) ∧ (∀ (p : Nat → Option Obj), (True ∧ ∃ (m : Int), cellP p (Addr.mk (0 : Nat) (0 : Nat) none) = some (Value.int IntKind.i64 m)) → ∃ (m : Int), cellP p (Addr.mk (0 : Nat) (0 : Nat) none) = some (Value.int IntKind.i64 m)) ∧ (decide (Lib.index (Array.toList (ByteArray.data (ByteArray.extract (ByteArray.extract s (Int.toNat s_1) (ByteArray.size s)) (2 : Nat) (ByteArray.size (ByteArray.extract s (Int.toNat s_1) (ByteArray.size s)))))) (Array.toList (ByteArray.data (mkS [(42 : Nat), (47 : Nat)]))) < (0 : Int)) = true → Prod.fst (spR s (Int.toNat i)) = false ∧ s = s ∧ Int.ofNat (Prod.snd (spR s (Int.toNat i))) = s_1 ∧ True) ∧ (decide (Lib.index (Array.toList (ByteArray.data (ByteArray.extract (ByteArray.extract s (Int.toNat s_1) (ByteArray.size s)) (2 : Nat) (ByteArray.size (ByteArray.extract s (Int.toNat s_1) (ByteArray.size s)))))) (Array.toList (ByteArray.data (mkS [(42 : Nat), (47 : Nat)]))) < (0 : Int)) = false → ((-9223372036854775808 : Int) ≤ Lib.index (Array.toList (ByteArray.data (ByteArray.extract (ByteArray.extract s (Int.toNat s_1) (ByteArray.size s)) (2 : Nat) (ByteArray.size (ByteArray.extract s (Int.toNat s_1) (ByteArray.size s)))))) (Array.toList (ByteArray.data (mkS [(42 : Nat), (47 : Nat)]))) + (4 : Int) ∧ Lib.index (Array.toList (ByteArray.data (ByteArray.extract (ByteArray.extract s (Int.toNat s_1) (ByteArray.size s)) (2 : Nat) (ByteArray.size (ByteArray.extract s (Int.toNat s_1) (ByteArray.size s)))))) (Array.toList (ByteArray.data (mkS [(42 : Nat), (47 : Nat)]))) + (4 : Int) ≤ (9223372036854775807 : Int)) ∧ ((-9223372036854775808 : Int) ≤ s_1 + (Lib.index (Array.toList (ByteArray.data (ByteArray.extract (ByteArray.extract s (Int.toNat s_1) (ByteArray.size s)) (2 : Nat) (ByteArray.size (ByteArray.extract s (Int.toNat s_1) (ByteArray.size s)))))) (Array.toList (ByteArray.data (mkS [(42 : Nat), (47 : Nat)]))) + (4 : Int)) ∧ s_1 + (Lib.index (Array.toList (ByteArray.data (ByteArray.extract (ByteArray.extract s (Int.toNat s_1) (ByteArray.size s)) (2 : Nat) (ByteArray.size (ByteArray.extract s (Int.toNat s_1) (ByteArray.size s)))))) (Array.toList (ByteArray.data (mkS [(42 : Nat), (47 : Nat)]))) + (4 : Int)) ≤ (9223372036854775807 : Int)) ∧ s = s ∧ s_1 + (Lib.index (Array.toList (ByteArray.data (ByteArray.extract (ByteArray.extract s (Int.toNat s_1) (ByteArray.size s)) (2 : Nat) (ByteArray.size (ByteArray.extract s (Int.toNat s_1) (ByteArray.size s)))))) (Array.toList (ByteArray.data (mkS [(42 : Nat), (47 : Nat)]))) + (4 : Int)) = s_1 + (Lib.index (Array.toList (ByteArray.data (ByteArray.extract (ByteArray.extract s (Int.toNat s_1) (ByteArray.size s)) (2 : Nat) (ByteArray.size (ByteArray.extract s (Int.toNat s_1) (ByteArray.size s)))))) (Array.toList (ByteArray.data (mkS [(42 : Nat), (47 : Nat)]))) + (4 : Int)) ∧ (∀ (p : Nat → Option Obj), (True ∧ ∃ (m : Int), cellP p (Addr.mk (0 : Nat) (0 : Nat) none) = some (Value.int IntKind.i64 m)) → True ∧ ∃ (m : Int), cellP p (Addr.mk (0 : Nat) (0 : Nat) none) = some (Value.int IntKind.i64 m)) ∧ ((0 : Int) ≤ s_1 + (Lib.index (Array.toList (ByteArray.data (ByteArray.extract (ByteArray.extract s (Int.toNat s_1) (ByteArray.size s)) (2 : Nat) (ByteArray.size (ByteArray.extract s (Int.toNat s_1) (ByteArray.size s)))))) (Array.toList (ByteArray.data (mkS [(42 : Nat), (47 : Nat)]))) + (4 : Int)) ∧ s_1 + (Lib.index (Array.toList (ByteArray.data (ByteArray.extract (ByteArray.extract s (Int.toNat s_1) (ByteArray.size s)) (2 : Nat) (ByteArray.size (ByteArray.extract s (Int.toNat s_1) (ByteArray.size s)))))) (Array.toList (ByteArray.data (mkS [(42 : Nat), (47 : Nat)]))) + (4 : Int)) ≤ (↑(ByteArray.size s) : Int) ∧ spR s (Int.toNat (s_1 + (Lib.index (Array.toList (ByteArray.data (ByteArray.extract (ByteArray.extract s (Int.toNat s_1) (ByteArray.size s)) (2 : Nat) (ByteArray.size (ByteArray.extract s (Int.toNat s_1) (ByteArray.size s)))))) (Array.toList (ByteArray.data (mkS [(42 : Nat), (47 : Nat)]))) + (4 : Int)))) = spR s (Int.toNat i)) ∧ ByteArray.size s - Int.toNat (s_1 + (Lib.index (Array.toList (ByteArray.data (ByteArray.extract (ByteArray.extract s (Int.toNat s_1) (ByteArray.size s)) (2 : Nat) (ByteArray.size (ByteArray.extract s (Int.toNat s_1) (ByteArray.size s)))))) (Array.toList (ByteArray.data (mkS [(42 : Nat), (47 : Nat)]))) + (4 : Int))) < ByteArray.size s - Int.toNat s_1 ∧ True)) ∧ (hasPre (ByteArray.extract s (Int.toNat s_1) (ByteArray.size s)) (mkS [(47 : Nat), (42 : Nat)]) = false → Prod.fst (spR s (Int.toNat i)) = true ∧ s = s ∧ Int.ofNat (Prod.snd (spR s (Int.toNat i))) = s_1 ∧ True))))) ∧ (decide ((9 : Int) ≤ (↑(bat s (Int.toNat (s_1 + (0 : Int)))) : Int)) = false → (decide ((↑(bat s (Int.toNat (s_1 + (0 : Int)))) : Int) = (32 : Int)) = true → ((-9223372036854775808 : Int) ≤ s_1 + (1 : Int) ∧ s_1 + (1 : Int) ≤ (9223372036854775807 : Int)) ∧ s = s ∧ s_1 + (1 : Int) = s_1 + (1 : Int) ∧ (∀ (p : Nat → Option Obj), (True ∧ ∃ (m : Int), cellP p (Addr.mk (0 : Nat) (0 : Nat) none) = some (Value.int IntKind.i64 m)) → True ∧ ∃ (m : Int), cellP p (Addr.mk (0 : Nat) (0 : Nat) none) = some (Value.int IntKind.i64 m)) ∧ ((0 : Int) ≤ s_1 + (1 : Int) ∧ s_1 + (1 : Int) ≤ (↑(ByteArray.size s) : Int) ∧ spR s (Int.toNat (s_1 + (1 : Int))) = spR s (Int.toNat i)) ∧ ByteArray.size s - Int.toNat (s_1 + (1 : Int)) < ByteArray.size s - Int.toNat s_1 ∧ True) ∧ (decide ((↑(bat s (Int.toNat (s_1 + (0 : Int)))) : Int) = (32 : Int)) = false → s = s ∧ s_1 = s_1 ∧ ((0 : Int) ≤ s_1 ∧ s_1 ≤ (↑(ByteArray.size s) : Int)) ∧ ByteArray.extract s (Int.toNat s_1) (ByteArray.size s) = ByteArray.extract s (Int.toNat s_1) (ByteArray.size s) ∧ mkS [(47 : Nat), (47 : Nat)] = mkS [(47 : Nat), (47 : Nat)] ∧ True ∧ (hasPre (ByteArray.extract s (Int.toNat s_1) (ByteArray.size s)) (mkS [(47 : Nat), (47 : Nat)]) = true → s = s ∧ s_1 = s_1 ∧ ((0 : Int) ≤ s_1 ∧ s_1 ≤ (↑(ByteArray.size s) : Int)) ∧ ByteArray.extract s (Int.toNat s_1) (ByteArray.size s) = ByteArray.extract s (Int.toNat s_1) (ByteArray.size s) ∧ (10 : Int) = (10 : Int) ∧ ((0 : Int) ≤ (10 : Int) ∧ (10 : Int) < (256 : Int)) ∧ (decide (Lib.indexByte (Array.toList (ByteArray.data (ByteArray.extract s (Int.toNat s_1) (ByteArray.size s)))) (UInt8.ofNat (10 : Nat)) < (0 : Int)) = true → s = s ∧ s_1 = s_1 ∧ ((0 : Int) ≤ s_1 ∧ s_1 ≤ (↑(ByteArray.size s) : Int)) ∧ ((-9223372036854775808 : Int) ≤ s_1 + (↑(ByteArray.size (ByteArray.extract s (Int.toNat s_1) (ByteArray.size s))) : Int) ∧ s_1 + (↑(ByteArray.size (ByteArray.extract s (Int.toNat s_1) (ByteArray.size s))) : Int) ≤ (9223372036854775807 : Int)) ∧ s = s ∧ s_1 + (↑(ByteArray.size (ByteArray.extract s (Int.toNat s_1) (ByteArray.size s))) : Int) = s_1 + (↑(ByteArray.size (ByteArray.extract s (Int.toNat s_1) (ByteArray.size s))) : Int) ∧ (∀ (p : Nat → Option Obj), (True ∧ ∃ (m : Int), cellP p (Addr.mk (0 : Nat) (0 : Nat) none) = some (Value.int IntKind.i64 m)) → True ∧ ∃ (m : Int), cellP p (Addr.mk (0 : Nat) (0 : Nat) none) = some (Value.int IntKind.i64 m)) ∧ ((0 : Int) ≤ s_1 + (↑(ByteArray.size (ByteArray.extract s (Int.toNat s_1) (ByteArray.size s))) : Int) ∧ s_1 + (↑(ByteArray.size (ByteArray.extract s (Int.toNat s_1) (ByteArray.size s))) : Int) ≤ (↑(ByteArray.size s) : Int) ∧ spR s (Int.toNat (s_1 + (↑(ByteArray.size (ByteArray.extract s (Int.toNat s_1) (ByteArray.size s))) : Int))) = spR s (Int.toNat i)) ∧ ByteArray.size s - Int.toNat (s_1 + (↑(ByteArray.size (ByteArray.extract s (Int.toNat s_1) (ByteArray.size s))) : Int)) < ByteArray.size s - Int.toNat s_1 ∧ True) ∧ (decide (Lib.indexByte (Array.toList (ByteArray.data (ByteArray.extract s (Int.toNat s_1) (ByteArray.size s)))) (UInt8.ofNat (10 : Nat)) < (0 : Int)) = false → ((-9223372036854775808 : Int) ≤ s_1 + Lib.indexByte (Array.toList (ByteArray.data (ByteArray.extract s (Int.toNat s_1) (ByteArray.size s)))) (UInt8.ofNat (10 : Nat)) ∧ s_1 + Lib.indexByte (Array.toList (ByteArray.data (ByteArray.extract s (Int.toNat s_1) (ByteArray.size s)))) (UInt8.ofNat (10 : Nat)) ≤ (9223372036854775807 : Int)) ∧ s = s ∧ s_1 + Lib.indexByte (Array.toList (ByteArray.data (ByteArray.extract s (Int.toNat s_1) (ByteArray.size s)))) (UInt8.ofNat (10 : Nat)) = s_1 + Lib.indexByte (Array.toList (ByteArray.data (ByteArray.extract s (Int.toNat s_1) (ByteArray.size s)))) (UInt8.ofNat (10 : Nat)) ∧ (∀ (p : Nat → Option Obj), (True ∧ ∃ (m : Int), cellP p (Addr.mk (0 : Nat) (0 : Nat) none) = some (Value.int IntKind.i64 m)) → True ∧ ∃ (m : Int), cellP p (Addr.mk (0 : Nat) (0 : Nat) none) = some (Value.int IntKind.i64 m)) ∧ ((0 : Int) ≤ s_1 + Lib.indexByte (Array.toList (ByteArray.data (ByteArray.extract s (Int.toNat s_1) (ByteArray.size s)))) (UInt8.ofNat (10 : Nat)) ∧ s_1 + Lib.indexByte (Array.toList (ByteArray.data (ByteArray.extract s (Int.toNat s_1) (ByteArray.size s)))) (UInt8.ofNat (10 : Nat)) ≤ (↑(ByteArray.size s) : Int) ∧ spR s (Int.toNat (s_1 + Lib.indexByte (Array.toList (ByteArray.data (ByteArray.extract s (Int.toNat s_1) (ByteArray.size s)))) (UInt8.ofNat (10 : Nat)))) = spR s (Int.toNat i)) ∧ ByteArray.size s - Int.toNat (s_1 + Lib.indexByte (Array.toList (ByteArray.data (ByteArray.extract s (Int.toNat s_1) (ByteArray.size s)))) (UInt8.ofNat (10 : Nat))) < ByteArray.size s - Int.toNat s_1 ∧ True)) ∧ (hasPre (ByteArray.extract s (Int.toNat s_1) (ByteArray.size s)) (mkS [(47 : Nat), (47 : Nat)]) = false → s = s ∧ s_1 = s_1 ∧ ((0 : Int) ≤ s_1 ∧ s_1 ≤ (↑(ByteArray.size s) : Int)) ∧ ByteArray.extract s (Int.toNat s_1) (ByteArray.size s) = ByteArray.extract s (Int.toNat s_1) (ByteArray.size s) ∧ mkS [(47 : Nat), (42 : Nat)] = mkS [(47 : Nat), (42 : Nat)] ∧ True ∧ (hasPre (ByteArray.extract s (Int.toNat s_1) (ByteArray.size s)) (mkS [(47 : Nat), (42 : Nat)]) = true → s = s ∧ s_1 = s_1 ∧ ((0 : Int) ≤ s_1 ∧ s_1 ≤ (↑(ByteArray.size s) : Int)) ∧ ((0 : Int) ≤ (2 : Int) ∧ (2 : Int) ≤ (↑(ByteArray.size (ByteArray.extract s (Int.toNat s_1) (ByteArray.size s))) : Int)) ∧ ByteArray.extract (ByteArray.extract s (Int.toNat s_1) (ByteArray.size s)) (2 : Nat) (ByteArray.size (ByteArray.extract s (Int.toNat s_1) (ByteArray.size s))) = ByteArray.extract (ByteArray.extract s (Int.toNat s_1) (ByteArray.size s)) (2 : Nat) (ByteArray.size (ByteArray.extract s (Int.toNat s_1) (ByteArray.size s))) ∧ mkS [(42 : Nat), (47 : Nat)] = mkS [(42 : Nat), (47 : Nat)] ∧ ByteArray.size (ByteArray.extract (ByteArray.extract s (Int.toNat s_1) (ByteArray.size s)) (2 : Nat) (ByteArray.size (ByteArray.extract s (Int.toNat s_1) (ByteArray.size s)))) < (4294967281 : Nat) ∧ (∀ (p : Nat → Option Obj), (True ∧ ∃ (m : Int), cellP p (Addr.mk (0 : Nat) (0 : Nat) none) = some (Value.int IntKind.i64 m)) → ∃ (m : Int), cellP p (Addr.mk (0 : Nat) (0 : Nat) none) = some (Value.int IntKind.i64 m)) ∧ (decide (Lib.index (Array.toList (ByteArray.data (ByteArray.extract (ByteArray.extract s (Int.toNat s_1) (ByteArray.size s)) (2 : Nat) (ByteArray.size (ByteArray.extract s (Int.toNat s_1) (ByteArray.size s)))))) (Array.toList (ByteArray.data (mkS [(42 : Nat), (47 : Nat)]))) < (0 : Int)) = true → Prod.fst (spR s (Int.toNat i)) = false ∧ s = s ∧ Int.ofNat (Prod.snd (spR s (Int.toNat i))) = s_1 ∧ True) ∧ (decide (Lib.index (Array.toList (ByteArray.data (ByteArray.extract (ByteArray.extract s (Int.toNat s_1) (ByteArray.size s)) (2 : Nat) (ByteArray.size (ByteArray.extract s (Int.toNat s_1) (ByteArray.size s)))))) (Array.toList (ByteArray.data (mkS [(42 : Nat), (47 : Nat)]))) < (0 : Int)) = false → ((-9223372036854775808 : Int) ≤ Lib.index (Array.toList (ByteArray.data (ByteArray.extract (ByteArray.extract s (Int.toNat s_1) (ByteArray.size s)) (2 : Nat) (ByteArray.size (ByteArray.extract s (Int.toNat s_1) (ByteArray.size s)))))) (Array.toList (ByteArray.data (mkS [(42 : Nat), (47 : Nat)]))) + (4 : Int) ∧ Lib.index (Array.toList (ByteArray.data (ByteArray.extract (ByteArray.extract s (Int.toNat s_1) (ByteArray.size s)) (2 : Nat) (ByteArray.size (ByteArray.extract s (Int.toNat s_1) (ByteArray.size s)))))) (Array.toList (ByteArray.data (mkS [(42 : Nat), (47 : Nat)]))) + (4 : Int) ≤ (9223372036854775807 : Int)) ∧ ((-9223372036854775808 : Int) ≤ s_1 + (Lib.index (Array.toList (ByteArray.data (ByteArray.extract (ByteArray.extract s (Int.toNat s_1) (ByteArray.size s)) (2 : Nat) (ByteArray.size (ByteArray.extract s (Int.toNat s_1) (ByteArray.size s)))))) (Array.toList (ByteArray.data (mkS [(42 : Nat), (47 : Nat)]))) + (4 : Int)) ∧ s_1 + (Lib.index (Array.toList (ByteArray.data (ByteArray.extract (ByteArray.extract s (Int.toNat s_1) (ByteArray.size s)) (2 : Nat) (ByteArray.size (ByteArray.extract s (Int.toNat s_1) (ByteArray.size s)))))) (Array.toList (ByteArray.data (mkS [(42 : Nat), (47 : Nat)]))) + (4 : Int)) ≤ (9223372036854775807 : Int)) ∧ s = s ∧ s_1 + (Lib.index (Array.toList (ByteArray.data (ByteArray.extract (ByteArray.extract s (Int.toNat s_1) (ByteArray.size s)) (2 : Nat) (ByteArray.size (ByteArray.extract s (Int.toNat s_1) (ByteArray.size s)))))) (Array.toList (ByteArray.data (mkS [(42 : Nat), (47 : Nat)]))) + (4 : Int)) = s_1 + (Lib.index (Array.toList (ByteArray.data (ByteArray.extract (ByteArray.extract s (Int.toNat s_1) (ByteArray.size s)) (2 : Nat) (ByteArray.size (ByteArray.extract s (Int.toNat s_1) (ByteArray.size s)))))) (Array.toList (ByteArray.data (mkS [(42 : Nat), (47 : Nat)]))) + (4 : Int)) ∧ (∀ (p : Nat → Option Obj), (True ∧ ∃ (m : Int), cellP p (Addr.mk (0 : Nat) (0 : Nat) none) = some (Value.int IntKind.i64 m)) → True ∧ ∃ (m : Int), cellP p (Addr.mk (0 : Nat) (0 : Nat) none) = some (Value.int IntKind.i64 m)) ∧ ((0 : Int) ≤ s_1 + (Lib.index (Array.toList (ByteArray.data (ByteArray.extract (ByteArray.extract s (Int.toNat s_1) (ByteArray.size s)) (2 : Nat) (ByteArray.size (ByteArray.extract s (Int.toNat s_1) (ByteArray.size s)))))) (Array.toList (ByteArray.data (mkS [(42 : Nat), (47 : Nat)]))) + (4 : Int)) ∧ s_1 + (Lib.index (Array.toList (ByteArray.data (ByteArray.extract (ByteArray.extract s (Int.toNat s_1) (ByteArray.size s)) (2 : Nat) (ByteArray.size (ByteArray.extract s (Int.toNat s_1) (ByteArray.size s)))))) (Array.toList (ByteArray.data (mkS [(42 : Nat), (47 : Nat)]))) + (4 : Int)) ≤ (↑(ByteArray.size s) : Int) ∧ spR s (Int.toNat (s_1 + (Lib.index (Array.toList (ByteArray.data (ByteArray.extract (ByteArray.extract s (Int.toNat s_1) (ByteArray.size s)) (2 : Nat) (ByteArray.size (ByteArray.extract s (Int.toNat s_1) (ByteArray.size s)))))) (Array.toList (ByteArray.data (mkS [(42 : Nat), (47 : Nat)]))) + (4 : Int)))) = spR s (Int.toNat i)) ∧ ByteArray.size s - Int.toNat (s_1 + (Lib.index (Array.toList (ByteArray.data (ByteArray.extract (ByteArray.extract s (Int.toNat s_1) (ByteArray.size s)) (2 : Nat) (ByteArray.size (ByteArray.extract s (Int.toNat s_1) (ByteArray.size s)))))) (Array.toList (ByteArray.data (mkS [(42 : Nat), (47 : Nat)]))) + (4 : Int))) < ByteArray.size s - Int.toNat s_1 ∧ True)) ∧ (hasPre (ByteArray.extract s (Int.toNat s_1) (ByteArray.size s)) (mkS [(47 : Nat), (42 : Nat)]) = false → Prod.fst (spR s (Int.toNat i)) = true ∧ s = s ∧ Int.ofNat (Prod.snd (spR s (Int.toNat i))) = s_1 ∧ True))))) := by kernel_rfl
theorem tSpace_ok : ∀ g C, tSpace g = some C → CtOK P g C := ctTab_ok (forall_tab byteAt_ok (forall_tab left_ok (forall_tab hasPrefix_ok (forall_tab indexByte_ok (forall_tab index_ok nil_tab)))))
theorem isSp_of (c : Nat) : isSp c = true ↔ (9 ≤ c ∧ c ≤ 13) ∨ c = 32 := by simp [isSp]
theorem space_ok : CtOK P 15 cSpace := by
  refine ask_ok mixed tSpace_ok (W := wSpace) Go.Proofs.Try.func15 (by kernel_rfl) (by decide) (by decide) (fun ⟨s, i⟩ => by kernel_rfl) fun ⟨s, i⟩ => (space_eq s i).mpr ?_
  rintro ⟨h1, h2, h3⟩ hp
  obtain ⟨i, rfl⟩ := Int.eq_ofNat_of_zero_le h1
  refine ⟨⟨rfl, rfl, fun p h => h, ⟨h1, h2, rfl⟩, trivial⟩, ?_⟩
  rintro j ⟨g1, g2, g3⟩
  obtain ⟨n, rfl⟩ := Int.eq_ofNat_of_zero_le g1
  have hn : n ≤ s.size := by omega
  have step := spR_step s n hn
  have hs : (s.extract n s.size).size = s.size - n := by rw [ByteArray.size_extract]; omega
  have e2 : ((s.extract n s.size).extract 2 (s.size - n)).data.toList = s.data.toList.drop (n + 2) := by
    rw [ByteArray.data_extract, Array.toList_extract, List.extract_eq_take_drop, ext_list, List.drop_drop, List.take_of_length_le]
    rw [List.length_drop, Array.length_toList]; show s.size - (n + 2) ≤ _; omega
  have hsp := isSp_of (bat s n)
  simp only [decide_eq_true_eq, decide_eq_false_iff_not, and_true, true_and, Int.toNat_natCast, Int.add_zero, hasPre2 s n 47 47 hn (by omega) (by omega), hasPre2 s n 47 42 hn (by omega) (by omega), ext_list, hs, e2, ixB s _ n hn rfl] at g3 ⊢
  have spc : isSp (bat s n) = true → spR s (n + 1) = spR s i ∧ n + 1 ≤ s.size := fun q => by
    have := isSp_pos q
    rw [if_pos q] at step
    exact ⟨step ▸ g3, by omega⟩
  refine ⟨by omega, fun a1 => ⟨fun a2 => ?a, fun a2 => ⟨fun a3 => ?b, fun a3 => ?x⟩⟩, fun a1 => ⟨fun a3 => ?c, fun a3 => ?y⟩⟩
  case a | b | c =>
    obtain ⟨q1, q2⟩ := spc (hsp.mpr (by omega))
    exact ⟨by omega, fun p h => h, ⟨by omega, by omega, by rw [show ((n : Int) + 1).toNat = n + 1 by omega]; exact q1⟩, by omega⟩
  case x | y =>
    have ns : ¬ isSp (bat s n) = true := fun q => by have := hsp.mp q; omega
    rw [if_neg ns] at step
    refine ⟨by omega, fun c1 => ⟨by omega, by omega, fun d1 => ?_, fun d1 => ?_⟩, fun c1 => ⟨by omega, fun c2 => ⟨by omega, ?_, ?_, fun p h => h, fun d1 => ?_, fun d1 => ?_⟩, fun c2 => ?_⟩⟩
    · have ge := eol_gt s n c1
      have nlt : ¬ eol s n < s.size := fun h => by rw [if_pos h] at d1; omega
      rw [if_pos c1] at step
      rw [show ((n : Int) + ((s.size - n : Nat) : Int)).toNat = s.size by omega]
      have e : eol s n = s.size := by omega
      rw [e] at step
      exact ⟨by omega, by omega, fun p h => h, ⟨by omega, by omega, step ▸ g3⟩, by omega⟩
    · have ge := eol_gt s n c1
      have nlt : eol s n < s.size := by
        rcases Nat.lt_or_ge (eol s n) s.size with h | h
        · exact h
        · rw [if_neg (by omega)] at d1; omega
      rw [if_pos nlt] at *
      rw [if_pos c1] at step
      rw [show ((n : Int) + ((eol s n - n : Nat) : Int)).toNat = eol s n by omega]
      exact ⟨by omega, fun p h => h, ⟨by omega, by omega, step ▸ g3⟩, by omega⟩
    · have p1 := bat_pos (s := s) (k := n + 1) (by omega)
      omega
    · rw [ByteArray.size_extract]; omega
    · have p1 := bat_pos (s := s) (k := n + 1) (by omega)
      have ix := ixS s _ (n + 2) (by omega) rfl
      rw [show (mkS [42, 47]).data.toList = [UInt8.ofNat 42, UInt8.ofNat 47] from rfl, ix] at d1
      rw [if_neg c1, if_pos c2] at step
      cases hc : cl s (n + 2) with
      | some m => rw [hc] at d1; simp only [] at d1; omega
      | none =>
        rw [hc] at step
        rw [← g3, step]; exact ⟨rfl, rfl⟩
    · have p1 := bat_pos (s := s) (k := n + 1) (by omega)
      have ix := ixS s _ (n + 2) (by omega) rfl
      rw [show (mkS [42, 47]).data.toList = [UInt8.ofNat 42, UInt8.ofNat 47] from rfl, ix] at d1 ⊢
      rw [if_neg c1, if_pos c2] at step
      cases hc : cl s (n + 2) with
      | none => rw [hc] at d1; simp only [] at d1; omega
      | some m =>
        rw [hc] at step
        have := cl_le s _ _ _ rfl hc
        simp only []
        rw [show ((n : Int) + (((m - (n + 2) : Nat) : Int) + 4)).toNat = m + 2 by omega]
        have step : spR s n = spR s (m + 2) := step
        exact ⟨by omega, by omega, fun p h => h, ⟨by omega, by omega, step ▸ g3⟩, by omega⟩
    · rw [if_neg c1, if_neg c2] at step
      rw [← g3, step]; exact ⟨rfl, rfl⟩
/-! Numbers. -/
noncomputable def nbK (e k : Nat) : Nat := if e = 0 then k else 0
noncomputable def cNumber : Ct := { ctCur (fun s i => 0 ≤ i ∧ i < s.size ∧ s.size < 100000 ∧ isDig (bat s i.toNat) = true) (fun s i => .tup [tokA (nbK (nbR s i.toNat).1 2) (mkS []) (nbR s i.toNat).2.1 (nbK (nbR s i.toNat).1 i.toNat), .sv (.int .i64 ((nbR s i.toNat).1 : Nat))]) (fun s i => ((nbR s i.toNat).2.2 : Nat)) with }
noncomputable def sl3 (t : T AV) : Option (Int × Bool × Int) := match slI t 6 with
  | some n => match t.get 7 with
    | some a => match gb a with
      | some b => match slI t 8 with
        | some i => some (n, b, i)
        | none => none
      | none => none
    | none => none
  | none => none
noncomputable def nbInv (s : ByteArray) (i : Int) (n : Int) (o : Bool) (j : Int) : Prop := ∃ V : Nat, n = ((V % 18446744073709551616 : Nat) : Int) ∧ o = decide (18446744073709551616 ≤ V) ∧ 0 ≤ j ∧ i + j ≤ s.size ∧ dgE s (nbB s i.toNat) (i + j).toNat V = dgE s (nbB s i.toNat) (i.toNat + nbO s i.toNat) 0
noncomputable def wNumber : cNumber.σ → WayF := fun ⟨s, i⟩ => {
  ann := fun _ _ _ => some { σ := Int × Bool × Int, pre := fun ⟨n, o, j⟩ => nbInv s i n o j, find := some fun t _ => sl3 t, t := fun ⟨n, o, j⟩ => [(6, .sv (.int .u64 n)), (7, .sv (.bool o)), (8, .sv (.int .i64 j))], h := fun _ => [], more := 0, μ := fun ⟨n, o, j⟩ => s.size - (i + j).toNat, keep := [0, 2, 4, 5] }
  cut := fun r _ _ => match r with
    | 9 => some { σ := Unit, find := some fun _ _ => some (), t := fun _ => [(5, .sv (.int .u64 (nbB s i.toNat : Nat))), (8, .sv (.int .i64 (nbO s i.toNat : Nat)))], h := fun _ => [], more := 0, μ := fun _ => 0, keep := [0, 2, 4, 6, 7] }
    | _ => none }
noncomputable def tNumber : Nat → Option Ct := ctTab [(20, cByteAt), (45, cValue), (25, cLetter), (27, cDigit)]
/-! Texts. -/
noncomputable def txR (s : ByteArray) (q i : Nat) : Nat × ByteArray × Nat := match txE s q (i + 1) [] with
  | some (l, to) => if vld (bs l) = true then (0, bs l, to) else (2, mkS [], i)
  | none => (2, mkS [], i)
noncomputable def cText : Ct where
  σ := ByteArray × Int × Int
  args := fun ⟨s, i, q⟩ => [.ptr 1 0, .sv (.int .u8 q)]
  h := fun ⟨s, i, q⟩ => cur s i
  m := 2
  pre := fun ⟨s, i, q⟩ => 0 ≤ i ∧ i < s.size ∧ s.size < 100000 ∧ (q = 34 ∨ q = 39)
  find := some fun l h => match l with
    | [.ptr id _, a] => match gi a with
      | some (_, d) => match curOf h id with
        | some (s, i) => some (s, i, d)
        | none => none
      | none => none
    | _ => none
  r := fun ⟨s, i, q⟩ => .tup [tokA (nbK (txR s q.toNat i.toNat).1 3) (txR s q.toNat i.toNat).2.1 0 (nbK (txR s q.toNat i.toNat).1 i.toNat), .sv (.int .i64 ((txR s q.toNat i.toNat).1 : Nat))]
  h' := fun ⟨s, i, q⟩ => cur s ((txR s q.toNat i.toNat).2.2 : Nat)
  m' := 2
  g := fun _ => none
noncomputable def txFind (t : T AV) (h : T AO) : Option (List Value × Int) := match slI t 7 with
  | some j => match t.get 6 with
    | some (.ssl id _ _ _ _) => match h.get id with
      | some (.row _ _ vs) => some (vs, j)
      | some (.cells _ _ _ l) => match abin.concs l with
        | some vs => some (vs, j)
        | none => none
      | _ => none
    | some .nsl => some ([], j)
    | _ => none
  | none => none
noncomputable def txInv (s : ByteArray) (i q : Int) (vs : List Value) (j : Int) : Prop := ∃ l : List Nat, vs = bcells (bs l) ∧ (∀ c ∈ l, c < 256) ∧ 1 ≤ j ∧ i + j ≤ s.size + 1 ∧ l.length ≤ j.toNat ∧ txE s q.toNat (i + j).toNat l = txE s q.toNat (i.toNat + 1) []
noncomputable def wText : cText.σ → WayF := fun ⟨s, i, q⟩ => {
  ann := fun _ _ _ => some { σ := List Value × Int, pre := fun ⟨vs, j⟩ => txInv s i q vs j, find := some txFind, t := fun ⟨vs, j⟩ => [(6, .ssl 3 0 vs.length 1 4), (7, .sv (.int .i64 j))], h := fun ⟨vs, j⟩ => [(3, .row 5 0 vs)], more := 2, μ := fun ⟨vs, j⟩ => s.size + 1 - (i + j).toNat, keep := [0, 1, 4] } }
noncomputable def tText : Nat → Option Ct := ctTab [(20, cByteAt), (46, cValid), (47, cEscaped)]
/-! Words. -/
noncomputable def sgs : List Nat := [123, 125, 40, 41, 91, 93, 61, 59, 44, 60, 62, 45]
/-- A word: its error; its token; where it ends. -/
noncomputable def wdR (s : ByteArray) (i : Nat) : Nat × (Nat × ByteArray × Nat × Nat) × Nat :=
  if i = s.size then (0, (5, mkS [], 0, i), i) else
  if isLet (bat s i) = true ∨ (bat s i = 46 ∧ isLet (bat s (i + 1)) = true) then (0, (1, s.extract i (nmE s (i + 1)), 0, i), nmE s (i + 1)) else
  if isDig (bat s i) = true then ((nbR s i).1, (nbK (nbR s i).1 2, mkS [], (nbR s i).2.1, nbK (nbR s i).1 i), (nbR s i).2.2) else
  if bat s i = 34 ∨ bat s i = 39 then ((txR s (bat s i) i).1, (nbK (txR s (bat s i) i).1 3, (txR s (bat s i) i).2.1, 0, nbK (txR s (bat s i) i).1 i), (txR s (bat s i) i).2.2) else
  if bat s i ∈ sgs then (0, (4, mkS [bat s i], 0, i), i + 1) else (2, (0, mkS [], 0, 0), i)
noncomputable def tkA (x : Nat × ByteArray × Nat × Nat) : AV := tokA x.1 x.2.1 x.2.2.1 x.2.2.2
noncomputable def cWord : Ct := ctCur (fun s i => 0 ≤ i ∧ i ≤ s.size ∧ s.size < 100000) (fun s i => .tup [tkA (wdR s i.toNat).2.1, .sv (.int .i64 ((wdR s i.toNat).1 : Nat))]) (fun s i => ((wdR s i.toNat).2.2 : Nat))
noncomputable def tWord : Nat → Option Ct := ctTab [(20, cByteAt), (25, cLetter), (27, cDigit), (26, cName), (28, cNumber), (29, cText), (23, cIndexByte)]
end Go.Proofs.Ytjjambbdkbpdgaa.Wd
