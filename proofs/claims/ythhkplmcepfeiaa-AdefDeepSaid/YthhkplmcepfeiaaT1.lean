/-
  What the functions do: contracts, and their questions answered. No condition but what its theorems ask.
-/
import Derived.Test.YthhkplmcepfeiaaU6
import Derived.Test.YthhkplmcepfeiaaProg
namespace Go.Proofs.Ythhkplmcepfeiaa.Wd
open Go.Proofs.Ythhkplmcepfeiaa.Eng Go.Proofs.Ythhkplmcepfeiaa.Sen Go.RowKit
set_option linter.unusedVariables false
set_option linter.unusedSimpArgs false
set_option maxRecDepth 1000000
noncomputable abbrev P := Go.Proofs.Try.prog
theorem mixed : P.follows .mixedOrders = true := by decide +kernel
theorem no_tab : ∀ g C, (fun _ => none : Nat → Option Ct) g = some C → CtOK P g C := fun g C h => by cases h
noncomputable def slI (t : T AV) (k : Nat) : Option Int := match t.get k with
  | some a => match gi a with
    | some (_, i) => some i
    | none => none
  | none => none
theorem Pl_none : Pl noA := fun x h => by cases h
theorem Pl_some {x : Addr} (h : x.spot = none) : Pl (some x) := fun y e => by cases e; exact h
/-! Rows of records. -/
noncomputable def rowsV {α : Type} (f : α → List Value) : List α → List Value
  | [] => []
  | x :: l => f x ++ rowsV f l
theorem rows_len {α : Type} {f : α → List Value} {e : Nat} (hf : ∀ x, (f x).length = e) : ∀ l, (rowsV f l).length = l.length * e
  | [] => by simp [rowsV]
  | x :: l => by
    rw [rowsV, List.length_append, hf, rows_len hf l, List.length_cons, Nat.succ_mul]; omega
theorem rows_app {α : Type} {f : α → List Value} : ∀ l m, rowsV f (l ++ m) = rowsV f l ++ rowsV f m
  | [], m => rfl
  | x :: l, m => by
    show f x ++ rowsV f (l ++ m) = _
    rw [rows_app l m, ← List.append_assoc]; rfl
theorem rows_at {α : Type} {f : α → List Value} {e : Nat} (hf : ∀ x, (f x).length = e) : ∀ (l : List α) (i : Nat) (hi : i < l.length) (j : Nat), j < e → (rowsV f l)[i * e + j]? = (f l[i])[j]?
  | x :: l, 0, _, j, hj => by
    show (f x ++ rowsV f l)[0 * e + j]? = _
    rw [Nat.zero_mul, Nat.zero_add, List.getElem?_append_left (by rw [hf]; exact hj)]; rfl
  | x :: l, i + 1, hi, j, hj => by
    show (f x ++ rowsV f l)[(i + 1) * e + j]? = _
    have : (i + 1) * e = i * e + e := Nat.succ_mul i e
    rw [List.getElem?_append_right (by rw [hf]; omega), show (i + 1) * e + j - (f x).length = i * e + j by rw [hf]; omega]
    exact rows_at hf l i (by simpa using hi) j hj
theorem add4 (x : Addr) (h : x.spot = none) (i j : Nat) : (x.add i).add j = x.add (i + j) := by
  obtain ⟨b, o, s⟩ := x
  simp only at h
  subst h
  unfold Addr.add
  by_cases hi : i = 0
  · subst hi; simp
  · by_cases hj : j = 0
    · subst hj; simp [hi]
    · rw [if_neg hi, if_neg hj, if_neg (by omega)]
      simp only [Nat.add_assoc]
theorem rows_cells {α : Type} {f : α → List Value} {e : Nat} (hf : ∀ x, (f x).length = e) (he : 0 < e) {p : Pub} {a : Option Addr} {n c : Nat} {l : List α} (h : sliP p a n c (rowsV f l)) {i : Nat} (hi : i < l.length) : a ≠ noA ∧ cellsP p (adr a (i * e)) (f l[i]) := by
  rcases h.2 with h | ⟨x, rfl, h1, h2⟩
  · have := congrArg List.length h.1
    rw [rows_len hf, List.length_nil] at this
    have := Nat.mul_pos (show 0 < l.length by omega) he
    omega
  · refine ⟨by simp, fun j v hj => ?_⟩
    have hje : j < e := by have := (List.getElem?_eq_some_iff.mp hj).1; rw [hf] at this; exact this
    show cellP p ((x.add (i * e)).add j) = some v
    rw [add4 x h1]
    exact h2 _ v (by rw [rows_at hf l i hi j hje]; exact hj)
theorem cells_sub {p : Pub} {x : Addr} {vs : List Value} (h : cellsP p x vs) (hs : x.spot = none) (k : Nat) {v : Value} (hv : vs[k]? = some v) : cellsP p (x.add k) [v] := fun j u hj => by
  cases j with
  | zero =>
    simp at hj; subst hj
    rw [add4 x hs]
    exact h k v hv
  | succ j => simp at hj
/-! Schemas of records whose fields have defaults. -/
noncomputable abbrev nilV : Value := .slice none 0 0
structure AT where
  k : Int
  nm : ByteArray
  f : SV
  fs : List (ByteArray × Int)
noncomputable def atV (e : AT) : List Value := [.int .i64 e.k, .string e.nm, nilV, .int .i64 0, nilV, .bool false, .string (mkS []), .int .i64 0, .slice e.f.1 e.f.2.1 e.f.2.2, nilV]
noncomputable def atA (e : AT) : AV := .agg [.sv (.int .i64 e.k), .sv (.string e.nm), .sv nilV, .sv (.int .i64 0), .sv nilV, .sv (.bool false), .sv (.string (mkS [])), .sv (.int .i64 0), .sv (.slice e.f.1 e.f.2.1 e.f.2.2), .sv nilV]
noncomputable def fdV (e : ByteArray × Int) : List Value := [.string e.1, nilV, .int .i64 e.2, .bool true, .int .i64 6, .int .i64 0, .string (mkS []), nilV, nilV]
noncomputable def fdsP (S : List AT) (p : Pub) : Prop := ∀ e ∈ S, e.f.2.1 = e.fs.length ∧ sliP p e.f.1 e.f.2.1 e.f.2.2 (rowsV fdV e.fs)
theorem fdsP_mono {S : List AT} (p q : Pub) (h : Pub.le p q) (g : fdsP S p) : fdsP S q := fun e he => ⟨(g e he).1, sliP_mono h (g e he).2⟩
noncomputable def schP (S : List AT) (x : SV) (p : Pub) : Prop := (x.2.1 = S.length ∧ sliP p x.1 x.2.1 x.2.2 (rowsV atV S)) ∧ fdsP S p
noncomputable def fdsM (S : List AT) : PF := ⟨true, fdsP S, fdsP_mono⟩
noncomputable def schM (S : List AT) (x : SV) : PF := ⟨true, schP S x, fun p q h g => ⟨⟨g.1.1, sliP_mono h g.1.2⟩, fdsP_mono p q h g.2⟩⟩
noncomputable def nodeA (nk nn : Int) : AV := .agg [.sv (.int .i64 nk), .sv (.int .i64 nn), .str [], .nsl, .nsl]
noncomputable def mkr (x : SV) (c : Int) : List (Nat × AO) := [(1, .cells 62 (some 0) false [.sv (.slice x.1 x.2.1 x.2.2), .sv (.int .i64 c)])]
/-- What a default comes to: the error, and how many values there are then. -/
noncomputable def vaL (g : Int → Int → Int × Int) : List (ByteArray × Int) → Int → Int × Int
  | [], c => (0, c)
  | f :: l, c => if (g f.2 c).1 = 0 then vaL g l (g f.2 c).2 else g f.2 c
noncomputable def vaF (S : List AT) (nk : Int) : Nat → Int → Int → Int × Int
  | 0, t, c => if t < 0 ∨ (S.length : Int) ≤ t then (1, c) else (3, c + 1)
  | d + 1, t, c => if t < 0 ∨ (S.length : Int) ≤ t then (1, c) else if 2000 < c + 1 then (3, c + 1) else match S[t.toNat]? with
    | some e => if e.k = 9 then vaL (vaF S nk d) e.fs (c + 1) else (if nk = 3 then 0 else 7, c + 1)
    | none => (1, c)
noncomputable def okS (S : List AT) (nk nn : Int) : Prop := (∀ e ∈ S, e.k = 9 ∧ e.fs.length < 1000) ∧ nk = 6 ∧ nn = 0 ∨ (∀ e ∈ S, e.k = 3) ∧ (nk = 3 ∧ nn = 5 ∨ nk = 1 ∧ nn = 0)
noncomputable def vaN (nk er : Int) : Int := if nk = 3 ∧ er = 0 then 5 else 0
noncomputable def avA (n : Int) (l : AV) : AV := .agg [.sv (.int .u64 n), .str [], l, .nsl, .int .i64 0]
noncomputable def nodeK (k : Int) : AV := .agg [.int .i64 k, .int .i64 0, .str [], .nsl, .nsl]
noncomputable def plM : List SV → PF
  | [x] => ⟨true, fun _ => Pl x.1, fun _ _ _ h => h⟩
  | _ => {}
noncomputable def gAny (k : Nat) : GS := some { β := Unit, ks := [k], pre := fun _ => True, mem := fun _ xs => plM xs }
noncomputable abbrev VaS := List AT × SV × Int × Int × Int × Int × Int
noncomputable def cValue : Ct where
  σ := VaS
  args := fun ⟨S, x, t, nk, nn, d, c⟩ => [.ptr 1 0, .sv (.int .i64 t), nodeA nk nn, .sv (.int .i64 d)]
  h := fun ⟨S, x, t, nk, nn, d, c⟩ => mkr x c
  m := 2
  pre := fun ⟨S, x, t, nk, nn, d, c⟩ => S.length < 1000 ∧ 0 ≤ c ∧ c ≤ 2000 ∧ 1 ≤ d ∧ d ≤ 21 ∧ okS S nk nn
  mem := fun ⟨S, x, t, nk, nn, d, c⟩ => schM S x
  r := fun ⟨S, x, t, nk, nn, d, c⟩ => .tup [avA (vaN nk (vaF S nk (21 - d).toNat t c).1) (.tsl 2), .sv (.int .i64 (vaF S nk (21 - d).toNat t c).1)]
  h' := fun ⟨S, x, t, nk, nn, d, c⟩ => mkr x (vaF S nk (21 - d).toNat t c).2
  m' := 3
  g := fun _ => gAny 2
noncomputable abbrev RcS := List AT × SV × AT × Int × Int
noncomputable def cRecord : Ct where
  σ := RcS
  args := fun ⟨S, x, e, d, c⟩ => [.ptr 1 0, atA e, nodeK 6, .sv (.int .i64 d)]
  h := fun ⟨S, x, e, d, c⟩ => mkr x c
  m := 2
  pre := fun ⟨S, x, e, d, c⟩ => S.length < 1000 ∧ 1 ≤ c ∧ c ≤ 2000 ∧ 1 ≤ d ∧ d ≤ 20 ∧ e ∈ S ∧ (∀ e ∈ S, e.k = 9 ∧ e.fs.length < 1000)
  mem := fun ⟨S, x, e, d, c⟩ => schM S x
  r := fun ⟨S, x, e, d, c⟩ => .tup [avA 0 (.tsl 2), .sv (.int .i64 (vaL (vaF S 6 (20 - d).toNat) e.fs c).1)]
  h' := fun ⟨S, x, e, d, c⟩ => mkr x (vaL (vaF S 6 (20 - d).toNat) e.fs c).2
  m' := 3
  g := fun _ => gAny 2
noncomputable def muV : VaS → Nat := fun ⟨S, x, t, nk, nn, d, c⟩ => (21 - d).toNat
noncomputable def muR : RcS → Nat := fun ⟨S, x, e, d, c⟩ => (21 - d).toNat
noncomputable def cPlain : Ct where
  σ := AT × Int × Int
  args := fun ⟨e, nk, nn⟩ => [.agg [.int .i64 3, .sv (.string e.nm), .sv nilV, .sv (.int .i64 0), .sv nilV, .sv (.bool false), .sv (.string (mkS [])), .sv (.int .i64 0), .sv (.slice e.f.1 e.f.2.1 e.f.2.2), .sv nilV], nodeA nk nn]
  h := fun _ => []
  m := 1
  pre := fun ⟨e, nk, nn⟩ => (nk = 3 ∧ nn = 5 ∨ nk = 1 ∧ nn = 0)
  r := fun ⟨e, nk, nn⟩ => .tup [avA (if nk = 3 then 5 else 0) .nsl, .sv (.int .i64 (if nk = 3 then 0 else 7))]
  h' := fun _ => []
  m' := 1
  g := fun _ => none
noncomputable def cIndex0 : Ct where
  σ := ByteArray
  args := fun s => [.nsl, .sv (.string s)]
  h := fun _ => []
  m := 1
  r := fun s => .int .i64 (-1)
  h' := fun _ => []
  m' := 1
  g := fun _ => none
noncomputable def cGet0 : Ct where
  σ := ByteArray
  args := fun s => [nodeK 6, .sv (.string s)]
  h := fun _ => []
  m := 1
  r := fun s => .tup [nodeK 0, .bool false]
  h' := fun _ => []
  m' := 1
  g := fun _ => none
noncomputable def cVal0 : Ct where
  σ := List AT × SV × Int × Int × Int
  args := fun ⟨S, x, t, nk, nn⟩ => [.agg [.sv (.slice x.1 x.2.1 x.2.2)], .sv (.int .i64 t), nodeA nk nn]
  h := fun _ => []
  m := 1
  pre := fun ⟨S, x, t, nk, nn⟩ => S.length < 1000 ∧ okS S nk nn
  mem := fun ⟨S, x, t, nk, nn⟩ => schM S x
  r := fun ⟨S, x, t, nk, nn⟩ => .tup [avA (vaN nk (vaF S nk 20 t 0).1) (.tsl 1), .sv (.int .i64 (vaF S nk 20 t 0).1)]
  h' := fun _ => []
  m' := 2
  g := fun _ => gAny 1
/-- The fields' values one behind the other. -/
noncomputable def rcFind (t : T AV) (h : T AO) : Option (List Value × Nat × Int × Int) := match slI t 24 with
  | some j => match h.get 1 with
    | some (.cells _ _ _ [_, c]) => match gi c with
      | some (_, c) => match h.get 5 with
        | some (.cells _ _ _ [_, _, .ssl id _ n _ _, _, _]) => match h.get id with
          | some (.row _ _ vs) => some (vs, n, j, c)
          | some (.cells _ _ _ l) => match abin.concs l with
            | some vs => some (vs, n, j, c)
            | none => none
          | _ => none
        | some (.cells _ _ _ [_, _, .sl id _ n _, _, _]) => match h.get id with
          | some (.cells _ _ _ l) => match abin.concs l with
            | some vs => some (vs, n, j, c)
            | none => none
          | _ => none
        | some (.cells _ _ _ [_, _, .nsl, _, _]) => some ([], 0, j, c)
        | _ => none
      | none => none
    | _ => none
  | none => none
noncomputable def rcInv (S : List AT) (e : AT) (d c0 : Int) (vs : List Value) (n : Nat) (j c : Int) : Prop := 0 ≤ j ∧ j ≤ e.fs.length ∧ n = j.toNat ∧ vs.length = n * 5 ∧ 1 ≤ c ∧ c ≤ 2000 ∧ vaL (vaF S 6 (20 - d).toNat) (e.fs.drop j.toNat) c = vaL (vaF S 6 (20 - d).toNat) e.fs c0
noncomputable def wRecord : cRecord.σ → WayF := fun ⟨S, x, e, d, c0⟩ => {
  ann := fun _ _ _ => some { σ := List Value × Nat × Int × Int, pre := fun ⟨vs, n, j, c⟩ => rcInv S e d c0 vs n j c, find := some rcFind, t := fun ⟨vs, n, j, c⟩ => [(24, .sv (.int .i64 j))], h := fun ⟨vs, n, j, c⟩ => [(6, .row 39 0 vs), (5, .cells 39 (some 0) false [.int .u64 0, .str [], .ssl 6 0 n 5 7, .nsl, .int .i64 0])] ++ mkr x c, more := 2, μ := fun ⟨vs, n, j, c⟩ => e.fs.length - j.toNat, keep := [0, 3, 5, 6, 8, 10, 22, 23] }
  pubE := [68] }
theorem index0_eq (s : ByteArray) : askF P (fun _ => none) Go.Proofs.Try.f82 cIndex0 (fun _ => { unr := 1 }) s = (True → True) := by kernel_rfl
theorem get0_eq (s : ByteArray) : askF P (ctTab [(82, cIndex0)]) Go.Proofs.Try.f62 cGet0 (fun _ => {}) s = (True → ∃ (s_1 : ByteArray), s_1 = s ∧ True ∧ True) := by kernel_rfl
theorem plain_eq (e : AT) (nk nn : Int) : askF P (fun _ => none) Go.Proofs.Try.f33 cPlain (fun _ => {}) ⟨e, nk, nn⟩ = (nk = (3 : Int) ∧ nn = (5 : Int) ∨ nk = (1 : Int) ∧ nn = (0 : Int) → (decide (nk = (3 : Int)) = true → (decide ((-2147483648 : Int) ≤ nn) = true → (decide (nn ≤ (2147483647 : Int)) = true → (if nk = (3 : Int) then (5 : Int) else (0 : Int)) = IntKind.wrap IntKind.u64 nn ∧ (if nk = (3 : Int) then (0 : Int) else (7 : Int)) = (0 : Int) ∧ True) ∧ (decide (nn ≤ (2147483647 : Int)) = false → ((!decide (nk = (4 : Int))) = true → (if nk = (3 : Int) then (5 : Int) else (0 : Int)) = (0 : Int) ∧ (if nk = (3 : Int) then (0 : Int) else (7 : Int)) = (7 : Int) ∧ True) ∧ ((!decide (nk = (4 : Int))) = false → False))) ∧ (decide ((-2147483648 : Int) ≤ nn) = false → ((!decide (nk = (4 : Int))) = true → (if nk = (3 : Int) then (5 : Int) else (0 : Int)) = (0 : Int) ∧ (if nk = (3 : Int) then (0 : Int) else (7 : Int)) = (7 : Int) ∧ True) ∧ ((!decide (nk = (4 : Int))) = false → False))) ∧ (decide (nk = (3 : Int)) = false → ((!decide (nk = (4 : Int))) = true → (if nk = (3 : Int) then (5 : Int) else (0 : Int)) = (0 : Int) ∧ (if nk = (3 : Int) then (0 : Int) else (7 : Int)) = (7 : Int) ∧ True) ∧ ((!decide (nk = (4 : Int))) = false → False))) := by kernel_rfl
theorem value_eq (n : Nat) (S : List AT) (x : SV) (t nk nn d c : Int) : askF P (ctTab [(31, cRecord.below muR (n + 1)), (33, cPlain)]) Go.Proofs.Try.f18 (cValue.below muV (n + 1)) (fun _ => {}) ⟨S, x, t, nk, nn, d, c⟩ = (muV (S, x, t, nk, nn, d, c) < n + (1 : Nat) ∧ List.length S < (1000 : Nat) ∧ (0 : Int) ≤ c ∧ c ≤ (2000 : Int) ∧ (1 : Int) ≤ d ∧ d ≤ (21 : Int) ∧ okS S nk nn → (∃ (p : Nat → Option Obj), True ∧ schP S x p) → (decide (t < (0 : Int)) = true → ∃ (b : Unit), vaN nk (Prod.fst (vaF S nk (Int.toNat ((21 : Int) - d)) t c)) = (0 : Int) ∧ noA = noA ∧ (0 : Nat) = (0 : Nat) ∧ (0 : Nat) = (0 : Nat) ∧ Prod.fst (vaF S nk (Int.toNat ((21 : Int) - d)) t c) = (1 : Int) ∧ Prod.fst x = Prod.fst x ∧ Prod.fst (Prod.snd x) = Prod.fst (Prod.snd x) ∧ Prod.snd (Prod.snd x) = Prod.snd (Prod.snd x) ∧ Prod.snd (vaF S nk (Int.toNat ((21 : Int) - d)) t c) = c ∧ Pl noA ∧ True ∧ (∀ (p : Nat → Option Obj), True ∧ schP S x p → Pl noA) ∧ True) ∧ (decide (t < (0 : Int)) = false → (decide ((↑(Prod.fst (Prod.snd x)) : Int) ≤ t) = true → ∃ (b : Unit), vaN nk (Prod.fst (vaF S nk (Int.toNat ((21 : Int) - d)) t c)) = (0 : Int) ∧ noA = noA ∧ (0 : Nat) = (0 : Nat) ∧ (0 : Nat) = (0 : Nat) ∧ Prod.fst (vaF S nk (Int.toNat ((21 : Int) - d)) t c) = (1 : Int) ∧ Prod.fst x = Prod.fst x ∧ Prod.fst (Prod.snd x) = Prod.fst (Prod.snd x) ∧ Prod.snd (Prod.snd x) = Prod.snd (Prod.snd x) ∧ Prod.snd (vaF S nk (Int.toNat ((21 : Int) - d)) t c) = c ∧ Pl noA ∧ True ∧ (∀ (p : Nat → Option Obj), True ∧ schP S x p → Pl noA) ∧ True) ∧ (decide ((↑(Prod.fst (Prod.snd x)) : Int) ≤ t) = false → ((-9223372036854775808 : Int) ≤ c + (1 : Int) ∧ c + (1 : Int) ≤ (9223372036854775807 : Int)) ∧ (decide ((20 : Int) < d) = true → ∃ (b : Unit), vaN nk (Prod.fst (vaF S nk (Int.toNat ((21 : Int) - d)) t c)) = (0 : Int) ∧ noA = noA ∧ (0 : Nat) = (0 : Nat) ∧ (0 : Nat) = (0 : Nat) ∧ Prod.fst (vaF S nk (Int.toNat ((21 : Int) - d)) t c) = (3 : Int) ∧ Prod.fst x = Prod.fst x ∧ Prod.fst (Prod.snd x) = Prod.fst (Prod.snd x) ∧ Prod.snd (Prod.snd x) = Prod.snd (Prod.snd x) ∧ Prod.snd (vaF S nk (Int.toNat ((21 : Int) - d)) t c) = c + (1 : Int) ∧ Pl noA ∧ True ∧ (∀ (p : Nat → Option Obj), True ∧ schP S x p → Pl noA) ∧ True) ∧ (decide ((20 : Int) < d) = false → (decide ((2000 : Int) < c + (1 : Int)) = true → ∃ (b : Unit), vaN nk (Prod.fst (vaF S nk (Int.toNat ((21 : Int) - d)) t c)) = (0 : Int) ∧ noA = noA ∧ (0 : Nat) = (0 : Nat) ∧ (0 : Nat) = (0 : Nat) ∧ Prod.fst (vaF S nk (Int.toNat ((21 : Int) - d)) t c) = (3 : Int) ∧ Prod.fst x = Prod.fst x ∧ Prod.fst (Prod.snd x) = Prod.fst (Prod.snd x) ∧ Prod.snd (Prod.snd x) = Prod.snd (Prod.snd x) ∧ Prod.snd (vaF S nk (Int.toNat ((21 : Int) - d)) t c) = c + (1 : Int) ∧ Pl noA ∧ True ∧ (∀ (p : Nat → Option Obj), True ∧ schP S x p → Pl noA) ∧ True) ∧ (decide ((2000 : Int) < c + (1 : Int)) = false → ((0 : Int) ≤ t ∧ t < (↑(Prod.fst (Prod.snd x)) : Int)) ∧ Prod.fst x ≠ noA ∧ ∃ (n_1 : Int), ∃ (s : ByteArray), ∃ (p : Option Addr), ∃ (n_2 : Nat), ∃ (c_1 : Nat), ∃ (n_3 : Int), ∃ (p_1 : Option Addr), ∃ (n_4 : Nat), ∃ (c_2 : Nat), ∃ (b : Bool), ∃ (s_1 : ByteArray), ∃ (n_5 : Int), ∃ (p_2 : Option Addr), ∃ (n_6 : Nat), ∃ (c_3 : Nat), ∃ (p_3 : Option Addr), ∃ (n_7 : Nat), ∃ (c_4 : Nat), (∀ (p_4 : Nat → Option Obj), True ∧ schP S x p_4 → cellsP p_4 (adr (Prod.fst x) (Int.toNat t * (10 : Nat))) [Value.int IntKind.i64 n_1, Value.string s, Value.slice p n_2 c_1, Value.int IntKind.i64 n_3, Value.slice p_1 n_4 c_2, Value.bool b, Value.string s_1, Value.int IntKind.i64 n_5, Value.slice p_2 n_6 c_3, Value.slice p_3 n_7 c_4]) ∧ (decide (n_1 = (12 : Int)) = true → False) ∧ (decide (n_1 = (12 : Int)) = false → (decide (n_1 = (13 : Int)) = true → False) ∧ (decide (n_1 = (13 : Int)) = false → (decide (n_1 = (9 : Int)) = true → ∃ (s_2 : RcS), AT.k s_2.2.2.1 = n_1 ∧ AT.nm s_2.2.2.1 = s ∧ noA = p ∧ (0 : Nat) = n_2 ∧ (0 : Nat) = c_1 ∧ (0 : Int) = n_3 ∧ noA = p_1 ∧ (0 : Nat) = n_4 ∧ (0 : Nat) = c_2 ∧ false = b ∧ mkS [] = s_1 ∧ (0 : Int) = n_5 ∧ Prod.fst (AT.f s_2.2.2.1) = p_2 ∧ Prod.fst (Prod.snd (AT.f s_2.2.2.1)) = n_6 ∧ Prod.snd (Prod.snd (AT.f s_2.2.2.1)) = c_3 ∧ noA = p_3 ∧ (0 : Nat) = n_7 ∧ (0 : Nat) = c_4 ∧ (6 : Int) = nk ∧ (0 : Int) = nn ∧ s_2.2.2.2.1 = d ∧ Prod.fst s_2.2.1 = Prod.fst x ∧ Prod.fst (Prod.snd s_2.2.1) = Prod.fst (Prod.snd x) ∧ Prod.snd (Prod.snd s_2.2.1) = Prod.snd (Prod.snd x) ∧ s_2.2.2.2.2 = c + (1 : Int) ∧ (muR s_2 < n + (1 : Nat) ∧ List.length (Prod.fst s_2) < (1000 : Nat) ∧ (1 : Int) ≤ Prod.snd s_2.2.2.2 ∧ Prod.snd s_2.2.2.2 ≤ (2000 : Int) ∧ (1 : Int) ≤ Prod.fst s_2.2.2.2 ∧ Prod.fst s_2.2.2.2 ≤ (20 : Int) ∧ Prod.fst s_2.2.2 ∈ Prod.fst s_2 ∧ ∀ (e : AT), e ∈ Prod.fst s_2 → AT.k e = (9 : Int) ∧ List.length (AT.fs e) < (1000 : Nat)) ∧ (∀ (p : Nat → Option Obj), True ∧ schP S x p → schP s_2.1 s_2.2.1 p) ∧ ∀ (b : Unit), True → ∀ (a : Option Addr) (n c_5 : Nat), (∃ (p : Nat → Option Obj), (True ∧ schP S x p) ∧ Pl a) → ∃ (b : Unit), vaN nk (Prod.fst (vaF S nk (Int.toNat ((21 : Int) - d)) t c)) = (0 : Int) ∧ a = a ∧ n = n ∧ c_5 = c_5 ∧ Prod.fst (vaF S nk (Int.toNat ((21 : Int) - d)) t c) = Prod.fst (vaL (vaF s_2.1 (6 : Int) (Int.toNat ((20 : Int) - s_2.2.2.2.1))) (AT.fs s_2.2.2.1) s_2.2.2.2.2) ∧ Prod.fst x = Prod.fst s_2.2.1 ∧ Prod.fst (Prod.snd x) = Prod.fst (Prod.snd s_2.2.1) ∧ Prod.snd (Prod.snd x) = Prod.snd (Prod.snd s_2.2.1) ∧ Prod.snd (vaF S nk (Int.toNat ((21 : Int) - d)) t c) = Prod.snd (vaL (vaF s_2.1 (6 : Int) (Int.toNat ((20 : Int) - s_2.2.2.2.1))) (AT.fs s_2.2.2.1) s_2.2.2.2.2) ∧ Pl a ∧ True ∧ (∀ (p : Nat → Option Obj), (True ∧ schP S x p) ∧ Pl a → Pl a) ∧ True) ∧ (decide (n_1 = (9 : Int)) = false → (decide (n_1 = (14 : Int)) = true → False) ∧ (decide (n_1 = (14 : Int)) = false → ∃ (s_2 : AT × Int × Int), (3 : Int) = n_1 ∧ AT.nm s_2.1 = s ∧ noA = p ∧ (0 : Nat) = n_2 ∧ (0 : Nat) = c_1 ∧ (0 : Int) = n_3 ∧ noA = p_1 ∧ (0 : Nat) = n_4 ∧ (0 : Nat) = c_2 ∧ false = b ∧ mkS [] = s_1 ∧ (0 : Int) = n_5 ∧ Prod.fst (AT.f s_2.1) = p_2 ∧ Prod.fst (Prod.snd (AT.f s_2.1)) = n_6 ∧ Prod.snd (Prod.snd (AT.f s_2.1)) = c_3 ∧ noA = p_3 ∧ (0 : Nat) = n_7 ∧ (0 : Nat) = c_4 ∧ s_2.2.1 = nk ∧ s_2.2.2 = nn ∧ (Prod.fst s_2.2 = (3 : Int) ∧ Prod.snd s_2.2 = (5 : Int) ∨ Prod.fst s_2.2 = (1 : Int) ∧ Prod.snd s_2.2 = (0 : Int)) ∧ ∃ (b : Unit), (vaN nk (Prod.fst (vaF S nk (Int.toNat ((21 : Int) - d)) t c)) = if s_2.2.1 = (3 : Int) then (5 : Int) else (0 : Int)) ∧ noA = noA ∧ (0 : Nat) = (0 : Nat) ∧ (0 : Nat) = (0 : Nat) ∧ (Prod.fst (vaF S nk (Int.toNat ((21 : Int) - d)) t c) = if s_2.2.1 = (3 : Int) then (0 : Int) else (7 : Int)) ∧ Prod.fst x = Prod.fst x ∧ Prod.fst (Prod.snd x) = Prod.fst (Prod.snd x) ∧ Prod.snd (Prod.snd x) = Prod.snd (Prod.snd x) ∧ Prod.snd (vaF S nk (Int.toNat ((21 : Int) - d)) t c) = c + (1 : Int) ∧ Pl noA ∧ True ∧ (∀ (p : Nat → Option Obj), True ∧ schP S x p → Pl noA) ∧ True))))))))) := by kernel_rfl
theorem record_eq (n : Nat) (S : List AT) (x : SV) (e : AT) (d c : Int) : askF P (ctTab [(18, cValue.below muV n), (62, cGet0)]) Go.Proofs.Try.f31 (cRecord.below muR (n + 1)) (wRecord) ⟨S, x, e, d, c⟩ = ((muR (S, x, e, d, c) < n + (1 : Nat) ∧ List.length S < (1000 : Nat) ∧ (1 : Int) ≤ c ∧ c ≤ (2000 : Int) ∧ (1 : Int) ≤ d ∧ d ≤ (20 : Int) ∧ e ∈ S ∧ ∀ (e : AT), e ∈ S → AT.k e = (9 : Int) ∧ List.length (AT.fs e) < (1000 : Nat)) → (∃ (p : Nat → Option Obj), True ∧ schP S x p) → (d = d ∧ (↑(Prod.fst (Prod.snd (AT.f e))) : Int) = (↑(Prod.fst (Prod.snd (AT.f e))) : Int) ∧ (0 : Int) = (0 : Int) ∧ Prod.fst (AT.f e) = Prod.fst (AT.f e) ∧ Prod.fst (Prod.snd (AT.f e)) = Prod.fst (Prod.snd (AT.f e)) ∧ Prod.snd (Prod.snd (AT.f e)) = Prod.snd (Prod.snd (AT.f e)) ∧ Prod.fst x = Prod.fst x ∧ Prod.fst (Prod.snd x) = Prod.fst (Prod.snd x) ∧ Prod.snd (Prod.snd x) = Prod.snd (Prod.snd x) ∧ c = c ∧ (0 : Nat) = (0 : Nat) ∧ AT.k e = AT.k e ∧ AT.nm e = AT.nm e ∧ noA = noA ∧ (0 : Nat) = (0 : Nat) ∧ (0 : Nat) = (0 : Nat) ∧ (0 : Int) = (0 : Int) ∧ noA = noA ∧ (0 : Nat) = (0 : Nat) ∧ (0 : Nat) = (0 : Nat) ∧ false = false ∧ mkS [] = mkS [] ∧ (0 : Int) = (0 : Int) ∧ Prod.fst (AT.f e) = Prod.fst (AT.f e) ∧ Prod.fst (Prod.snd (AT.f e)) = Prod.fst (Prod.snd (AT.f e)) ∧ Prod.snd (Prod.snd (AT.f e)) = Prod.snd (Prod.snd (AT.f e)) ∧ noA = noA ∧ (0 : Nat) = (0 : Nat) ∧ (0 : Nat) = (0 : Nat) ∧ (∀ (p : Nat → Option Obj), True ∧ schP S x p → True ∧ schP S x p) ∧ rcInv S e d c [] (0 : Nat) (0 : Int) c ∧ True) ∧ ∀ (s : List Value × Nat × Int × Int), rcInv S e d c (Prod.fst s) (Prod.fst s.2) (Prod.fst s.2.2) (Prod.snd s.2.2) → (decide (s.2.2.1 < (↑(Prod.fst (Prod.snd (AT.f e))) : Int)) = true → ((0 : Int) ≤ s.2.2.1 ∧ s.2.2.1 < (↑(Prod.fst (Prod.snd (AT.f e))) : Int)) ∧ Prod.fst (AT.f e) ≠ noA ∧ ∃ (s_1 : ByteArray), ∃ (p : Option Addr), ∃ (n_1 : Nat), ∃ (c_1 : Nat), ∃ (n_2 : Int), ∃ (b : Bool), ∃ (n_3 : Int), ∃ (n_4 : Int), ∃ (s_2 : ByteArray), ∃ (p_1 : Option Addr), ∃ (n_5 : Nat), ∃ (c_2 : Nat), ∃ (p_2 : Option Addr), ∃ (n_6 : Nat), ∃ (c_3 : Nat), (∀ (p_3 : Nat → Option Obj), True ∧ schP S x p_3 → cellsP p_3 (adr (Prod.fst (AT.f e)) (Int.toNat s.2.2.1 * (9 : Nat))) [Value.string s_1, Value.slice p n_1 c_1, Value.int IntKind.i64 n_2, Value.bool b, Value.int IntKind.i64 n_3, Value.int IntKind.i64 n_4, Value.string s_2, Value.slice p_1 n_5 c_2, Value.slice p_2 n_6 c_3]) ∧ ∃ (s_3 : ByteArray), s_3 = s_1 ∧ True ∧ ((!b) = true → ∃ (b : Unit), (0 : Int) = (0 : Int) ∧ noA = noA ∧ (0 : Nat) = (0 : Nat) ∧ (0 : Nat) = (0 : Nat) ∧ Prod.fst (vaL (vaF S (6 : Int) (Int.toNat ((20 : Int) - d))) (AT.fs e) c) = (7 : Int) ∧ Prod.fst x = Prod.fst x ∧ Prod.fst (Prod.snd x) = Prod.fst (Prod.snd x) ∧ Prod.snd (Prod.snd x) = Prod.snd (Prod.snd x) ∧ Prod.snd (vaL (vaF S (6 : Int) (Int.toNat ((20 : Int) - d))) (AT.fs e) c) = s.2.2.2 ∧ Pl noA ∧ True ∧ (∀ (p : Nat → Option Obj), True ∧ schP S x p → Pl noA) ∧ True) ∧ ((!b) = false → ((-9223372036854775808 : Int) ≤ d + (1 : Int) ∧ d + (1 : Int) ≤ (9223372036854775807 : Int)) ∧ ∃ (s_4 : VaS), s_4.2.2.1 = n_2 ∧ s_4.2.2.2.1 = n_3 ∧ s_4.2.2.2.2.1 = n_4 ∧ mkS [] = s_2 ∧ noA = p_1 ∧ (0 : Nat) = n_5 ∧ (0 : Nat) = c_2 ∧ noA = p_2 ∧ (0 : Nat) = n_6 ∧ (0 : Nat) = c_3 ∧ s_4.2.2.2.2.2.1 = d + (1 : Int) ∧ Prod.fst s_4.2.1 = Prod.fst x ∧ Prod.fst (Prod.snd s_4.2.1) = Prod.fst (Prod.snd x) ∧ Prod.snd (Prod.snd s_4.2.1) = Prod.snd (Prod.snd x) ∧ s_4.2.2.2.2.2.2 = s.2.2.2 ∧ (muV s_4 < n ∧ List.length (Prod.fst s_4) < (1000 : Nat) ∧ (0 : Int) ≤ Prod.snd s_4.2.2.2.2.2 ∧ Prod.snd s_4.2.2.2.2.2 ≤ (2000 : Int) ∧ (1 : Int) ≤ Prod.fst s_4.2.2.2.2.2 ∧ Prod.fst s_4.2.2.2.2.2 ≤ (21 : Int) ∧ okS (Prod.fst s_4) (Prod.fst s_4.2.2.2) (Prod.fst s_4.2.2.2.2)) ∧ (∀ (p : Nat → Option Obj), True ∧ schP S x p → schP s_4.1 s_4.2.1 p) ∧ ∀ (b : Unit), True → ∀ (a : Option Addr) (n c_4 : Nat), (∃ (p : Nat → Option Obj), (True ∧ schP S x p) ∧ Pl a) → ((!decide (Prod.fst (vaF s_4.1 s_4.2.2.2.1 (Int.toNat ((21 : Int) - s_4.2.2.2.2.2.1)) s_4.2.2.1 s_4.2.2.2.2.2.2) = (0 : Int))) = true → ∃ (b : Unit), (0 : Int) = (0 : Int) ∧ noA = noA ∧ (0 : Nat) = (0 : Nat) ∧ (0 : Nat) = (0 : Nat) ∧ Prod.fst (vaL (vaF S (6 : Int) (Int.toNat ((20 : Int) - d))) (AT.fs e) c) = Prod.fst (vaF s_4.1 s_4.2.2.2.1 (Int.toNat ((21 : Int) - s_4.2.2.2.2.2.1)) s_4.2.2.1 s_4.2.2.2.2.2.2) ∧ Prod.fst x = Prod.fst s_4.2.1 ∧ Prod.fst (Prod.snd x) = Prod.fst (Prod.snd s_4.2.1) ∧ Prod.snd (Prod.snd x) = Prod.snd (Prod.snd s_4.2.1) ∧ Prod.snd (vaL (vaF S (6 : Int) (Int.toNat ((20 : Int) - d))) (AT.fs e) c) = Prod.snd (vaF s_4.1 s_4.2.2.2.1 (Int.toNat ((21 : Int) - s_4.2.2.2.2.2.1)) s_4.2.2.1 s_4.2.2.2.2.2.2) ∧ Pl noA ∧ True ∧ (∀ (p : Nat → Option Obj), (True ∧ schP S x p) ∧ Pl a → Pl noA) ∧ True) ∧ ((!decide (Prod.fst (vaF s_4.1 s_4.2.2.2.1 (Int.toNat ((21 : Int) - s_4.2.2.2.2.2.1)) s_4.2.2.1 s_4.2.2.2.2.2.2) = (0 : Int))) = false → List.length s.1 = s.2.1 * (5 : Nat) ∧ (s.2.1 + (1 : Nat)) * (80 : Nat) ≤ (140737488355328 : Nat) ∧ ((-9223372036854775808 : Int) ≤ s.2.2.1 + (1 : Int) ∧ s.2.2.1 + (1 : Int) ≤ (9223372036854775807 : Int)) ∧ d = d ∧ (↑(Prod.fst (Prod.snd (AT.f e))) : Int) = (↑(Prod.fst (Prod.snd (AT.f e))) : Int) ∧ s.2.2.1 + (1 : Int) = s.2.2.1 + (1 : Int) ∧ Prod.fst (AT.f e) = Prod.fst (AT.f e) ∧ Prod.fst (Prod.snd (AT.f e)) = Prod.fst (Prod.snd (AT.f e)) ∧ Prod.snd (Prod.snd (AT.f e)) = Prod.snd (Prod.snd (AT.f e)) ∧ Prod.fst x = Prod.fst s_4.2.1 ∧ Prod.fst (Prod.snd x) = Prod.fst (Prod.snd s_4.2.1) ∧ Prod.snd (Prod.snd x) = Prod.snd (Prod.snd s_4.2.1) ∧ Prod.snd (vaF s_4.1 s_4.2.2.2.1 (Int.toNat ((21 : Int) - s_4.2.2.2.2.2.1)) s_4.2.2.1 s_4.2.2.2.2.2.2) = Prod.snd (vaF s_4.1 s_4.2.2.2.1 (Int.toNat ((21 : Int) - s_4.2.2.2.2.2.1)) s_4.2.2.1 s_4.2.2.2.2.2.2) ∧ s.2.1 + (1 : Nat) = s.2.1 + (1 : Nat) ∧ AT.k e = AT.k e ∧ AT.nm e = AT.nm e ∧ noA = noA ∧ (0 : Nat) = (0 : Nat) ∧ (0 : Nat) = (0 : Nat) ∧ (0 : Int) = (0 : Int) ∧ noA = noA ∧ (0 : Nat) = (0 : Nat) ∧ (0 : Nat) = (0 : Nat) ∧ false = false ∧ mkS [] = mkS [] ∧ (0 : Int) = (0 : Int) ∧ Prod.fst (AT.f e) = Prod.fst (AT.f e) ∧ Prod.fst (Prod.snd (AT.f e)) = Prod.fst (Prod.snd (AT.f e)) ∧ Prod.snd (Prod.snd (AT.f e)) = Prod.snd (Prod.snd (AT.f e)) ∧ noA = noA ∧ (0 : Nat) = (0 : Nat) ∧ (0 : Nat) = (0 : Nat) ∧ s.1 ++ [Value.int IntKind.u64 (vaN s_4.2.2.2.1 (Prod.fst (vaF s_4.1 s_4.2.2.2.1 (Int.toNat ((21 : Int) - s_4.2.2.2.2.2.1)) s_4.2.2.1 s_4.2.2.2.2.2.2))), Value.string (mkS []), Value.slice a n c_4, Value.slice noA (0 : Nat) (0 : Nat), Value.int IntKind.i64 (0 : Int)] = s.1 ++ [Value.int IntKind.u64 (vaN s_4.2.2.2.1 (Prod.fst (vaF s_4.1 s_4.2.2.2.1 (Int.toNat ((21 : Int) - s_4.2.2.2.2.2.1)) s_4.2.2.1 s_4.2.2.2.2.2.2))), Value.string (mkS []), Value.slice a n c_4, Value.slice noA (0 : Nat) (0 : Nat), Value.int IntKind.i64 (0 : Int)] ∧ (∀ (p : Nat → Option Obj), (True ∧ schP S x p) ∧ Pl a → True ∧ schP S x p) ∧ rcInv S e d c (s.1 ++ [Value.int IntKind.u64 (vaN s_4.2.2.2.1 (Prod.fst (vaF s_4.1 s_4.2.2.2.1 (Int.toNat ((21 : Int) - s_4.2.2.2.2.2.1)) s_4.2.2.1 s_4.2.2.2.2.2.2))), Value.string (mkS []), Value.slice a n c_4, Value.slice noA (0 : Nat) (0 : Nat), Value.int IntKind.i64 (0 : Int)]) (s.2.1 + (1 : Nat)) (s.2.2.1 + (1 : Int)) (Prod.snd (vaF s_4.1 s_4.2.2.2.1 (Int.toNat ((21 : Int) - s_4.2.2.2.2.2.1)) s_4.2.2.1 s_4.2.2.2.2.2.2)) ∧ List.length (AT.fs e) - Int.toNat (s.2.2.1 + (1 : Int)) < List.length (AT.fs e) - Int.toNat (Prod.fst s.2.2) ∧ True))) ∧ (decide (s.2.2.1 < (↑(Prod.fst (Prod.snd (AT.f e))) : Int)) = false → ∀ (b s_1 u : Nat) (a : Option Addr) (n c_1 : Nat), (∃ (p : Nat → Option Obj), (True ∧ schP S x p) ∧ s.2.1 ≤ c_1 ∧ rowP p a (List.take (s.2.1 * (5 : Nat)) s.1)) → ∃ (b : Unit), (0 : Int) = (0 : Int) ∧ a = a ∧ s.2.1 = s.2.1 ∧ c_1 = c_1 ∧ Prod.fst (vaL (vaF S (6 : Int) (Int.toNat ((20 : Int) - d))) (AT.fs e) c) = (0 : Int) ∧ Prod.fst x = Prod.fst x ∧ Prod.fst (Prod.snd x) = Prod.fst (Prod.snd x) ∧ Prod.snd (Prod.snd x) = Prod.snd (Prod.snd x) ∧ Prod.snd (vaL (vaF S (6 : Int) (Int.toNat ((20 : Int) - d))) (AT.fs e) c) = s.2.2.2 ∧ Pl a ∧ True ∧ (∀ (p : Nat → Option Obj), (True ∧ schP S x p) ∧ s.2.1 ≤ c_1 ∧ rowP p a (List.take (s.2.1 * (5 : Nat)) s.1) → Pl a) ∧ True)) := by kernel_rfl
theorem index0_ok : CtOK P 82 cIndex0 := by
  refine ask_ok mixed no_tab (W := fun _ => { unr := 1 }) Go.Proofs.Try.func82 (by kernel_rfl) (by decide) (by decide) (fun s => by kernel_rfl) fun (s : ByteArray) => (index0_eq s).mpr ?_
  exact fun _ => trivial
theorem get0_ok : CtOK P 62 cGet0 := by
  refine ask_ok mixed (ctTab_ok (forall_tab index0_ok nil_tab)) (W := fun _ => {}) Go.Proofs.Try.func62 (by kernel_rfl) (by decide) (by decide) (fun s => by kernel_rfl) fun (s : ByteArray) => (get0_eq s).mpr ?_
  exact fun _ => ⟨s, rfl, trivial, trivial⟩
theorem plain_ok : CtOK P 33 cPlain := by
  refine ask_ok mixed no_tab (W := fun _ => {}) Go.Proofs.Try.func33 (by kernel_rfl) (by decide) (by decide) (fun s => by kernel_rfl) fun ⟨e, (nk : Int), (nn : Int)⟩ => (plain_eq e nk nn).mpr ?_
  intro h
  rcases h with ⟨rfl, rfl⟩ | ⟨rfl, rfl⟩
  · simp; decide
  · simp
theorem rowP_Pl {p : Pub} {a : Option Addr} {vs : List Value} (h : rowP p a vs) : Pl a := by
  rcases h with h | ⟨x, rfl, h, _⟩
  · exact h.2
  · exact Pl_some h
theorem atV_len (e : AT) : (atV e).length = 10 := rfl
theorem fdV_len (e : ByteArray × Int) : (fdV e).length = 9 := rfl
theorem vaF_oob {S : List AT} {nk : Int} {D : Nat} {t c : Int} (h : t < 0 ∨ (S.length : Int) ≤ t) : vaF S nk D t c = (1, c) := by
  cases D <;> rw [vaF, if_pos h]
theorem vaF_zero {S : List AT} {nk t c : Int} (h : ¬ (t < 0 ∨ (S.length : Int) ≤ t)) : vaF S nk 0 t c = (3, c + 1) := by
  rw [vaF, if_neg h]
theorem vaF_much {S : List AT} {nk : Int} {D : Nat} {t c : Int} (h : ¬ (t < 0 ∨ (S.length : Int) ≤ t)) (hc : 2000 < c + 1) : vaF S nk D t c = (3, c + 1) := by
  cases D
  · rw [vaF, if_neg h]
  · rw [vaF, if_neg h, if_pos hc]
theorem vaF_at {S : List AT} {nk : Int} {D : Nat} {t c : Int} (h : ¬ (t < 0 ∨ (S.length : Int) ≤ t)) (hc : ¬ 2000 < c + 1) (hi : t.toNat < S.length) : vaF S nk (D + 1) t c = if S[t.toNat].k = 9 then vaL (vaF S nk D) S[t.toNat].fs (c + 1) else (if nk = 3 then 0 else 7, c + 1) := by
  rw [vaF, if_neg h, if_neg hc, List.getElem?_eq_getElem hi]
theorem value_ok (n : Nat) (hr : CtOK P 31 (cRecord.below muR (n + 1))) : CtOK P 18 (cValue.below muV (n + 1)) := by
  refine ask_ok mixed (ctTab_ok (forall_tab hr (forall_tab plain_ok nil_tab))) (W := fun _ => {}) Go.Proofs.Try.func18 (by kernel_rfl) (show 1 ≤ 2 by decide) (show 2 ≤ 3 by decide) (fun s => by kernel_rfl) fun ⟨S, (x : SV), (t : Int), (nk : Int), (nn : Int), (d : Int), (c : Int)⟩ => (value_eq n S x t nk nn d c).mpr ?_
  rintro ⟨hmu, hS, hc0, hc1, hd0, hd1, hok⟩ ⟨p, _, ⟨hx, hrow⟩, hf⟩
  obtain ⟨a, m, cp⟩ := x
  simp only at hx hrow
  subst hx
  have hmu : (21 - d).toNat < n + 1 := hmu
  have nine : nk ≠ 3 → vaN nk (vaF S nk (21 - d).toNat t c).1 = 0 := fun h => by unfold vaN; rw [if_neg (fun e => h e.1)]
  have er : (vaF S nk (21 - d).toNat t c).1 ≠ 0 → vaN nk (vaF S nk (21 - d).toNat t c).1 = 0 := fun h => by unfold vaN; rw [if_neg (fun e => h e.2)]
  simp only [decide_eq_true_eq, decide_eq_false_iff_not, true_and, and_true]
  refine ⟨fun h0 => ⟨(), ?_⟩, fun h0 => ⟨fun h1 => ⟨(), ?_⟩, fun h1 => ⟨by omega, fun h2 => ⟨(), ?_⟩, fun h2 => ⟨fun h3 => ⟨(), ?_⟩, fun h3 => ?_⟩⟩⟩⟩
  · have e := vaF_oob (S := S) (nk := nk) (D := (21 - d).toNat) (t := t) (c := c) (.inl h0)
    refine ⟨er (by rw [e]; simp), by rw [e], by rw [e], Pl_none, fun _ _ => Pl_none⟩
  · have e := vaF_oob (S := S) (nk := nk) (D := (21 - d).toNat) (t := t) (c := c) (.inr h1)
    refine ⟨er (by rw [e]; simp), by rw [e], by rw [e], Pl_none, fun _ _ => Pl_none⟩
  · have e : vaF S nk (21 - d).toNat t c = (3, c + 1) := by
      rw [show (21 - d).toNat = 0 by omega]; exact vaF_zero (by omega)
    refine ⟨er (by rw [e]; simp), by rw [e], by rw [e], Pl_none, fun _ _ => Pl_none⟩
  · have e := vaF_much (S := S) (nk := nk) (D := (21 - d).toNat) (t := t) (c := c) (by omega) h3
    refine ⟨er (by rw [e]; simp), by rw [e], by rw [e], Pl_none, fun _ _ => Pl_none⟩
  · have hi : t.toNat < S.length := by omega
    have e := vaF_at (S := S) (nk := nk) (D := (20 - d).toNat) (t := t) (c := c) (by omega) h3 hi
    rw [show (20 - d).toNat + 1 = (21 - d).toNat by omega] at e
    have hk : S[t.toNat].k = 9 ∧ nk = 6 ∧ nn = 0 ∨ S[t.toNat].k = 3 ∧ (nk = 3 ∧ nn = 5 ∨ nk = 1 ∧ nn = 0) := hok.imp (fun h => ⟨(h.1 _ (List.getElem_mem hi)).1, h.2⟩) (fun h => ⟨h.1 _ (List.getElem_mem hi), h.2⟩)
    refine ⟨by omega, (rows_cells atV_len (by decide) hrow hi).1, S[t.toNat].k, S[t.toNat].nm, none, 0, 0, 0, none, 0, 0, false, mkS [], 0, S[t.toNat].f.1, S[t.toNat].f.2.1, S[t.toNat].f.2.2, none, 0, 0, fun q hq => (rows_cells atV_len (by decide) hq.1.2 hi).2, fun h => ?_, fun _ => ⟨fun h => ?_, fun _ => ⟨fun h9 => ?_, fun h9 => ⟨fun h => ?_, fun _ => ?_⟩⟩⟩⟩
    · omega
    · omega
    · rw [if_pos h9] at e
      obtain ⟨_, rfl, rfl⟩ : S[t.toNat].k = 9 ∧ nk = 6 ∧ nn = 0 := by omega
      have hok9 : ∀ e ∈ S, e.k = 9 ∧ e.fs.length < 1000 := hok.elim (fun h => h.1) (fun h => by omega)
      refine ⟨⟨S, (a, S.length, cp), S[t.toNat], d, c + 1⟩, ?_⟩
      simp only [eq_self, true_and]
      refine ⟨⟨by show (21 - d).toNat < _; omega, hS, by omega, by omega, hd0, by omega, List.getElem_mem hi, hok9⟩, ?_⟩
      refine ⟨fun q hq => hq, fun _ _ b1 b2 b3 ⟨q, hq, hb⟩ => ⟨(), nine (by decide), by rw [e], by rw [e], hb, fun _ h => h.2⟩⟩
    · omega
    · rw [if_neg h9] at e
      obtain ⟨k3, nn3⟩ : S[t.toNat].k = 3 ∧ (nk = 3 ∧ nn = 5 ∨ nk = 1 ∧ nn = 0) := by omega
      refine ⟨⟨S[t.toNat], nk, nn⟩, ?_⟩
      simp only [eq_self, true_and]
      refine ⟨k3.symm, nn3, (), ?_, by rw [e], by rw [e], Pl_none, fun _ _ => Pl_none⟩
      rw [e]
      unfold vaN
      rcases nn3 with ⟨rfl, rfl⟩ | ⟨rfl, rfl⟩
      · simp
      · simp
theorem vaL_cons {g : Int → Int → Int × Int} {l : List (ByteArray × Int)} {i : Nat} {c : Int} (hi : i < l.length) : vaL g (l.drop i) c = if (g l[i].2 c).1 = 0 then vaL g (l.drop (i + 1)) (g l[i].2 c).2 else g l[i].2 c := by
  rw [List.drop_eq_getElem_cons hi, vaL]
/-- How the count grows. -/
noncomputable def goodG (g : Int → Int → Int × Int) : Prop := ∀ t c, 1 ≤ c → c ≤ 2000 → (g t c).1 = 0 → 1 ≤ (g t c).2 ∧ (g t c).2 ≤ 2000
theorem vaL_good {g : Int → Int → Int × Int} (hg : goodG g) : ∀ (l : List (ByteArray × Int)) (c : Int), 1 ≤ c → c ≤ 2000 → (vaL g l c).1 = 0 → 1 ≤ (vaL g l c).2 ∧ (vaL g l c).2 ≤ 2000
  | [], c, h1, h2, _ => ⟨h1, h2⟩
  | f :: l, c, h1, h2, h => by
    rw [vaL] at h ⊢
    split at h
    · rename_i h0
      rw [if_pos h0]
      have := hg f.2 c h1 h2 h0
      exact vaL_good hg l _ this.1 this.2 h
    · rename_i h0; exact absurd h h0
theorem vaF_good (S : List AT) (nk : Int) : ∀ D, goodG (vaF S nk D)
  | 0 => fun t c h1 h2 h => by
    rw [vaF] at h
    split at h <;> simp at h
  | D + 1 => fun t c h1 h2 h => by
    rw [vaF] at h ⊢
    split at h
    · simp at h
    · rename_i h0
      rw [if_neg h0]
      split at h
      · simp at h
      · rename_i h3
        rw [if_neg h3]
        cases hs : S[t.toNat]? with
        | none => rw [hs] at h; simp at h
        | some e =>
          rw [hs] at h
          simp only at h ⊢
          split at h
          · rename_i h9
            rw [if_pos h9]
            exact vaL_good (vaF_good S nk D) e.fs _ (by omega) (by omega) h
          · rename_i h9
            rw [if_neg h9]
            exact ⟨by show 1 ≤ c + 1; omega, by show c + 1 ≤ 2000; omega⟩
theorem record_ok (n : Nat) (hv : CtOK P 18 (cValue.below muV n)) : CtOK P 31 (cRecord.below muR (n + 1)) := by
  refine ask_ok mixed (ctTab_ok (forall_tab hv (forall_tab get0_ok nil_tab))) (W := wRecord) Go.Proofs.Try.func31 (by kernel_rfl) (show 1 ≤ 2 by decide) (show 2 ≤ 3 by decide) (fun s => by kernel_rfl) fun ⟨S, (x : SV), e, (d : Int), (c : Int)⟩ => (record_eq n S x e d c).mpr ?_
  rintro ⟨hmu, hS, hc0, hc1, hd0, hd1, heS, hok⟩ ⟨p, _, ⟨hx, hrow⟩, hf⟩
  obtain ⟨a, m, cp⟩ := x
  simp only at hx hrow
  subst hx
  have hmu : (21 - d).toNat < n + 1 := hmu
  have hfl := (hf e heS).1
  have hen := (hok e heS).2
  simp only [decide_eq_true_eq, decide_eq_false_iff_not, Bool.not_eq_true', Bool.not_eq_false', true_and, and_true, eq_self]
  refine ⟨⟨fun q hq => hq, by omega, by omega, rfl, rfl, hc0, hc1, rfl⟩, ?_⟩
  rintro ⟨vs, k, j, cc⟩ ⟨hj0, hj1, hkj, hvs, hcc0, hcc1, inv⟩
  simp only at *
  refine ⟨fun hj => ?_, fun hj b s u a n c ⟨q, hq, _, hr⟩ => ⟨(), ?_⟩⟩
  · have hi : j.toNat < e.fs.length := by omega
    have hfe := fun q (hq : schP S (a, S.length, cp) q) => rows_cells fdV_len (by decide) (hq.2 e heS).2 hi
    rw [vaL_cons hi] at inv
    refine ⟨by omega, (hfe p ⟨⟨rfl, hrow⟩, hf⟩).1, e.fs[j.toNat].1, none, 0, 0, e.fs[j.toNat].2, true, 6, 0, mkS [], none, 0, 0, none, 0, 0, fun q hq => (hfe q hq).2, e.fs[j.toNat].1, rfl, fun h => by simp at h, fun _ => ⟨by omega, ⟨S, (a, S.length, cp), e.fs[j.toNat].2, 6, 0, d + 1, cc⟩, ?_⟩⟩
    simp only [eq_self, true_and]
    have h20 : (21 - (d + 1)).toNat = (20 - d).toNat := by omega
    have gd := vaF_good S 6 (20 - d).toNat e.fs[j.toNat].2 cc hcc0 hcc1
    rw [h20]
    refine ⟨⟨by show (21 - (d + 1)).toNat < n; omega, hS, by omega, by omega, by omega, by omega, .inl ⟨hok, rfl, rfl⟩⟩, ?_⟩
    refine ⟨fun q hq => hq, fun _ _ b1 b2 b3 ⟨q, hq, hb⟩ => ⟨fun h0 => ⟨(), ?_, ?_, Pl_none, fun _ _ => Pl_none⟩, fun h0 => ⟨hvs, by omega, by omega, fun q hq => hq.1, ⟨by omega, by omega, by omega, ?_, (gd h0).1, (gd h0).2, ?_⟩, by omega⟩⟩⟩
    · rw [if_neg h0] at inv; rw [inv]
    · rw [if_neg h0] at inv; rw [inv]
    · rw [List.length_append, hvs]; show k * 5 + 5 = (k + 1) * 5; omega
    · rw [if_pos h0] at inv
      rw [← inv, show (j + 1).toNat = j.toNat + 1 by omega]
  · have hj2 : e.fs.drop j.toNat = [] := List.drop_eq_nil_of_le (by omega)
    rw [hj2, vaL] at inv
    rw [← inv]
    exact ⟨rfl, rfl, rowP_Pl hr, fun q hq => rowP_Pl hq.2.2⟩
theorem value_all : ∀ n, CtOK P 18 (cValue.below muV n)
  | 0 => Ct.below_zero (by decide) (by decide) (Sen.enters_of Go.Proofs.Try.func18 (by kernel_rfl)) fun s => ⟨rfl, rfl⟩
  | n + 1 => value_ok n (record_ok n (value_all n))
theorem value_fin : CtOK P 18 cValue := Ct.of_below value_all
/-- The first default that is none, of one type alone. -/
noncomputable def cCheck : Ct where
  σ := AT × SV
  args := fun ⟨e, x⟩ => [.agg [.sv (.slice x.1 x.2.1 x.2.2)]]
  h := fun _ => []
  m := 1
  pre := fun ⟨e, x⟩ => e.k = 3 ∨ e.k = 9 ∧ ∃ s, e.fs = [(s, 0)]
  mem := fun ⟨e, x⟩ => schM [e] x
  r := fun ⟨e, x⟩ => .tup [.sv (.int .i64 (if e.k = 9 then 3 else 0)), .sv (.int .i64 0), .sv (.int .i64 0)]
  h' := fun _ => []
  m' := 1
  g := fun _ => none
noncomputable def wCheck : cCheck.σ → WayF := fun ⟨e, x⟩ => {
  ann := fun b _ _ => match b with
    | 0 => some { σ := Int, pre := fun j => 0 ≤ j ∧ j ≤ 1 ∧ (j = 1 → e.k = 3), find := some fun t _ => slI t 14, t := fun j => [(14, .sv (.int .i64 j))], h := fun _ => [], more := 0, μ := fun j => 1 - j.toNat, keep := [1, 12, 13] }
    | _ => some { σ := Int, pre := fun j => j = 0, find := some fun t _ => slI t 25, t := fun j => [(25, .sv (.int .i64 j))], h := fun _ => [], more := 0, μ := fun j => 1 - j.toNat, keep := [1, 5, 12, 13, 14, 23, 24] } }
theorem val0_eq (S : List AT) (x : SV) (t nk nn : Int) : askF P (ctTab [(18, cValue)]) Go.Proofs.Try.f8 cVal0 (fun _ => {}) ⟨S, x, t, nk, nn⟩ = (List.length S < (1000 : Nat) ∧ okS S nk nn → (∃ (p : Nat → Option Obj), True ∧ schP S x p) → ∃ (s : VaS), s.2.2.1 = t ∧ s.2.2.2.1 = nk ∧ s.2.2.2.2.1 = nn ∧ s.2.2.2.2.2.1 = (1 : Int) ∧ Prod.fst s.2.1 = Prod.fst x ∧ Prod.fst (Prod.snd s.2.1) = Prod.fst (Prod.snd x) ∧ Prod.snd (Prod.snd s.2.1) = Prod.snd (Prod.snd x) ∧ s.2.2.2.2.2.2 = (0 : Int) ∧ (List.length (Prod.fst s) < (1000 : Nat) ∧ (0 : Int) ≤ Prod.snd s.2.2.2.2.2 ∧ Prod.snd s.2.2.2.2.2 ≤ (2000 : Int) ∧ (1 : Int) ≤ Prod.fst s.2.2.2.2.2 ∧ Prod.fst s.2.2.2.2.2 ≤ (21 : Int) ∧ okS (Prod.fst s) (Prod.fst s.2.2.2) (Prod.fst s.2.2.2.2)) ∧ (∀ (p : Nat → Option Obj), True ∧ schP S x p → schP s.1 s.2.1 p) ∧ ∀ (b : Unit), True → ∀ (a : Option Addr) (n c : Nat), (∃ (p : Nat → Option Obj), (True ∧ schP S x p) ∧ Pl a) → ((!decide (Prod.fst (vaF s.1 s.2.2.2.1 (Int.toNat ((21 : Int) - s.2.2.2.2.2.1)) s.2.2.1 s.2.2.2.2.2.2) = (0 : Int))) = true → ∃ (b : Unit), vaN nk (Prod.fst (vaF S nk (20 : Nat) t (0 : Int))) = (0 : Int) ∧ noA = noA ∧ (0 : Nat) = (0 : Nat) ∧ (0 : Nat) = (0 : Nat) ∧ Prod.fst (vaF S nk (20 : Nat) t (0 : Int)) = Prod.fst (vaF s.1 s.2.2.2.1 (Int.toNat ((21 : Int) - s.2.2.2.2.2.1)) s.2.2.1 s.2.2.2.2.2.2) ∧ Pl noA ∧ True ∧ (∀ (p : Nat → Option Obj), (True ∧ schP S x p) ∧ Pl a → Pl noA) ∧ True) ∧ ((!decide (Prod.fst (vaF s.1 s.2.2.2.1 (Int.toNat ((21 : Int) - s.2.2.2.2.2.1)) s.2.2.1 s.2.2.2.2.2.2) = (0 : Int))) = false → ∃ (b : Unit), vaN nk (Prod.fst (vaF S nk (20 : Nat) t (0 : Int))) = vaN s.2.2.2.1 (Prod.fst (vaF s.1 s.2.2.2.1 (Int.toNat ((21 : Int) - s.2.2.2.2.2.1)) s.2.2.1 s.2.2.2.2.2.2)) ∧ a = a ∧ n = n ∧ c = c ∧ Prod.fst (vaF S nk (20 : Nat) t (0 : Int)) = (0 : Int) ∧ Pl a ∧ True ∧ (∀ (p : Nat → Option Obj), (True ∧ schP S x p) ∧ Pl a → Pl a) ∧ True)) := by kernel_rfl
theorem check_eq (e : AT) (x : SV) : askF P (ctTab [(8, cVal0)]) Go.Proofs.Try.f9 cCheck (wCheck) ⟨e, x⟩ = ((AT.k e = (3 : Int) ∨ AT.k e = (9 : Int) ∧ ∃ (s : ByteArray), AT.fs e = [(s, (0 : Int))]) → (∃ (p : Nat → Option Obj), True ∧ schP [e] x p) → ((↑(Prod.fst (Prod.snd x)) : Int) = (↑(Prod.fst (Prod.snd x)) : Int) ∧ Prod.fst x = Prod.fst x ∧ Prod.fst (Prod.snd x) = Prod.fst (Prod.snd x) ∧ Prod.snd (Prod.snd x) = Prod.snd (Prod.snd x) ∧ (0 : Int) = (0 : Int) ∧ Prod.fst x = Prod.fst x ∧ Prod.fst (Prod.snd x) = Prod.fst (Prod.snd x) ∧ Prod.snd (Prod.snd x) = Prod.snd (Prod.snd x) ∧ (∀ (p : Nat → Option Obj), True ∧ schP [e] x p → True ∧ schP [e] x p) ∧ ((0 : Int) ≤ (0 : Int) ∧ (0 : Int) ≤ (1 : Int) ∧ ((0 : Int) = (1 : Int) → AT.k e = (3 : Int))) ∧ True) ∧ ∀ (s : Int), (0 : Int) ≤ s ∧ s ≤ (1 : Int) ∧ (s = (1 : Int) → AT.k e = (3 : Int)) → (decide (s < (↑(Prod.fst (Prod.snd x)) : Int)) = true → ((0 : Int) ≤ s ∧ s < (↑(Prod.fst (Prod.snd x)) : Int)) ∧ Prod.fst x ≠ noA ∧ ∃ (n : Int), ∃ (s_1 : ByteArray), ∃ (p : Option Addr), ∃ (n_1 : Nat), ∃ (c : Nat), ∃ (n_2 : Int), ∃ (p_1 : Option Addr), ∃ (n_3 : Nat), ∃ (c_1 : Nat), ∃ (b : Bool), ∃ (s_2 : ByteArray), ∃ (n_4 : Int), ∃ (p_2 : Option Addr), ∃ (n_5 : Nat), ∃ (c_2 : Nat), ∃ (p_3 : Option Addr), ∃ (n_6 : Nat), ∃ (c_3 : Nat), (∀ (p_4 : Nat → Option Obj), True ∧ schP [e] x p_4 → cellsP p_4 (adr (Prod.fst x) (Int.toNat s * (10 : Nat))) [Value.int IntKind.i64 n, Value.string s_1, Value.slice p n_1 c, Value.int IntKind.i64 n_2, Value.slice p_1 n_3 c_1, Value.bool b, Value.string s_2, Value.int IntKind.i64 n_4, Value.slice p_2 n_5 c_2, Value.slice p_3 n_6 c_3]) ∧ ((!decide (n = (9 : Int))) = true → ((-9223372036854775808 : Int) ≤ s + (1 : Int) ∧ s + (1 : Int) ≤ (9223372036854775807 : Int)) ∧ (↑(Prod.fst (Prod.snd x)) : Int) = (↑(Prod.fst (Prod.snd x)) : Int) ∧ Prod.fst x = Prod.fst x ∧ Prod.fst (Prod.snd x) = Prod.fst (Prod.snd x) ∧ Prod.snd (Prod.snd x) = Prod.snd (Prod.snd x) ∧ s + (1 : Int) = s + (1 : Int) ∧ Prod.fst x = Prod.fst x ∧ Prod.fst (Prod.snd x) = Prod.fst (Prod.snd x) ∧ Prod.snd (Prod.snd x) = Prod.snd (Prod.snd x) ∧ (∀ (p : Nat → Option Obj), True ∧ schP [e] x p → True ∧ schP [e] x p) ∧ ((0 : Int) ≤ s + (1 : Int) ∧ s + (1 : Int) ≤ (1 : Int) ∧ (s + (1 : Int) = (1 : Int) → AT.k e = (3 : Int))) ∧ (1 : Nat) - Int.toNat (s + (1 : Int)) < (1 : Nat) - Int.toNat s ∧ True) ∧ ((!decide (n = (9 : Int))) = false → (p_2 = p_2 ∧ n_5 = n_5 ∧ c_2 = c_2 ∧ s = s ∧ (0 : Int) = (0 : Int) ∧ (↑(Prod.fst (Prod.snd x)) : Int) = (↑(Prod.fst (Prod.snd x)) : Int) ∧ (↑n_5 : Int) = (↑n_5 : Int) ∧ Prod.fst x = Prod.fst x ∧ Prod.fst (Prod.snd x) = Prod.fst (Prod.snd x) ∧ Prod.snd (Prod.snd x) = Prod.snd (Prod.snd x) ∧ s = s ∧ Prod.fst x = Prod.fst x ∧ Prod.fst (Prod.snd x) = Prod.fst (Prod.snd x) ∧ Prod.snd (Prod.snd x) = Prod.snd (Prod.snd x) ∧ (∀ (p : Nat → Option Obj), True ∧ schP [e] x p → True ∧ schP [e] x p) ∧ (0 : Int) = (0 : Int) ∧ True) ∧ ∀ (s_3 : Int), s_3 = (0 : Int) → (decide (s_3 < (↑n_5 : Int)) = true → ((0 : Int) ≤ s_3 ∧ s_3 < (↑n_5 : Int)) ∧ p_2 ≠ noA ∧ ∃ (s_4 : ByteArray), ∃ (p : Option Addr), ∃ (n : Nat), ∃ (c : Nat), ∃ (n_7 : Int), ∃ (b : Bool), ∃ (n_8 : Int), ∃ (n_9 : Int), ∃ (s_5 : ByteArray), ∃ (p_4 : Option Addr), ∃ (n_10 : Nat), ∃ (c_4 : Nat), ∃ (p_5 : Option Addr), ∃ (n_11 : Nat), ∃ (c_5 : Nat), (∀ (p_6 : Nat → Option Obj), True ∧ schP [e] x p_6 → cellsP p_6 (adr p_2 (Int.toNat s_3 * (9 : Nat))) [Value.string s_4, Value.slice p n c, Value.int IntKind.i64 n_7, Value.bool b, Value.int IntKind.i64 n_8, Value.int IntKind.i64 n_9, Value.string s_5, Value.slice p_4 n_10 c_4, Value.slice p_5 n_11 c_5]) ∧ ((!b) = true → ((-9223372036854775808 : Int) ≤ s_3 + (1 : Int) ∧ s_3 + (1 : Int) ≤ (9223372036854775807 : Int)) ∧ p_2 = p_2 ∧ n_5 = n_5 ∧ c_2 = c_2 ∧ s = s ∧ s_3 + (1 : Int) = s_3 + (1 : Int) ∧ (↑(Prod.fst (Prod.snd x)) : Int) = (↑(Prod.fst (Prod.snd x)) : Int) ∧ (↑n_5 : Int) = (↑n_5 : Int) ∧ Prod.fst x = Prod.fst x ∧ Prod.fst (Prod.snd x) = Prod.fst (Prod.snd x) ∧ Prod.snd (Prod.snd x) = Prod.snd (Prod.snd x) ∧ s = s ∧ Prod.fst x = Prod.fst x ∧ Prod.fst (Prod.snd x) = Prod.fst (Prod.snd x) ∧ Prod.snd (Prod.snd x) = Prod.snd (Prod.snd x) ∧ (∀ (p : Nat → Option Obj), True ∧ schP [e] x p → True ∧ schP [e] x p) ∧ s_3 + (1 : Int) = (0 : Int) ∧ (1 : Nat) - Int.toNat (s_3 + (1 : Int)) < (1 : Nat) - Int.toNat s_3 ∧ True) ∧ ((!b) = false → ∃ (s_6 : List AT × (Option Addr × Nat × Nat) × Int × Int × Int), Prod.fst s_6.2.1 = Prod.fst x ∧ Prod.fst (Prod.snd s_6.2.1) = Prod.fst (Prod.snd x) ∧ Prod.snd (Prod.snd s_6.2.1) = Prod.snd (Prod.snd x) ∧ s_6.2.2.1 = n_7 ∧ s_6.2.2.2.1 = n_8 ∧ s_6.2.2.2.2 = n_9 ∧ mkS [] = s_5 ∧ noA = p_4 ∧ (0 : Nat) = n_10 ∧ (0 : Nat) = c_4 ∧ noA = p_5 ∧ (0 : Nat) = n_11 ∧ (0 : Nat) = c_5 ∧ (List.length (Prod.fst s_6) < (1000 : Nat) ∧ okS (Prod.fst s_6) (Prod.fst s_6.2.2.2) (Prod.snd s_6.2.2.2)) ∧ (∀ (p : Nat → Option Obj), True ∧ schP [e] x p → schP s_6.1 s_6.2.1 p) ∧ ∀ (b : Unit), True → ∀ (a : Option Addr) (n c : Nat), (∃ (p : Nat → Option Obj), (True ∧ schP [e] x p) ∧ Pl a) → ((!decide (Prod.fst (vaF s_6.1 s_6.2.2.2.1 (20 : Nat) s_6.2.2.1 (0 : Int)) = (0 : Int))) = true → (if AT.k e = (9 : Int) then (3 : Int) else (0 : Int)) = Prod.fst (vaF s_6.1 s_6.2.2.2.1 (20 : Nat) s_6.2.2.1 (0 : Int)) ∧ (0 : Int) = s ∧ (0 : Int) = s_3 ∧ True) ∧ ((!decide (Prod.fst (vaF s_6.1 s_6.2.2.2.1 (20 : Nat) s_6.2.2.1 (0 : Int)) = (0 : Int))) = false → ((-9223372036854775808 : Int) ≤ s_3 + (1 : Int) ∧ s_3 + (1 : Int) ≤ (9223372036854775807 : Int)) ∧ p_2 = p_2 ∧ n_5 = n_5 ∧ c_2 = c_2 ∧ s = s ∧ s_3 + (1 : Int) = s_3 + (1 : Int) ∧ (↑(Prod.fst (Prod.snd x)) : Int) = (↑(Prod.fst (Prod.snd x)) : Int) ∧ (↑n_5 : Int) = (↑n_5 : Int) ∧ Prod.fst x = Prod.fst x ∧ Prod.fst (Prod.snd x) = Prod.fst (Prod.snd x) ∧ Prod.snd (Prod.snd x) = Prod.snd (Prod.snd x) ∧ s = s ∧ Prod.fst x = Prod.fst x ∧ Prod.fst (Prod.snd x) = Prod.fst (Prod.snd x) ∧ Prod.snd (Prod.snd x) = Prod.snd (Prod.snd x) ∧ (∀ (p : Nat → Option Obj), (True ∧ schP [e] x p) ∧ Pl a → True ∧ schP [e] x p) ∧ s_3 + (1 : Int) = (0 : Int) ∧ (1 : Nat) - Int.toNat (s_3 + (1 : Int)) < (1 : Nat) - Int.toNat s_3 ∧ True))) ∧ (decide (s_3 < (↑n_5 : Int)) = false → ((-9223372036854775808 : Int) ≤ s + (1 : Int) ∧ s + (1 : Int) ≤ (9223372036854775807 : Int)) ∧ (↑(Prod.fst (Prod.snd x)) : Int) = (↑(Prod.fst (Prod.snd x)) : Int) ∧ Prod.fst x = Prod.fst x ∧ Prod.fst (Prod.snd x) = Prod.fst (Prod.snd x) ∧ Prod.snd (Prod.snd x) = Prod.snd (Prod.snd x) ∧ s + (1 : Int) = s + (1 : Int) ∧ Prod.fst x = Prod.fst x ∧ Prod.fst (Prod.snd x) = Prod.fst (Prod.snd x) ∧ Prod.snd (Prod.snd x) = Prod.snd (Prod.snd x) ∧ (∀ (p : Nat → Option Obj), True ∧ schP [e] x p → True ∧ schP [e] x p) ∧ ((0 : Int) ≤ s + (1 : Int) ∧ s + (1 : Int) ≤ (1 : Int) ∧ (s + (1 : Int) = (1 : Int) → AT.k e = (3 : Int))) ∧ (1 : Nat) - Int.toNat (s + (1 : Int)) < (1 : Nat) - Int.toNat s ∧ True))) ∧ (decide (s < (↑(Prod.fst (Prod.snd x)) : Int)) = false → (if AT.k e = (9 : Int) then (3 : Int) else (0 : Int)) = (0 : Int) ∧ (0 : Int) = (0 : Int) ∧ (0 : Int) = (0 : Int) ∧ True)) := by kernel_rfl
theorem val0_ok : CtOK P 8 cVal0 := by
  refine ask_ok mixed (ctTab_ok (forall_tab value_fin nil_tab)) (W := fun _ => {}) Go.Proofs.Try.func8 (by kernel_rfl) (by decide) (by decide) (fun s => by kernel_rfl) fun ⟨S, (x : SV), (t : Int), (nk : Int), (nn : Int)⟩ => (val0_eq S x t nk nn).mpr ?_
  rintro ⟨hS, hok⟩ _
  simp only [decide_eq_true_eq, decide_eq_false_iff_not, Bool.not_eq_true', Bool.not_eq_false', true_and, and_true, eq_self]
  refine ⟨⟨S, x, t, nk, nn, 1, 0⟩, ?_⟩
  simp only [true_and, eq_self]
  refine ⟨⟨hS, by omega, by omega, by omega, by omega, hok⟩, fun q hq => hq, fun _ _ a n c ⟨q, hq, hb⟩ => ⟨fun h => ⟨(), ?_, rfl, Pl_none, fun _ _ => Pl_none⟩, fun h => ⟨(), rfl, h, hb, fun _ h => h.2⟩⟩⟩
  unfold vaN
  exact if_neg fun g => h g.2
theorem vaF_self (e : AT) (h9 : e.k = 9) (s : ByteArray) (hf : e.fs = [(s, 0)]) : ∀ (D : Nat) (c : Int), (vaF [e] 6 D 0 c).1 = 3
  | 0, c => by rw [vaF_zero (by simp)]
  | D + 1, c => by
    by_cases hc : 2000 < c + 1
    · rw [vaF_much (by simp) hc]
    · rw [vaF_at (by simp) hc (by simp)]
      show (if e.k = 9 then vaL (vaF [e] 6 D) e.fs (c + 1) else _).1 = 3
      have ih := vaF_self e h9 s hf D (c + 1)
      rw [if_pos h9, hf, vaL, if_neg (by rw [ih]; decide)]
      exact ih
theorem check_ok : CtOK P 9 cCheck := by
  refine ask_ok mixed (ctTab_ok (forall_tab val0_ok nil_tab)) (W := wCheck) Go.Proofs.Try.func9 (by kernel_rfl) (by decide) (by decide) (fun s => by kernel_rfl) fun ⟨e, (x : SV)⟩ => (check_eq e x).mpr ?_
  rintro hk ⟨p, _, ⟨hx, hrow⟩, hf⟩
  obtain ⟨a, m, cp⟩ := x
  simp only [List.length_cons, List.length_nil] at hx hrow
  subst hx
  simp only [decide_eq_true_eq, decide_eq_false_iff_not, Bool.not_eq_true', Bool.not_eq_false', true_and, and_true, eq_self]
  refine ⟨⟨fun q hq => hq, by omega⟩, ?_⟩
  rintro j ⟨hj0, hj1, hj2⟩
  refine ⟨fun hj => ?_, fun hj => ?_⟩
  · obtain rfl : j = 0 := by omega
    have he := fun q (hq : schP [e] (a, 1, cp) q) => rows_cells (l := [e]) atV_len (by decide) hq.1.2 (i := 0) (Nat.zero_lt_succ _)
    refine ⟨by omega, (he p ⟨⟨rfl, hrow⟩, hf⟩).1, e.k, e.nm, none, 0, 0, 0, none, 0, 0, false, mkS [], 0, e.f.1, e.f.2.1, e.f.2.2, none, 0, 0, fun q hq => (he q hq).2, fun h9 => ⟨by omega, fun q hq => hq, by omega, by decide⟩, fun h9 => ⟨fun q hq => hq, ?_⟩⟩
    rintro j2 rfl
    obtain ⟨_, s, hs⟩ : e.k = 9 ∧ ∃ s, e.fs = [(s, 0)] := hk.elim (fun h => by omega) (fun h => h)
    have hfl := (hf e (by simp)).1
    rw [hs] at hfl
    have hfe := fun q (hq : schP [e] (a, 1, cp) q) => rows_cells fdV_len (by decide) (hq.2 e (by simp)).2 (i := 0) (by rw [hs]; exact Nat.zero_lt_succ _)
    simp only [hs] at hfe
    simp only [List.length_cons, List.length_nil] at hfl
    refine ⟨fun hn => ⟨by omega, (hfe p ⟨⟨rfl, hrow⟩, hf⟩).1, s, none, 0, 0, 0, true, 6, 0, mkS [], none, 0, 0, none, 0, 0, fun q hq => (hfe q hq).2, fun h => by simp at h, fun _ => ⟨⟨[e], (a, 1, cp), 0, 6, 0⟩, ?_⟩⟩, fun hn => by omega⟩
    have v := vaF_self e h9 s hs 20 0
    simp only [true_and, eq_self]
    refine ⟨⟨by simp, .inl ⟨fun e' he' => by simp at he'; subst he'; exact ⟨h9, by rw [hs]; simp⟩, rfl, rfl⟩⟩, fun q hq => hq, fun _ _ a n c _ => ⟨fun _ => by rw [v, if_pos h9]; exact ⟨rfl, trivial⟩, fun h => by omega⟩⟩
  · rw [if_neg (by have := hj2 (by omega); omega)]
/-! Chains. -/
noncomputable def chF (k j : Nat) : List (ByteArray × Int) := if j < k then [(mkS [97], (j : Int) + 1), (mkS [98], (j : Int) + 1)] else []
noncomputable def chS (S : List AT) (k : Nat) : Prop := ∀ j (h : j < S.length), S[j].k = 9 ∧ S[j].fs = chF k j
theorem vaF_chain {S : List AT} {k : Nat} (hS : chS S k) (hl : S.length = k + 1) : ∀ (j D : Nat) (c : Int), j ≤ k → j < D → 0 ≤ c → if c + (2 ^ (j + 1) - 1 : Nat) ≤ 2000 then vaF S 6 D ((k - j : Nat) : Int) c = (0, c + (2 ^ (j + 1) - 1 : Nat)) else (vaF S 6 D ((k - j : Nat) : Int) c).1 = 3
  | 0, 0, c, _, h, _ => by omega
  | j + 1, 0, c, _, h, _ => by omega
  | 0, D + 1, c, hj, _, hc => by
    have hi : ((k - 0 : Nat) : Int).toNat < S.length := by omega
    by_cases hm : 2000 < c + 1
    · rw [if_neg (by simp; omega), vaF_much (by omega) hm]
    · rw [if_pos (by simp; omega), vaF_at (by omega) hm hi]
      obtain ⟨h9, hf⟩ := hS _ hi
      rw [if_pos h9, hf, show chF k ((k - 0 : Nat) : Int).toNat = [] from if_neg (by omega), vaL]; simp
  | j + 1, D + 1, c, hj, hD, hc => by
    have hi : ((k - (j + 1) : Nat) : Int).toNat < S.length := by omega
    have hp : 0 < 2 ^ (j + 1) := Nat.two_pow_pos _
    have h2 : 2 ^ (j + 1 + 1) = 2 * 2 ^ (j + 1) := by rw [Nat.pow_succ]; omega
    by_cases hm : 2000 < c + 1
    · rw [if_neg (by omega), vaF_much (by omega) hm]
    · rw [vaF_at (by omega) hm hi]
      obtain ⟨h9, hf⟩ := hS _ hi
      have et : ((((k - (j + 1) : Nat) : Int).toNat : Nat) : Int) + 1 = ((k - j : Nat) : Int) := by omega
      have hch : chF k ((k - (j + 1) : Nat) : Int).toNat = [(mkS [97], ((k - j : Nat) : Int)), (mkS [98], ((k - j : Nat) : Int))] := by
        unfold chF
        rw [if_pos (by omega), et]
      rw [if_pos h9, hf, hch]
      have i1 := vaF_chain hS hl j D (c + 1) (by omega) (by omega) (by omega)
      have i2 := vaF_chain hS hl j D (c + 1 + (2 ^ (j + 1) - 1 : Nat)) (by omega) (by omega) (by omega)
      generalize vaF S 6 D = g at i1 i2 ⊢
      rw [vaL]
      show if _ then ((if (g ((k - j : Nat) : Int) (c + 1)).1 = 0 then _ else _ : Int × Int)) = _ else ((if (g ((k - j : Nat) : Int) (c + 1)).1 = 0 then _ else _ : Int × Int)).1 = 3
      by_cases q1 : c + 1 + (2 ^ (j + 1) - 1 : Nat) ≤ 2000
      · rw [if_pos q1] at i1
        rw [i1, if_pos rfl, vaL]
        show if _ then ((if (g ((k - j : Nat) : Int) (c + 1 + (2 ^ (j + 1) - 1 : Nat))).1 = 0 then _ else _ : Int × Int)) = _ else ((if (g ((k - j : Nat) : Int) (c + 1 + (2 ^ (j + 1) - 1 : Nat))).1 = 0 then _ else _ : Int × Int)).1 = 3
        by_cases q2 : c + 1 + (2 ^ (j + 1) - 1 : Nat) + (2 ^ (j + 1) - 1 : Nat) ≤ 2000
        · rw [if_pos q2] at i2
          rw [i2, if_pos rfl, vaL, if_pos (by omega)]
          refine Prod.ext rfl ?_
          show c + 1 + _ + _ = c + _
          omega
        · rw [if_neg q2] at i2
          rw [if_neg (by omega), if_neg (by rw [i2]; decide)]
          exact i2
      · rw [if_neg q1] at i1
        rw [if_neg (by omega), if_neg (by rw [i1]; decide)]
        exact i1
/-! The law. -/
noncomputable def cBegun : Ct where
  σ := Unit
  args := fun _ => []
  h := fun _ => []
  m := 1
  r := fun _ => .bool true
  h' := fun _ => []
  m' := 1
  g := fun _ => none
noncomputable def wBegun : cBegun.σ → WayF := fun _ => { pub := fun i k => match i, k with
  | 2, 2 => [13]
  | _, _ => [] }
noncomputable def cLaw14 : Ct where
  σ := Int
  args := fun n => [.sv (.int .u8 n)]
  h := fun _ => []
  m := 1
  pre := fun n => 0 ≤ n ∧ n < 256
  r := fun n => .sv (.bool true)
  h' := fun _ => []
  m' := 1
  g := fun _ => none
noncomputable def lwInv (n : Int) (S : List AT) (i : Int) : Prop := 0 ≤ i ∧ i ≤ n % 18 + 1 ∧ S.length = i.toNat ∧ chS S (n % 18).toNat
noncomputable def wLaw14 : cLaw14.σ → WayF := fun (n : Int) => {
  ann := fun _ _ _ => some { σ := List AT × Int, pre := fun ⟨S, i⟩ => lwInv n S i, mem := fun ⟨S, i⟩ => fdsM S, t := fun ⟨S, i⟩ => [(12, .sv (.int .i64 i))], h := fun ⟨S, i⟩ => [(11, .row 32 0 (rowsV atV S)), (10, .cells 35 (some 0) false [.ssl 11 0 S.length 10 12])], more := 2, μ := fun ⟨S, i⟩ => 18 - i.toNat, keep := [2, 3, 6, 7, 8, 9, 10, 11] }
  pub := fun i k => match i, k with
    | 5, 2 => [27]
    | 15, 0 => [64]
    | 16, 2 => [73]
    | _, _ => [] }
theorem begun_eq (u : Unit) : askF P (ctTab [(8, cVal0), (9, cCheck)]) Go.Proofs.Try.f7 cBegun (wBegun) u = (True → ∀ (b s u : Nat), (∃ (p : Nat → Option Obj), True ∧ cellsP p (Addr.mk b s none) [Value.int IntKind.i64 (3 : Int), Value.string (mkS []), Value.slice noA (0 : Nat) (0 : Nat), Value.int IntKind.i64 (0 : Int), Value.slice noA (0 : Nat) (0 : Nat), Value.bool false, Value.string (mkS []), Value.int IntKind.i64 (0 : Int), Value.slice noA (0 : Nat) (0 : Nat), Value.slice noA (0 : Nat) (0 : Nat)]) → ∃ (s_1 : List AT × (Option Addr × Nat × Nat) × Int × Int × Int), Prod.fst s_1.2.1 = some (Addr.mk b (s + (0 : Nat)) none) ∧ Prod.fst (Prod.snd s_1.2.1) = (1 : Nat) ∧ Prod.snd (Prod.snd s_1.2.1) = (1 : Nat) ∧ s_1.2.2.1 = (0 : Int) ∧ s_1.2.2.2.1 = (3 : Int) ∧ s_1.2.2.2.2 = (5 : Int) ∧ (List.length (Prod.fst s_1) < (1000 : Nat) ∧ okS (Prod.fst s_1) (Prod.fst s_1.2.2.2) (Prod.snd s_1.2.2.2)) ∧ (∀ (p : Nat → Option Obj), (True ∧ ∀ (j : Nat) (v : Value), [Value.int IntKind.i64 (3 : Int), Value.string (mkS []), Value.slice noA (0 : Nat) (0 : Nat), Value.int IntKind.i64 (0 : Int), Value.slice noA (0 : Nat) (0 : Nat), Value.bool false, Value.string (mkS []), Value.int IntKind.i64 (0 : Int), Value.slice noA (0 : Nat) (0 : Nat), Value.slice noA (0 : Nat) (0 : Nat)][j]? = some v → cellP p (Addr.add (Addr.mk b s none) j) = some v) → schP s_1.1 s_1.2.1 p) ∧ ∀ (b_1 : Unit), True → ∀ (a : Option Addr) (n c : Nat), (∃ (p : Nat → Option Obj), (True ∧ ∀ (j : Nat) (v : Value), [Value.int IntKind.i64 (3 : Int), Value.string (mkS []), Value.slice noA (0 : Nat) (0 : Nat), Value.int IntKind.i64 (0 : Int), Value.slice noA (0 : Nat) (0 : Nat), Value.bool false, Value.string (mkS []), Value.int IntKind.i64 (0 : Int), Value.slice noA (0 : Nat) (0 : Nat), Value.slice noA (0 : Nat) (0 : Nat)][j]? = some v → cellP p (Addr.add (Addr.mk b s none) j) = some v) ∧ Pl a) → ∃ (s_2 : List AT × (Option Addr × Nat × Nat) × Int × Int × Int), Prod.fst s_2.2.1 = some (Addr.mk b (s + (0 : Nat)) none) ∧ Prod.fst (Prod.snd s_2.2.1) = (1 : Nat) ∧ Prod.snd (Prod.snd s_2.2.1) = (1 : Nat) ∧ s_2.2.2.1 = (0 : Int) ∧ s_2.2.2.2.1 = (1 : Int) ∧ s_2.2.2.2.2 = (0 : Int) ∧ (List.length (Prod.fst s_2) < (1000 : Nat) ∧ okS (Prod.fst s_2) (Prod.fst s_2.2.2.2) (Prod.snd s_2.2.2.2)) ∧ (∀ (p : Nat → Option Obj), (True ∧ ∀ (j : Nat) (v : Value), [Value.int IntKind.i64 (3 : Int), Value.string (mkS []), Value.slice noA (0 : Nat) (0 : Nat), Value.int IntKind.i64 (0 : Int), Value.slice noA (0 : Nat) (0 : Nat), Value.bool false, Value.string (mkS []), Value.int IntKind.i64 (0 : Int), Value.slice noA (0 : Nat) (0 : Nat), Value.slice noA (0 : Nat) (0 : Nat)][j]? = some v → cellP p (Addr.add (Addr.mk b s none) j) = some v) ∧ Pl a → schP s_2.1 s_2.2.1 p) ∧ ∀ (b_2 : Unit), True → ∀ (a_3 : Option Addr) (n c : Nat), (∃ (p : Nat → Option Obj), ((True ∧ ∀ (j : Nat) (v : Value), [Value.int IntKind.i64 (3 : Int), Value.string (mkS []), Value.slice noA (0 : Nat) (0 : Nat), Value.int IntKind.i64 (0 : Int), Value.slice noA (0 : Nat) (0 : Nat), Value.bool false, Value.string (mkS []), Value.int IntKind.i64 (0 : Int), Value.slice noA (0 : Nat) (0 : Nat), Value.slice noA (0 : Nat) (0 : Nat)][j]? = some v → cellP p (Addr.add (Addr.mk b s none) j) = some v) ∧ Pl a) ∧ Pl a_3) → ∃ (s_3 : AT × Option Addr × Nat × Nat), Prod.fst s_3.2 = some (Addr.mk b (s + (0 : Nat)) none) ∧ Prod.fst (Prod.snd s_3.2) = (1 : Nat) ∧ Prod.snd (Prod.snd s_3.2) = (1 : Nat) ∧ (AT.k (Prod.fst s_3) = (3 : Int) ∨ AT.k (Prod.fst s_3) = (9 : Int) ∧ ∃ (s : ByteArray), AT.fs (Prod.fst s_3) = [(s, (0 : Int))]) ∧ (∀ (p : Nat → Option Obj), ((True ∧ ∀ (j : Nat) (v : Value), [Value.int IntKind.i64 (3 : Int), Value.string (mkS []), Value.slice noA (0 : Nat) (0 : Nat), Value.int IntKind.i64 (0 : Int), Value.slice noA (0 : Nat) (0 : Nat), Value.bool false, Value.string (mkS []), Value.int IntKind.i64 (0 : Int), Value.slice noA (0 : Nat) (0 : Nat), Value.slice noA (0 : Nat) (0 : Nat)][j]? = some v → cellP p (Addr.add (Addr.mk b s none) j) = some v) ∧ Pl a) ∧ Pl a_3 → schP [s_3.1] s_3.2 p) ∧ (decide (Prod.fst (vaF s_1.1 s_1.2.2.2.1 (20 : Nat) s_1.2.2.1 (0 : Int)) = (0 : Int)) = true → (decide (vaN s_1.2.2.2.1 (Prod.fst (vaF s_1.1 s_1.2.2.2.1 (20 : Nat) s_1.2.2.1 (0 : Int))) = (5 : Int)) = true → (decide (Prod.fst (vaF s_2.1 s_2.2.2.2.1 (20 : Nat) s_2.2.2.1 (0 : Int)) = (7 : Int)) = true → true = decide ((if AT.k s_3.1 = (9 : Int) then (3 : Int) else (0 : Int)) = (0 : Int)) ∧ True) ∧ (decide (Prod.fst (vaF s_2.1 s_2.2.2.2.1 (20 : Nat) s_2.2.2.1 (0 : Int)) = (7 : Int)) = false → False)) ∧ (decide (vaN s_1.2.2.2.1 (Prod.fst (vaF s_1.1 s_1.2.2.2.1 (20 : Nat) s_1.2.2.1 (0 : Int))) = (5 : Int)) = false → False)) ∧ (decide (Prod.fst (vaF s_1.1 s_1.2.2.2.1 (20 : Nat) s_1.2.2.1 (0 : Int)) = (0 : Int)) = false → False)) := by kernel_rfl
theorem law_eq (n : Int) : askF P (ctTab [(7, cBegun), (8, cVal0), (9, cCheck)]) Go.Proofs.Try.f3 cLaw14 (wLaw14) n = ((0 : Int) ≤ n ∧ n < (256 : Int) → ∃ (s : Unit), True ∧ ∀ (b s u : Nat), (∃ (p : Nat → Option Obj), True ∧ cellsP p (Addr.mk b s none) [Value.string (mkS [(97 : Nat)]), Value.slice noA (0 : Nat) (0 : Nat), Value.int IntKind.i64 (0 : Int), Value.bool true, Value.int IntKind.i64 (6 : Int), Value.int IntKind.i64 (0 : Int), Value.string (mkS []), Value.slice noA (0 : Nat) (0 : Nat), Value.slice noA (0 : Nat) (0 : Nat)]) → ∀ (b_1 s_1 u : Nat), (∃ (p : Nat → Option Obj), (True ∧ ∀ (j : Nat) (v : Value), [Value.string (mkS [(97 : Nat)]), Value.slice noA (0 : Nat) (0 : Nat), Value.int IntKind.i64 (0 : Int), Value.bool true, Value.int IntKind.i64 (6 : Int), Value.int IntKind.i64 (0 : Int), Value.string (mkS []), Value.slice noA (0 : Nat) (0 : Nat), Value.slice noA (0 : Nat) (0 : Nat)][j]? = some v → cellP p (Addr.add (Addr.mk b s none) j) = some v) ∧ cellsP p (Addr.mk b_1 s_1 none) [Value.int IntKind.i64 (9 : Int), Value.string (mkS [(82 : Nat)]), Value.slice noA (0 : Nat) (0 : Nat), Value.int IntKind.i64 (0 : Int), Value.slice noA (0 : Nat) (0 : Nat), Value.bool false, Value.string (mkS []), Value.int IntKind.i64 (0 : Int), Value.slice (some (Addr.mk b (s + (0 : Nat)) none)) (1 : Nat) (1 : Nat), Value.slice noA (0 : Nat) (0 : Nat)]) → ∃ (s_2 : List AT × (Option Addr × Nat × Nat) × Int × Int × Int), Prod.fst s_2.2.1 = some (Addr.mk b_1 (s_1 + (0 : Nat)) none) ∧ Prod.fst (Prod.snd s_2.2.1) = (1 : Nat) ∧ Prod.snd (Prod.snd s_2.2.1) = (1 : Nat) ∧ s_2.2.2.1 = (0 : Int) ∧ s_2.2.2.2.1 = (6 : Int) ∧ s_2.2.2.2.2 = (0 : Int) ∧ (List.length (Prod.fst s_2) < (1000 : Nat) ∧ okS (Prod.fst s_2) (Prod.fst s_2.2.2.2) (Prod.snd s_2.2.2.2)) ∧ (∀ (p : Nat → Option Obj), ((True ∧ ∀ (j : Nat) (v : Value), [Value.string (mkS [(97 : Nat)]), Value.slice noA (0 : Nat) (0 : Nat), Value.int IntKind.i64 (0 : Int), Value.bool true, Value.int IntKind.i64 (6 : Int), Value.int IntKind.i64 (0 : Int), Value.string (mkS []), Value.slice noA (0 : Nat) (0 : Nat), Value.slice noA (0 : Nat) (0 : Nat)][j]? = some v → cellP p (Addr.add (Addr.mk b s none) j) = some v) ∧ ∀ (j : Nat) (v : Value), [Value.int IntKind.i64 (9 : Int), Value.string (mkS [(82 : Nat)]), Value.slice noA (0 : Nat) (0 : Nat), Value.int IntKind.i64 (0 : Int), Value.slice noA (0 : Nat) (0 : Nat), Value.bool false, Value.string (mkS []), Value.int IntKind.i64 (0 : Int), Value.slice (some (Addr.mk b (s + (0 : Nat)) none)) (1 : Nat) (1 : Nat), Value.slice noA (0 : Nat) (0 : Nat)][j]? = some v → cellP p (Addr.add (Addr.mk b_1 s_1 none) j) = some v) → schP s_2.1 s_2.2.1 p) ∧ ∀ (b_2 : Unit), True → ∀ (a : Option Addr) (n_1 c : Nat), (∃ (p : Nat → Option Obj), ((True ∧ ∀ (j : Nat) (v : Value), [Value.string (mkS [(97 : Nat)]), Value.slice noA (0 : Nat) (0 : Nat), Value.int IntKind.i64 (0 : Int), Value.bool true, Value.int IntKind.i64 (6 : Int), Value.int IntKind.i64 (0 : Int), Value.string (mkS []), Value.slice noA (0 : Nat) (0 : Nat), Value.slice noA (0 : Nat) (0 : Nat)][j]? = some v → cellP p (Addr.add (Addr.mk b s none) j) = some v) ∧ ∀ (j : Nat) (v : Value), [Value.int IntKind.i64 (9 : Int), Value.string (mkS [(82 : Nat)]), Value.slice noA (0 : Nat) (0 : Nat), Value.int IntKind.i64 (0 : Int), Value.slice noA (0 : Nat) (0 : Nat), Value.bool false, Value.string (mkS []), Value.int IntKind.i64 (0 : Int), Value.slice (some (Addr.mk b (s + (0 : Nat)) none)) (1 : Nat) (1 : Nat), Value.slice noA (0 : Nat) (0 : Nat)][j]? = some v → cellP p (Addr.add (Addr.mk b_1 s_1 none) j) = some v) ∧ Pl a) → ∃ (s_3 : AT × Option Addr × Nat × Nat), Prod.fst s_3.2 = some (Addr.mk b_1 (s_1 + (0 : Nat)) none) ∧ Prod.fst (Prod.snd s_3.2) = (1 : Nat) ∧ Prod.snd (Prod.snd s_3.2) = (1 : Nat) ∧ (AT.k (Prod.fst s_3) = (3 : Int) ∨ AT.k (Prod.fst s_3) = (9 : Int) ∧ ∃ (s : ByteArray), AT.fs (Prod.fst s_3) = [(s, (0 : Int))]) ∧ (∀ (p : Nat → Option Obj), ((True ∧ ∀ (j : Nat) (v : Value), [Value.string (mkS [(97 : Nat)]), Value.slice noA (0 : Nat) (0 : Nat), Value.int IntKind.i64 (0 : Int), Value.bool true, Value.int IntKind.i64 (6 : Int), Value.int IntKind.i64 (0 : Int), Value.string (mkS []), Value.slice noA (0 : Nat) (0 : Nat), Value.slice noA (0 : Nat) (0 : Nat)][j]? = some v → cellP p (Addr.add (Addr.mk b s none) j) = some v) ∧ ∀ (j : Nat) (v : Value), [Value.int IntKind.i64 (9 : Int), Value.string (mkS [(82 : Nat)]), Value.slice noA (0 : Nat) (0 : Nat), Value.int IntKind.i64 (0 : Int), Value.slice noA (0 : Nat) (0 : Nat), Value.bool false, Value.string (mkS []), Value.int IntKind.i64 (0 : Int), Value.slice (some (Addr.mk b (s + (0 : Nat)) none)) (1 : Nat) (1 : Nat), Value.slice noA (0 : Nat) (0 : Nat)][j]? = some v → cellP p (Addr.add (Addr.mk b_1 s_1 none) j) = some v) ∧ Pl a → schP [s_3.1] s_3.2 p) ∧ (18 : Int) ≠ (0 : Int) ∧ ((-9223372036854775808 : Int) ≤ Int.tmod n (18 : Int) ∧ Int.tmod n (18 : Int) ≤ (9223372036854775807 : Int)) ∧ (∃ (s_4 : List AT × Int), ((if AT.k s_3.1 = (9 : Int) then (3 : Int) else (0 : Int)) = if AT.k s_3.1 = (9 : Int) then (3 : Int) else (0 : Int)) ∧ (0 : Int) = (0 : Int) ∧ (0 : Int) = (0 : Int) ∧ s_4.2 = (0 : Int) ∧ Prod.fst (vaF s_2.1 s_2.2.2.2.1 (20 : Nat) s_2.2.2.1 (0 : Int)) = Prod.fst (vaF s_2.1 s_2.2.2.2.1 (20 : Nat) s_2.2.2.1 (0 : Int)) ∧ Int.tmod n (18 : Int) = Int.tmod n (18 : Int) ∧ List.length s_4.1 = (0 : Nat) ∧ (∀ (p : Nat → Option Obj), ((True ∧ ∀ (j : Nat) (v : Value), [Value.string (mkS [(97 : Nat)]), Value.slice noA (0 : Nat) (0 : Nat), Value.int IntKind.i64 (0 : Int), Value.bool true, Value.int IntKind.i64 (6 : Int), Value.int IntKind.i64 (0 : Int), Value.string (mkS []), Value.slice noA (0 : Nat) (0 : Nat), Value.slice noA (0 : Nat) (0 : Nat)][j]? = some v → cellP p (Addr.add (Addr.mk b s none) j) = some v) ∧ ∀ (j : Nat) (v : Value), [Value.int IntKind.i64 (9 : Int), Value.string (mkS [(82 : Nat)]), Value.slice noA (0 : Nat) (0 : Nat), Value.int IntKind.i64 (0 : Int), Value.slice noA (0 : Nat) (0 : Nat), Value.bool false, Value.string (mkS []), Value.int IntKind.i64 (0 : Int), Value.slice (some (Addr.mk b (s + (0 : Nat)) none)) (1 : Nat) (1 : Nat), Value.slice noA (0 : Nat) (0 : Nat)][j]? = some v → cellP p (Addr.add (Addr.mk b_1 s_1 none) j) = some v) ∧ Pl a → ((True ∧ ∀ (j : Nat) (v : Value), [Value.string (mkS [(97 : Nat)]), Value.slice noA (0 : Nat) (0 : Nat), Value.int IntKind.i64 (0 : Int), Value.bool true, Value.int IntKind.i64 (6 : Int), Value.int IntKind.i64 (0 : Int), Value.string (mkS []), Value.slice noA (0 : Nat) (0 : Nat), Value.slice noA (0 : Nat) (0 : Nat)][j]? = some v → cellP p (Addr.add (Addr.mk b s none) j) = some v) ∧ ∀ (j : Nat) (v : Value), [Value.int IntKind.i64 (9 : Int), Value.string (mkS [(82 : Nat)]), Value.slice noA (0 : Nat) (0 : Nat), Value.int IntKind.i64 (0 : Int), Value.slice noA (0 : Nat) (0 : Nat), Value.bool false, Value.string (mkS []), Value.int IntKind.i64 (0 : Int), Value.slice (some (Addr.mk b (s + (0 : Nat)) none)) (1 : Nat) (1 : Nat), Value.slice noA (0 : Nat) (0 : Nat)][j]? = some v → cellP p (Addr.add (Addr.mk b_1 s_1 none) j) = some v) ∧ Pl a) ∧ (∀ (p : Nat → Option Obj), ((True ∧ ∀ (j : Nat) (v : Value), [Value.string (mkS [(97 : Nat)]), Value.slice noA (0 : Nat) (0 : Nat), Value.int IntKind.i64 (0 : Int), Value.bool true, Value.int IntKind.i64 (6 : Int), Value.int IntKind.i64 (0 : Int), Value.string (mkS []), Value.slice noA (0 : Nat) (0 : Nat), Value.slice noA (0 : Nat) (0 : Nat)][j]? = some v → cellP p (Addr.add (Addr.mk b s none) j) = some v) ∧ ∀ (j : Nat) (v : Value), [Value.int IntKind.i64 (9 : Int), Value.string (mkS [(82 : Nat)]), Value.slice noA (0 : Nat) (0 : Nat), Value.int IntKind.i64 (0 : Int), Value.slice noA (0 : Nat) (0 : Nat), Value.bool false, Value.string (mkS []), Value.int IntKind.i64 (0 : Int), Value.slice (some (Addr.mk b (s + (0 : Nat)) none)) (1 : Nat) (1 : Nat), Value.slice noA (0 : Nat) (0 : Nat)][j]? = some v → cellP p (Addr.add (Addr.mk b_1 s_1 none) j) = some v) ∧ Pl a → fdsP s_4.1 p) ∧ lwInv n (Prod.fst s_4) (Prod.snd s_4) ∧ True) ∧ ∀ (s_4 : List AT × Int), lwInv n (Prod.fst s_4) (Prod.snd s_4) → (∃ (p : Nat → Option Obj), (((True ∧ ∀ (j : Nat) (v : Value), [Value.string (mkS [(97 : Nat)]), Value.slice noA (0 : Nat) (0 : Nat), Value.int IntKind.i64 (0 : Int), Value.bool true, Value.int IntKind.i64 (6 : Int), Value.int IntKind.i64 (0 : Int), Value.string (mkS []), Value.slice noA (0 : Nat) (0 : Nat), Value.slice noA (0 : Nat) (0 : Nat)][j]? = some v → cellP p (Addr.add (Addr.mk b s none) j) = some v) ∧ ∀ (j : Nat) (v : Value), [Value.int IntKind.i64 (9 : Int), Value.string (mkS [(82 : Nat)]), Value.slice noA (0 : Nat) (0 : Nat), Value.int IntKind.i64 (0 : Int), Value.slice noA (0 : Nat) (0 : Nat), Value.bool false, Value.string (mkS []), Value.int IntKind.i64 (0 : Int), Value.slice (some (Addr.mk b (s + (0 : Nat)) none)) (1 : Nat) (1 : Nat), Value.slice noA (0 : Nat) (0 : Nat)][j]? = some v → cellP p (Addr.add (Addr.mk b_1 s_1 none) j) = some v) ∧ Pl a) ∧ fdsP s_4.1 p) → (decide (s_4.2 ≤ Int.tmod n (18 : Int)) = true → ((-9223372036854775808 : Int) ≤ (65 : Int) + s_4.2 ∧ (65 : Int) + s_4.2 ≤ (9223372036854775807 : Int)) ∧ ∃ (s_5 : ByteArray), ByteArray.size s_5 = (1 : Nat) ∧ subL [Value.int IntKind.u8 (IntKind.wrap IntKind.u8 ((65 : Int) + s_4.2))] (0 : Nat) (bcells s_5) ∧ ByteArray.size (mkS [(82 : Nat)]) + ByteArray.size s_5 ≤ (9223372036854775807 : Nat) ∧ (decide (s_4.2 < Int.tmod n (18 : Int)) = true → ((-9223372036854775808 : Int) ≤ s_4.2 + (1 : Int) ∧ s_4.2 + (1 : Int) ≤ (9223372036854775807 : Int)) ∧ ((-9223372036854775808 : Int) ≤ s_4.2 + (1 : Int) ∧ s_4.2 + (1 : Int) ≤ (9223372036854775807 : Int)) ∧ ∀ (b_3 s_6 u : Nat), (∃ (p : Nat → Option Obj), ((((True ∧ ∀ (j : Nat) (v : Value), [Value.string (mkS [(97 : Nat)]), Value.slice noA (0 : Nat) (0 : Nat), Value.int IntKind.i64 (0 : Int), Value.bool true, Value.int IntKind.i64 (6 : Int), Value.int IntKind.i64 (0 : Int), Value.string (mkS []), Value.slice noA (0 : Nat) (0 : Nat), Value.slice noA (0 : Nat) (0 : Nat)][j]? = some v → cellP p (Addr.add (Addr.mk b s none) j) = some v) ∧ ∀ (j : Nat) (v : Value), [Value.int IntKind.i64 (9 : Int), Value.string (mkS [(82 : Nat)]), Value.slice noA (0 : Nat) (0 : Nat), Value.int IntKind.i64 (0 : Int), Value.slice noA (0 : Nat) (0 : Nat), Value.bool false, Value.string (mkS []), Value.int IntKind.i64 (0 : Int), Value.slice (some (Addr.mk b (s + (0 : Nat)) none)) (1 : Nat) (1 : Nat), Value.slice noA (0 : Nat) (0 : Nat)][j]? = some v → cellP p (Addr.add (Addr.mk b_1 s_1 none) j) = some v) ∧ Pl a) ∧ fdsP s_4.1 p) ∧ cellsP p (Addr.mk b_3 s_6 none) [Value.string (mkS [(97 : Nat)]), Value.slice noA (0 : Nat) (0 : Nat), Value.int IntKind.i64 (s_4.2 + (1 : Int)), Value.bool true, Value.int IntKind.i64 (6 : Int), Value.int IntKind.i64 (0 : Int), Value.string (mkS []), Value.slice noA (0 : Nat) (0 : Nat), Value.slice noA (0 : Nat) (0 : Nat), Value.string (mkS [(98 : Nat)]), Value.slice noA (0 : Nat) (0 : Nat), Value.int IntKind.i64 (s_4.2 + (1 : Int)), Value.bool true, Value.int IntKind.i64 (6 : Int), Value.int IntKind.i64 (0 : Int), Value.string (mkS []), Value.slice noA (0 : Nat) (0 : Nat), Value.slice noA (0 : Nat) (0 : Nat)]) → List.length (rowsV atV s_4.1) = List.length s_4.1 * (10 : Nat) ∧ (List.length s_4.1 + (1 : Nat)) * (160 : Nat) ≤ (140737488355328 : Nat) ∧ ((-9223372036854775808 : Int) ≤ s_4.2 + (1 : Int) ∧ s_4.2 + (1 : Int) ≤ (9223372036854775807 : Int)) ∧ ∃ (s_7 : List AT × Int), ((if AT.k s_3.1 = (9 : Int) then (3 : Int) else (0 : Int)) = if AT.k s_3.1 = (9 : Int) then (3 : Int) else (0 : Int)) ∧ (0 : Int) = (0 : Int) ∧ (0 : Int) = (0 : Int) ∧ s_7.2 = s_4.2 + (1 : Int) ∧ Prod.fst (vaF s_2.1 s_2.2.2.2.1 (20 : Nat) s_2.2.2.1 (0 : Int)) = Prod.fst (vaF s_2.1 s_2.2.2.2.1 (20 : Nat) s_2.2.2.1 (0 : Int)) ∧ Int.tmod n (18 : Int) = Int.tmod n (18 : Int) ∧ rowsV atV s_7.1 = rowsV atV s_4.1 ++ [Value.int IntKind.i64 (9 : Int), Value.string (mkS [(82 : Nat)] ++ s_5), Value.slice noA (0 : Nat) (0 : Nat), Value.int IntKind.i64 (0 : Int), Value.slice noA (0 : Nat) (0 : Nat), Value.bool false, Value.string (mkS []), Value.int IntKind.i64 (0 : Int), Value.slice (some (Addr.mk b_3 (s_6 + (0 : Nat)) none)) (2 : Nat) (2 : Nat), Value.slice noA (0 : Nat) (0 : Nat)] ∧ List.length s_7.1 = List.length s_4.1 + (1 : Nat) ∧ (∀ (p : Nat → Option Obj), (((((True ∧ ∀ (j : Nat) (v : Value), [Value.string (mkS [(97 : Nat)]), Value.slice noA (0 : Nat) (0 : Nat), Value.int IntKind.i64 (0 : Int), Value.bool true, Value.int IntKind.i64 (6 : Int), Value.int IntKind.i64 (0 : Int), Value.string (mkS []), Value.slice noA (0 : Nat) (0 : Nat), Value.slice noA (0 : Nat) (0 : Nat)][j]? = some v → cellP p (Addr.add (Addr.mk b s none) j) = some v) ∧ ∀ (j : Nat) (v : Value), [Value.int IntKind.i64 (9 : Int), Value.string (mkS [(82 : Nat)]), Value.slice noA (0 : Nat) (0 : Nat), Value.int IntKind.i64 (0 : Int), Value.slice noA (0 : Nat) (0 : Nat), Value.bool false, Value.string (mkS []), Value.int IntKind.i64 (0 : Int), Value.slice (some (Addr.mk b (s + (0 : Nat)) none)) (1 : Nat) (1 : Nat), Value.slice noA (0 : Nat) (0 : Nat)][j]? = some v → cellP p (Addr.add (Addr.mk b_1 s_1 none) j) = some v) ∧ Pl a) ∧ fdsP s_4.1 p) ∧ ∀ (j : Nat) (v : Value), [Value.string (mkS [(97 : Nat)]), Value.slice noA (0 : Nat) (0 : Nat), Value.int IntKind.i64 (s_4.2 + (1 : Int)), Value.bool true, Value.int IntKind.i64 (6 : Int), Value.int IntKind.i64 (0 : Int), Value.string (mkS []), Value.slice noA (0 : Nat) (0 : Nat), Value.slice noA (0 : Nat) (0 : Nat), Value.string (mkS [(98 : Nat)]), Value.slice noA (0 : Nat) (0 : Nat), Value.int IntKind.i64 (s_4.2 + (1 : Int)), Value.bool true, Value.int IntKind.i64 (6 : Int), Value.int IntKind.i64 (0 : Int), Value.string (mkS []), Value.slice noA (0 : Nat) (0 : Nat), Value.slice noA (0 : Nat) (0 : Nat)][j]? = some v → cellP p (Addr.add (Addr.mk b_3 s_6 none) j) = some v) → ((True ∧ ∀ (j : Nat) (v : Value), [Value.string (mkS [(97 : Nat)]), Value.slice noA (0 : Nat) (0 : Nat), Value.int IntKind.i64 (0 : Int), Value.bool true, Value.int IntKind.i64 (6 : Int), Value.int IntKind.i64 (0 : Int), Value.string (mkS []), Value.slice noA (0 : Nat) (0 : Nat), Value.slice noA (0 : Nat) (0 : Nat)][j]? = some v → cellP p (Addr.add (Addr.mk b s none) j) = some v) ∧ ∀ (j : Nat) (v : Value), [Value.int IntKind.i64 (9 : Int), Value.string (mkS [(82 : Nat)]), Value.slice noA (0 : Nat) (0 : Nat), Value.int IntKind.i64 (0 : Int), Value.slice noA (0 : Nat) (0 : Nat), Value.bool false, Value.string (mkS []), Value.int IntKind.i64 (0 : Int), Value.slice (some (Addr.mk b (s + (0 : Nat)) none)) (1 : Nat) (1 : Nat), Value.slice noA (0 : Nat) (0 : Nat)][j]? = some v → cellP p (Addr.add (Addr.mk b_1 s_1 none) j) = some v) ∧ Pl a) ∧ (∀ (p : Nat → Option Obj), (((((True ∧ ∀ (j : Nat) (v : Value), [Value.string (mkS [(97 : Nat)]), Value.slice noA (0 : Nat) (0 : Nat), Value.int IntKind.i64 (0 : Int), Value.bool true, Value.int IntKind.i64 (6 : Int), Value.int IntKind.i64 (0 : Int), Value.string (mkS []), Value.slice noA (0 : Nat) (0 : Nat), Value.slice noA (0 : Nat) (0 : Nat)][j]? = some v → cellP p (Addr.add (Addr.mk b s none) j) = some v) ∧ ∀ (j : Nat) (v : Value), [Value.int IntKind.i64 (9 : Int), Value.string (mkS [(82 : Nat)]), Value.slice noA (0 : Nat) (0 : Nat), Value.int IntKind.i64 (0 : Int), Value.slice noA (0 : Nat) (0 : Nat), Value.bool false, Value.string (mkS []), Value.int IntKind.i64 (0 : Int), Value.slice (some (Addr.mk b (s + (0 : Nat)) none)) (1 : Nat) (1 : Nat), Value.slice noA (0 : Nat) (0 : Nat)][j]? = some v → cellP p (Addr.add (Addr.mk b_1 s_1 none) j) = some v) ∧ Pl a) ∧ fdsP s_4.1 p) ∧ ∀ (j : Nat) (v : Value), [Value.string (mkS [(97 : Nat)]), Value.slice noA (0 : Nat) (0 : Nat), Value.int IntKind.i64 (s_4.2 + (1 : Int)), Value.bool true, Value.int IntKind.i64 (6 : Int), Value.int IntKind.i64 (0 : Int), Value.string (mkS []), Value.slice noA (0 : Nat) (0 : Nat), Value.slice noA (0 : Nat) (0 : Nat), Value.string (mkS [(98 : Nat)]), Value.slice noA (0 : Nat) (0 : Nat), Value.int IntKind.i64 (s_4.2 + (1 : Int)), Value.bool true, Value.int IntKind.i64 (6 : Int), Value.int IntKind.i64 (0 : Int), Value.string (mkS []), Value.slice noA (0 : Nat) (0 : Nat), Value.slice noA (0 : Nat) (0 : Nat)][j]? = some v → cellP p (Addr.add (Addr.mk b_3 s_6 none) j) = some v) → fdsP s_7.1 p) ∧ lwInv n (Prod.fst s_7) (Prod.snd s_7) ∧ (18 : Nat) - Int.toNat (Prod.snd s_7) < (18 : Nat) - Int.toNat (Prod.snd s_4) ∧ True) ∧ (decide (s_4.2 < Int.tmod n (18 : Int)) = false → List.length (rowsV atV s_4.1) = List.length s_4.1 * (10 : Nat) ∧ (List.length s_4.1 + (1 : Nat)) * (160 : Nat) ≤ (140737488355328 : Nat) ∧ ((-9223372036854775808 : Int) ≤ s_4.2 + (1 : Int) ∧ s_4.2 + (1 : Int) ≤ (9223372036854775807 : Int)) ∧ ∃ (s_6 : List AT × Int), ((if AT.k s_3.1 = (9 : Int) then (3 : Int) else (0 : Int)) = if AT.k s_3.1 = (9 : Int) then (3 : Int) else (0 : Int)) ∧ (0 : Int) = (0 : Int) ∧ (0 : Int) = (0 : Int) ∧ s_6.2 = s_4.2 + (1 : Int) ∧ Prod.fst (vaF s_2.1 s_2.2.2.2.1 (20 : Nat) s_2.2.2.1 (0 : Int)) = Prod.fst (vaF s_2.1 s_2.2.2.2.1 (20 : Nat) s_2.2.2.1 (0 : Int)) ∧ Int.tmod n (18 : Int) = Int.tmod n (18 : Int) ∧ rowsV atV s_6.1 = rowsV atV s_4.1 ++ [Value.int IntKind.i64 (9 : Int), Value.string (mkS [(82 : Nat)] ++ s_5), Value.slice noA (0 : Nat) (0 : Nat), Value.int IntKind.i64 (0 : Int), Value.slice noA (0 : Nat) (0 : Nat), Value.bool false, Value.string (mkS []), Value.int IntKind.i64 (0 : Int), Value.slice noA (0 : Nat) (0 : Nat), Value.slice noA (0 : Nat) (0 : Nat)] ∧ List.length s_6.1 = List.length s_4.1 + (1 : Nat) ∧ (∀ (p : Nat → Option Obj), (((True ∧ ∀ (j : Nat) (v : Value), [Value.string (mkS [(97 : Nat)]), Value.slice noA (0 : Nat) (0 : Nat), Value.int IntKind.i64 (0 : Int), Value.bool true, Value.int IntKind.i64 (6 : Int), Value.int IntKind.i64 (0 : Int), Value.string (mkS []), Value.slice noA (0 : Nat) (0 : Nat), Value.slice noA (0 : Nat) (0 : Nat)][j]? = some v → cellP p (Addr.add (Addr.mk b s none) j) = some v) ∧ ∀ (j : Nat) (v : Value), [Value.int IntKind.i64 (9 : Int), Value.string (mkS [(82 : Nat)]), Value.slice noA (0 : Nat) (0 : Nat), Value.int IntKind.i64 (0 : Int), Value.slice noA (0 : Nat) (0 : Nat), Value.bool false, Value.string (mkS []), Value.int IntKind.i64 (0 : Int), Value.slice (some (Addr.mk b (s + (0 : Nat)) none)) (1 : Nat) (1 : Nat), Value.slice noA (0 : Nat) (0 : Nat)][j]? = some v → cellP p (Addr.add (Addr.mk b_1 s_1 none) j) = some v) ∧ Pl a) ∧ fdsP s_4.1 p → ((True ∧ ∀ (j : Nat) (v : Value), [Value.string (mkS [(97 : Nat)]), Value.slice noA (0 : Nat) (0 : Nat), Value.int IntKind.i64 (0 : Int), Value.bool true, Value.int IntKind.i64 (6 : Int), Value.int IntKind.i64 (0 : Int), Value.string (mkS []), Value.slice noA (0 : Nat) (0 : Nat), Value.slice noA (0 : Nat) (0 : Nat)][j]? = some v → cellP p (Addr.add (Addr.mk b s none) j) = some v) ∧ ∀ (j : Nat) (v : Value), [Value.int IntKind.i64 (9 : Int), Value.string (mkS [(82 : Nat)]), Value.slice noA (0 : Nat) (0 : Nat), Value.int IntKind.i64 (0 : Int), Value.slice noA (0 : Nat) (0 : Nat), Value.bool false, Value.string (mkS []), Value.int IntKind.i64 (0 : Int), Value.slice (some (Addr.mk b (s + (0 : Nat)) none)) (1 : Nat) (1 : Nat), Value.slice noA (0 : Nat) (0 : Nat)][j]? = some v → cellP p (Addr.add (Addr.mk b_1 s_1 none) j) = some v) ∧ Pl a) ∧ (∀ (p : Nat → Option Obj), (((True ∧ ∀ (j : Nat) (v : Value), [Value.string (mkS [(97 : Nat)]), Value.slice noA (0 : Nat) (0 : Nat), Value.int IntKind.i64 (0 : Int), Value.bool true, Value.int IntKind.i64 (6 : Int), Value.int IntKind.i64 (0 : Int), Value.string (mkS []), Value.slice noA (0 : Nat) (0 : Nat), Value.slice noA (0 : Nat) (0 : Nat)][j]? = some v → cellP p (Addr.add (Addr.mk b s none) j) = some v) ∧ ∀ (j : Nat) (v : Value), [Value.int IntKind.i64 (9 : Int), Value.string (mkS [(82 : Nat)]), Value.slice noA (0 : Nat) (0 : Nat), Value.int IntKind.i64 (0 : Int), Value.slice noA (0 : Nat) (0 : Nat), Value.bool false, Value.string (mkS []), Value.int IntKind.i64 (0 : Int), Value.slice (some (Addr.mk b (s + (0 : Nat)) none)) (1 : Nat) (1 : Nat), Value.slice noA (0 : Nat) (0 : Nat)][j]? = some v → cellP p (Addr.add (Addr.mk b_1 s_1 none) j) = some v) ∧ Pl a) ∧ fdsP s_4.1 p → fdsP s_6.1 p) ∧ lwInv n (Prod.fst s_6) (Prod.snd s_6) ∧ (18 : Nat) - Int.toNat (Prod.snd s_6) < (18 : Nat) - Int.toNat (Prod.snd s_4) ∧ True)) ∧ (decide (s_4.2 ≤ Int.tmod n (18 : Int)) = false → ∀ (b_3 s_5 u : Nat) (a_5 : Option Addr) (n_2 c : Nat), (∃ (p : Nat → Option Obj), ((((True ∧ ∀ (j : Nat) (v : Value), [Value.string (mkS [(97 : Nat)]), Value.slice noA (0 : Nat) (0 : Nat), Value.int IntKind.i64 (0 : Int), Value.bool true, Value.int IntKind.i64 (6 : Int), Value.int IntKind.i64 (0 : Int), Value.string (mkS []), Value.slice noA (0 : Nat) (0 : Nat), Value.slice noA (0 : Nat) (0 : Nat)][j]? = some v → cellP p (Addr.add (Addr.mk b s none) j) = some v) ∧ ∀ (j : Nat) (v : Value), [Value.int IntKind.i64 (9 : Int), Value.string (mkS [(82 : Nat)]), Value.slice noA (0 : Nat) (0 : Nat), Value.int IntKind.i64 (0 : Int), Value.slice noA (0 : Nat) (0 : Nat), Value.bool false, Value.string (mkS []), Value.int IntKind.i64 (0 : Int), Value.slice (some (Addr.mk b (s + (0 : Nat)) none)) (1 : Nat) (1 : Nat), Value.slice noA (0 : Nat) (0 : Nat)][j]? = some v → cellP p (Addr.add (Addr.mk b_1 s_1 none) j) = some v) ∧ Pl a) ∧ fdsP s_4.1 p) ∧ List.length s_4.1 ≤ c ∧ rowP p a_5 (List.take (List.length s_4.1 * (10 : Nat)) (rowsV atV s_4.1))) → ∃ (s_6 : List AT × (Option Addr × Nat × Nat) × Int × Int × Int), Prod.fst s_6.2.1 = a_5 ∧ Prod.fst (Prod.snd s_6.2.1) = List.length s_4.1 ∧ Prod.snd (Prod.snd s_6.2.1) = c ∧ s_6.2.2.1 = (0 : Int) ∧ s_6.2.2.2.1 = (6 : Int) ∧ s_6.2.2.2.2 = (0 : Int) ∧ (List.length (Prod.fst s_6) < (1000 : Nat) ∧ okS (Prod.fst s_6) (Prod.fst s_6.2.2.2) (Prod.snd s_6.2.2.2)) ∧ (∀ (p : Nat → Option Obj), ((((True ∧ ∀ (j : Nat) (v : Value), [Value.string (mkS [(97 : Nat)]), Value.slice noA (0 : Nat) (0 : Nat), Value.int IntKind.i64 (0 : Int), Value.bool true, Value.int IntKind.i64 (6 : Int), Value.int IntKind.i64 (0 : Int), Value.string (mkS []), Value.slice noA (0 : Nat) (0 : Nat), Value.slice noA (0 : Nat) (0 : Nat)][j]? = some v → cellP p (Addr.add (Addr.mk b s none) j) = some v) ∧ ∀ (j : Nat) (v : Value), [Value.int IntKind.i64 (9 : Int), Value.string (mkS [(82 : Nat)]), Value.slice noA (0 : Nat) (0 : Nat), Value.int IntKind.i64 (0 : Int), Value.slice noA (0 : Nat) (0 : Nat), Value.bool false, Value.string (mkS []), Value.int IntKind.i64 (0 : Int), Value.slice (some (Addr.mk b (s + (0 : Nat)) none)) (1 : Nat) (1 : Nat), Value.slice noA (0 : Nat) (0 : Nat)][j]? = some v → cellP p (Addr.add (Addr.mk b_1 s_1 none) j) = some v) ∧ Pl a) ∧ fdsP s_4.1 p) ∧ List.length s_4.1 ≤ c ∧ rowP p a_5 (List.take (List.length s_4.1 * (10 : Nat)) (rowsV atV s_4.1)) → schP s_6.1 s_6.2.1 p) ∧ ∀ (b_4 : Unit), True → ∀ (a_8 : Option Addr) (n_3 c_1 : Nat), (∃ (p : Nat → Option Obj), (((((True ∧ ∀ (j : Nat) (v : Value), [Value.string (mkS [(97 : Nat)]), Value.slice noA (0 : Nat) (0 : Nat), Value.int IntKind.i64 (0 : Int), Value.bool true, Value.int IntKind.i64 (6 : Int), Value.int IntKind.i64 (0 : Int), Value.string (mkS []), Value.slice noA (0 : Nat) (0 : Nat), Value.slice noA (0 : Nat) (0 : Nat)][j]? = some v → cellP p (Addr.add (Addr.mk b s none) j) = some v) ∧ ∀ (j : Nat) (v : Value), [Value.int IntKind.i64 (9 : Int), Value.string (mkS [(82 : Nat)]), Value.slice noA (0 : Nat) (0 : Nat), Value.int IntKind.i64 (0 : Int), Value.slice noA (0 : Nat) (0 : Nat), Value.bool false, Value.string (mkS []), Value.int IntKind.i64 (0 : Int), Value.slice (some (Addr.mk b (s + (0 : Nat)) none)) (1 : Nat) (1 : Nat), Value.slice noA (0 : Nat) (0 : Nat)][j]? = some v → cellP p (Addr.add (Addr.mk b_1 s_1 none) j) = some v) ∧ Pl a) ∧ fdsP s_4.1 p) ∧ List.length s_4.1 ≤ c ∧ rowP p a_5 (List.take (List.length s_4.1 * (10 : Nat)) (rowsV atV s_4.1))) ∧ Pl a_8) → ((-9223372036854775808 : Int) ≤ Int.tmod n (18 : Int) + (1 : Int) ∧ Int.tmod n (18 : Int) + (1 : Int) ≤ (9223372036854775807 : Int)) ∧ (0 : Int) ≤ Int.tmod n (18 : Int) + (1 : Int) ∧ ((-9223372036854775808 : Int) ≤ shP BinOp.shl IntKind.i64 (1 : Int) (Int.tmod n (18 : Int) + (1 : Int)) - (1 : Int) ∧ shP BinOp.shl IntKind.i64 (1 : Int) (Int.tmod n (18 : Int) + (1 : Int)) - (1 : Int) ≤ (9223372036854775807 : Int)) ∧ (decide (Prod.fst (vaF s_2.1 s_2.2.2.2.1 (20 : Nat) s_2.2.2.1 (0 : Int)) = (3 : Int)) = true → (decide ((if AT.k s_3.1 = (9 : Int) then (3 : Int) else (0 : Int)) = (3 : Int)) = true → (decide ((0 : Int) = (0 : Int)) = true → (decide ((0 : Int) = (0 : Int)) = true → (decide (decide (Prod.fst (vaF s_6.1 s_6.2.2.2.1 (20 : Nat) s_6.2.2.1 (0 : Int)) = (3 : Int)) = decide ((2000 : Int) < shP BinOp.shl IntKind.i64 (1 : Int) (Int.tmod n (18 : Int) + (1 : Int)) - (1 : Int))) = true → (decide ((2000 : Int) < shP BinOp.shl IntKind.i64 (1 : Int) (Int.tmod n (18 : Int) + (1 : Int)) - (1 : Int)) = true → true = true ∧ True) ∧ (decide ((2000 : Int) < shP BinOp.shl IntKind.i64 (1 : Int) (Int.tmod n (18 : Int) + (1 : Int)) - (1 : Int)) = false → true = decide (Prod.fst (vaF s_6.1 s_6.2.2.2.1 (20 : Nat) s_6.2.2.1 (0 : Int)) = (0 : Int)) ∧ True)) ∧ (decide (decide (Prod.fst (vaF s_6.1 s_6.2.2.2.1 (20 : Nat) s_6.2.2.1 (0 : Int)) = (3 : Int)) = decide ((2000 : Int) < shP BinOp.shl IntKind.i64 (1 : Int) (Int.tmod n (18 : Int) + (1 : Int)) - (1 : Int))) = false → true = false ∧ True)) ∧ (decide ((0 : Int) = (0 : Int)) = false → true = false ∧ True)) ∧ (decide ((0 : Int) = (0 : Int)) = false → true = false ∧ True)) ∧ (decide ((if AT.k s_3.1 = (9 : Int) then (3 : Int) else (0 : Int)) = (3 : Int)) = false → true = false ∧ True)) ∧ (decide (Prod.fst (vaF s_2.1 s_2.2.2.2.1 (20 : Nat) s_2.2.2.1 (0 : Int)) = (3 : Int)) = false → true = false ∧ True))) := by kernel_rfl
theorem sli_of {p : Pub} {b s n c : Nat} {vs : List Value} (h : cellsP p ⟨b, s, none⟩ vs) (hn : n ≤ c) : sliP p (some ⟨b, s + 0, none⟩) n c vs := ⟨hn, .inr ⟨_, rfl, rfl, h⟩⟩
theorem sch_one {p : Pub} {e : AT} {b s : Nat} (h : cellsP p ⟨b, s, none⟩ (atV e)) (hf : e.f.2.1 = e.fs.length ∧ sliP p e.f.1 e.f.2.1 e.f.2.2 (rowsV fdV e.fs)) : schP [e] (some ⟨b, s + 0, none⟩, 1, 1) p :=
  ⟨⟨rfl, sli_of h (Nat.le_refl _)⟩, fun e' he => by simp at he; subst he; exact hf⟩
theorem begun_ok : CtOK P 7 cBegun := by
  refine ask_ok mixed (ctTab_ok (forall_tab val0_ok (forall_tab check_ok nil_tab))) (W := wBegun) Go.Proofs.Try.func7 (by kernel_rfl) (by decide) (by decide) (fun s => by kernel_rfl) fun (u : Unit) => (begun_eq u).mpr ?_
  intro _ b s u _
  simp only [decide_eq_true_eq, decide_eq_false_iff_not, Bool.not_eq_true', Bool.not_eq_false', true_and, and_true, eq_self]
  let E : AT := ⟨3, mkS [], (none, 0, 0), []⟩
  have hE : ∀ p, cellsP p ⟨b, s, none⟩ (atV E) → schP [E] (some ⟨b, s + 0, none⟩, 1, 1) p := fun p h => sch_one h ⟨rfl, Nat.le_refl _, .inl ⟨rfl, Pl_none⟩⟩
  have ok : ∀ nk nn, (nk = 3 ∧ nn = 5 ∨ nk = 1 ∧ nn = 0) → okS [E] nk nn := fun nk nn h => .inr ⟨fun e he => by simp at he; subst he; rfl, h⟩
  refine ⟨⟨[E], (some ⟨b, s + 0, none⟩, 1, 1), 0, 3, 5⟩, ?_⟩
  simp only [true_and, eq_self]
  refine ⟨⟨by simp, ok 3 5 (.inl ⟨rfl, rfl⟩)⟩, fun p h => hE p h, fun _ _ a n c _ => ⟨⟨[E], (some ⟨b, s + 0, none⟩, 1, 1), 0, 1, 0⟩, ?_⟩⟩
  simp only [true_and, eq_self]
  refine ⟨⟨by simp, ok 1 0 (.inr ⟨rfl, rfl⟩)⟩, fun p h => hE p h.1, fun _ _ a n c _ => ⟨⟨E, (some ⟨b, s + 0, none⟩, 1, 1)⟩, ?_⟩⟩
  simp only [true_and, eq_self]
  refine ⟨.inl rfl, fun p h => hE p h.1.1, ?_⟩
  have e1 : vaF [E] 3 20 0 0 = (0, 1) := by rfl
  have e2 : vaF [E] 1 20 0 0 = (7, 1) := by rfl
  rw [e1, e2]
  simp [vaN, E]
theorem wrap18 (i : Nat) (hi : i < 18) : IntKind.wrap .u8 (65 + (i : Int)) = ((65 + i : Nat) : Int) := by revert i; decide +kernel
theorem bc1 (c : Nat) (h : c < 256) : bcells (mkS [c]) = [.int .u8 (c : Nat)] := by
  simp [bcells, mkS]
  omega
theorem fds_snoc {S : List AT} {e : AT} {p : Pub} (h : fdsP S p) (g : e.f.2.1 = e.fs.length ∧ sliP p e.f.1 e.f.2.1 e.f.2.2 (rowsV fdV e.fs)) : fdsP (S ++ [e]) p := fun x hx => by
  rcases List.mem_append.1 hx with hx | hx
  · exact h x hx
  · simp at hx; subst hx; exact g
theorem chs_snoc {S : List AT} {e : AT} {k : Nat} (h : chS S k) (h9 : e.k = 9) (hf : e.fs = chF k S.length) : chS (S ++ [e]) k := fun j hj => by
  by_cases hl : j < S.length
  · rw [List.getElem_append_left hl]; exact h j hl
  · have : j = S.length := by simp at hj; omega
    subst this
    rw [List.getElem_append_right (Nat.le_refl _)]
    simp only [Nat.sub_self, List.getElem_cons_zero]
    exact ⟨h9, hf⟩
theorem shl18 : ∀ k : Nat, k < 18 → shP .shl .i64 1 ((k : Int) + 1) = ((2 ^ (k + 1) : Nat) : Int) := by decide +kernel
theorem pow18 : ∀ k : Nat, k < 18 → 2 ^ (k + 1) < 1000000 := by decide +kernel
theorem law_ok : CtOK P 3 cLaw14 := by
  refine ask_ok mixed (ctTab_ok (forall_tab begun_ok (forall_tab val0_ok (forall_tab check_ok nil_tab)))) (W := wLaw14) Go.Proofs.Try.func3 (by kernel_rfl) (by decide) (by decide) (fun s => by kernel_rfl) fun (n : Int) => (law_eq n).mpr ?_
  rintro ⟨hn0, hn1⟩
  have ht : Int.tmod n 18 = n % 18 := Int.tmod_eq_emod_of_nonneg hn0
  rw [ht]
  obtain ⟨k, hk⟩ := Int.eq_ofNat_of_zero_le (show 0 ≤ n % 18 by omega)
  have hk18 : k < 18 := by omega
  rw [hk]
  refine ⟨(), trivial, fun b s u _ b1 s1 u1 _ => ?_⟩
  simp only [decide_eq_true_eq, decide_eq_false_iff_not, Bool.not_eq_true', Bool.not_eq_false', true_and, and_true, eq_self]
  let E : AT := ⟨9, mkS [82], (some ⟨b, s + 0, none⟩, 1, 1), [(mkS [97], 0)]⟩
  have hE : ∀ p, cellsP p ⟨b, s, none⟩ (rowsV fdV E.fs) ∧ cellsP p ⟨b1, s1, none⟩ (atV E) → schP [E] (some ⟨b1, s1 + 0, none⟩, 1, 1) p := fun p h => sch_one h.2 ⟨rfl, sli_of h.1 (Nat.le_refl _)⟩
  refine ⟨⟨[E], (some ⟨b1, s1 + 0, none⟩, 1, 1), 0, 6, 0⟩, ?_⟩
  simp only [true_and, eq_self]
  refine ⟨⟨by simp, .inl ⟨fun e he => by simp at he; subst he; exact ⟨rfl, by simp [E]⟩, rfl, rfl⟩⟩, fun p h => hE p h, fun _ _ a n1 c _ => ⟨⟨E, (some ⟨b1, s1 + 0, none⟩, 1, 1)⟩, ?_⟩⟩
  simp only [true_and, eq_self]
  refine ⟨.inr ⟨rfl, _, rfl⟩, fun p h => hE p h.1, by omega, by omega, ⟨⟨[], 0⟩, ?_⟩, ?_⟩
  · simp only [true_and, eq_self]
    exact ⟨rfl, fun p h => h, fun p h e he => by simp at he, by omega, by omega, rfl, fun j h => absurd h (by simp)⟩
  rintro ⟨S, i⟩ ⟨hi0, hi1, hSl, hS⟩ _
  simp only at hSl hS ⊢
  rw [show (n % 18).toNat = k by omega] at hS
  obtain ⟨i, rfl⟩ := Int.eq_ofNat_of_zero_le hi0
  simp only [Int.toNat_natCast] at hSl
  refine ⟨fun hi => ⟨by omega, mkS [65 + i], rfl, ?_, ?_⟩, fun hi => ?_⟩
  · rw [wrap18 i (by omega), ← bc1 (65 + i) (by omega)]
    exact fun a v h => by rw [Nat.zero_add]; exact h
  · have hrl : (rowsV atV S).length = S.length * 10 := rows_len atV_len S
    refine ⟨by show 1 + 1 ≤ _; omega, fun hlt => ⟨by omega, by omega, fun b2 s2 u2 _ => ⟨hrl, by omega, by omega, ⟨S ++ [⟨9, mkS [82] ++ mkS [65 + i], (some ⟨b2, s2 + 0, none⟩, 2, 2), chF k S.length⟩], (i : Int) + 1⟩, ?_⟩⟩, fun hge => ⟨hrl, by omega, by omega, ⟨S ++ [⟨9, mkS [82] ++ mkS [65 + i], (none, 0, 0), chF k S.length⟩], (i : Int) + 1⟩, ?_⟩⟩
    · have hch : chF k S.length = [(mkS [97], (i : Int) + 1), (mkS [98], (i : Int) + 1)] := by
        unfold chF; rw [if_pos (by omega), hSl]
      simp only [true_and, eq_self]
      refine ⟨by rw [rows_app]; rfl, by simp, fun p h => h.1.1, fun p h => fds_snoc h.1.2 ?_, ⟨by omega, by omega, by simp; omega, ?_⟩, by omega⟩
      · show 2 = (chF k S.length).length ∧ sliP p _ 2 2 (rowsV fdV (chF k S.length))
        rw [hch]
        exact ⟨rfl, sli_of h.2 (Nat.le_refl _)⟩
      · rw [show (n % 18).toNat = k by omega]
        exact chs_snoc hS rfl rfl
    · have hch : chF k S.length = [] := by
        unfold chF; rw [if_neg (by omega)]
      simp only [true_and, eq_self]
      refine ⟨by rw [rows_app]; rfl, by simp, fun p h => h.1, fun p h => fds_snoc h.2 ?_, ⟨by omega, by omega, by simp; omega, ?_⟩, by omega⟩
      · show 0 = (chF k S.length).length ∧ sliP p _ 0 0 (rowsV fdV (chF k S.length))
        rw [hch]
        exact ⟨rfl, Nat.le_refl _, .inl ⟨rfl, Pl_none⟩⟩
      · rw [show (n % 18).toNat = k by omega]
        exact chs_snoc hS rfl rfl
  · intro b2 s2 u2 a2 n2 c2 _
    have hSk : S.length = k + 1 := by omega
    refine ⟨⟨S, (a2, S.length, c2), 0, 6, 0⟩, ?_⟩
    simp only [true_and, eq_self]
    have h9 : ∀ e ∈ S, e.k = 9 ∧ e.fs.length < 1000 := fun e he => by
      obtain ⟨j, hj, rfl⟩ := List.getElem_of_mem he
      obtain ⟨q1, q2⟩ := hS j hj
      refine ⟨q1, ?_⟩
      rw [q2]; unfold chF; split <;> simp
    have e1 := vaF_self E rfl (mkS [97]) rfl 20 0
    have e2 := vaF_chain hS hSk k 20 0 (Nat.le_refl _) (by omega) (Int.le_refl _)
    rw [show ((k - k : Nat) : Int) = 0 by omega] at e2
    have p18 := pow18 k hk18
    have p0 : 0 < 2 ^ (k + 1) := Nat.two_pow_pos _
    rw [shl18 k hk18, e1, if_pos (show E.k = 9 from rfl)]
    refine ⟨⟨by omega, .inl ⟨h9, rfl, rfl⟩⟩, fun p h => ⟨⟨rfl, h.2.1, by have := h.2.2; rw [List.take_of_length_le (by rw [rows_len atV_len]; exact Nat.le_refl _)] at this; exact this⟩, h.1.2⟩, fun _ _ a3 n3 c3 _ => ⟨by omega, by omega, by omega, fun _ => ⟨fun _ => ⟨fun _ => ⟨fun _ => ⟨fun _ => ⟨fun _ => trivial, fun hm => ?_⟩, fun hne => ?_⟩, fun h => absurd trivial h⟩, fun h => absurd trivial h⟩, fun h => absurd rfl h⟩, fun h => absurd rfl h⟩⟩
    · rw [if_pos (by omega)] at e2
      rw [e2]; rfl
    · exfalso
      refine hne ?_
      by_cases hm : (0 : Int) + (2 ^ (k + 1) - 1 : Nat) ≤ 2000
      · rw [if_pos hm] at e2
        rw [e2]
        symm
        rw [Bool.eq_iff_iff, decide_eq_true_eq, decide_eq_true_eq]
        constructor
        · intro h; omega
        · intro h; simp at h
      · rw [if_neg hm] at e2
        rw [Bool.eq_iff_iff, decide_eq_true_eq, decide_eq_true_eq]
        exact ⟨fun _ => by omega, fun _ => e2⟩
theorem law_of {f : Nat} {C : Ct} (h : CtOK P f C) (s : C.σ) (vs : List Value) (ha : C.args s = vs.map .sv) (hh : C.h s = []) (r : Value) (hr : C.r s = .sv r) (w : World) (hp : C.pre s) (hm : (C.mem s).ok (PubF (fun _ b => b < w.heap.size) w)) :
    Calls P f ⟨vs⟩ w fun e w' => e = .returned r ∧ Below w.heap.size w w' := by
  obtain ⟨h1, h2, _, h4⟩ := h
  obtain ⟨h0, h1', e1, e2, h5⟩ := h4 s
  rw [hh] at e1
  cases e1
  refine (h5 (fun _ b => b < w.heap.size) (fun i => if i = 0 then some (0, 0, 0) else none) w vs (by rw [ha]; exact VRs.svs vs) ⟨fun id o b t h => ?_, fun id id' o o' b t t' h => ?_, fun id o b t h => ?_⟩ (fun _ h => h) (fun _ h => h) hp hm (fun i hi => if_neg (by omega)) (if_pos rfl)).mono fun e w' he => ?_
  · rw [T.get_e] at h; cases h
  · rw [T.get_e] at h; cases h
  · rw [T.get_e] at h; cases h
  obtain ⟨z, I', rfl, hz, hg, _⟩ := he
  rw [hr] at hz
  cases hz
  exact ⟨rfl, ⟨hg.same.1, hg.same.2, hg.same.3, hg.size, fun k hk => hg.fr k hk⟩⟩
theorem u8_lt {a : Int} (h : (Lit.int .u8 a).wf = true) : 0 ≤ a ∧ a < 256 := by
  simp only [Lit.wf, Bool.and_eq_true, decide_eq_true_eq] at h
  have h1 : IntKind.min .u8 = 0 := by decide
  have h2 : IntKind.max .u8 = 255 := by decide
  omega
theorem deep_law_wf (n : Int) (w : World) (h0 : (Lit.int .u8 n).wf = true) : Calls P 3 #[.int .u8 n] w fun e w' => e = .returned (.bool true) ∧ Below w.heap.size w w' :=
  law_of law_ok n [.int .u8 n] rfl rfl (.bool true) rfl w (u8_lt h0) trivial
end Go.Proofs.Ythhkplmcepfeiaa.Wd
