/-
  Records one behind the other, over plain lists: how they are taken apart and written. No condition.
-/
import Derived.Test.YtfcpicejifolmaaRl
namespace Go.Proofs.Ytfcpicejifolmaa
open Go.ChangeShapes Go.WideShapes Go.ChangeAt Go.RowKit
namespace Rv
set_option linter.unusedVariables false
set_option linter.unusedSimpArgs false
/-- Bytes as a number, the lowest first. -/
def leN : List UInt8 → Nat
  | [] => 0
  | c :: r => c.toNat + 256 * leN r
theorem leN_snoc : ∀ (l : List UInt8) (c : UInt8), leN (l ++ [c]) = leN l + c.toNat * 256 ^ l.length
  | [], c => by simp [leN]
  | d :: r, c => by
    simp only [List.cons_append, leN, leN_snoc r c, List.length_cons, Nat.pow_succ]
    rw [Nat.mul_add, Nat.mul_comm (256 ^ r.length) 256, ← Nat.mul_assoc, Nat.mul_comm 256 c.toNat, Nat.mul_assoc, Nat.add_assoc]
theorem leN_lt : ∀ (l : List UInt8), leN l < 256 ^ l.length
  | [] => by simp [leN]
  | c :: r => by
    have := leN_lt r
    have := c.toNat_lt
    simp only [leN, List.length_cons, Nat.pow_succ]; omega
/-- A number's low bytes. -/
def leB (v : Nat) : Nat → List UInt8
  | 0 => []
  | k + 1 => UInt8.ofNat (v % 256) :: leB (v / 256) k
theorem leB_len : ∀ (k v : Nat), (leB v k).length = k
  | 0, v => rfl
  | k + 1, v => by simp [leB, leB_len k]
theorem leB_snoc : ∀ (k v : Nat), leB v (k + 1) = leB v k ++ [UInt8.ofNat (v / 256 ^ k % 256)]
  | 0, v => by simp [leB]
  | k + 1, v => by
    rw [leB, leB_snoc k (v / 256), leB, List.cons_append, Nat.div_div_eq_div_mul, Nat.pow_succ, Nat.mul_comm]
theorem leN_leB : ∀ (k v : Nat), leN (leB v k) = v % 256 ^ k
  | 0, v => by simp [leN, leB, Nat.mod_one]
  | k + 1, v => by
    rw [leB, leN, leN_leB k, ofNat_lt (by omega), Nat.pow_succ, Nat.mul_comm (256 ^ k) 256, Nat.mod_mul]
/-- How far a number reaches. -/
theorem vdec_bd : ∀ (l : List UInt8) (i acc v n : Nat), i ≤ 10 → acc < 2 ^ (7 * i) → acc < 18446744073709551616 → vdec l i acc = some (v, n) → i + 1 ≤ n ∧ n ≤ 10 ∧ n ≤ i + l.length ∧ v < 18446744073709551616
  | [], i, acc, v, n, _, _, _, h => by cases h
  | c :: r, i, acc, v, n, hi, ha, ha2, h => by
    rw [vdec] at h
    split at h
    · cases h
    · rename_i h10
      split at h
      · cases h
      · rename_i h9
        have hg : c.toNat % 128 < 128 := Nat.mod_lt _ (by decide)
        have h1 := group_lt (k := i) (g := c.toNat % 128) (by omega) hg h9
        split at h
        · cases h
          simp only [List.length_cons]; omega
        · have h2 := vdec_bd r (i + 1) _ v n (by omega) (by
            rw [pow7]
            have : c.toNat % 128 * 2 ^ (7 * i) ≤ 127 * 2 ^ (7 * i) := Nat.mul_le_mul_right _ (by omega)
            omega) (by omega) h
          simp only [List.length_cons]; omega
theorem vdec_bd0 {l : List UInt8} {v n : Nat} (h : vdec l 0 0 = some (v, n)) : 1 ≤ n ∧ n ≤ 10 ∧ n ≤ l.length ∧ v < 18446744073709551616 := by
  have := vdec_bd l 0 0 v n (by omega) (by simp) (by omega) h
  omega
/-- What stands behind does not matter. -/
theorem vdec_more (rest : List UInt8) : ∀ (l : List UInt8) (i acc : Nat) (x : Nat × Nat), vdec l i acc = some x → vdec (l ++ rest) i acc = some x
  | [], i, acc, x, h => by cases h
  | c :: r, i, acc, x, h => by
    rw [List.cons_append]
    rw [vdec] at h ⊢
    split at h
    · cases h
    · rename_i h10
      rw [if_neg h10]
      split at h
      · cases h
      · rename_i h9
        rw [if_neg h9]
        split at h
        · rename_i hc; rw [if_pos hc]; exact h
        · rename_i hc; rw [if_neg hc]; exact vdec_more rest r _ _ x h
/-- Nor what is not read. -/
theorem vdec_take : ∀ (l : List UInt8) (i acc v n : Nat), vdec l i acc = some (v, n) → ∀ k, n ≤ i + k → vdec (l.take k) i acc = some (v, n)
  | [], i, acc, v, n, h, k, hk => by cases h
  | c :: r, i, acc, v, n, h, k, hk => by
    rw [vdec] at h
    split at h
    · cases h
    · rename_i h10
      split at h
      · cases h
      · rename_i h9
        split at h
        · rename_i hc
          cases h
          obtain ⟨k', rfl⟩ : ∃ k', k = k' + 1 := ⟨k - 1, by omega⟩
          rw [List.take_succ_cons, vdec, if_neg h10, if_neg h9, if_pos hc]
        · rename_i hc
          have hn : i + 1 < n := by
            rcases hlt : decide (i + 1 < n) with _ | _
            · have h3 : ∀ (r : List UInt8) (i acc : Nat) (x : Nat × Nat), vdec r i acc = some x → i < x.2 := by
                intro r
                induction r with
                | nil => intro i acc x h; cases h
                | cons d r ih =>
                  intro i acc x h
                  rw [vdec] at h
                  split at h
                  · cases h
                  · split at h
                    · cases h
                    · split at h
                      · cases h; simp
                      · have := ih _ _ _ h; omega
              exact h3 _ _ _ _ h
            · exact of_decide_eq_true hlt
          obtain ⟨k', rfl⟩ : ∃ k', k = k' + 1 := ⟨k - 1, by omega⟩
          rw [List.take_succ_cons, vdec, if_neg h10, if_neg h9, if_neg hc]
          exact vdec_take r (i + 1) _ v n h k' (by omega)
/-- A record. -/
structure Rc where
  num : Nat
  wire : Nat
  n : Nat
  s : List UInt8
  raw : List UInt8
def rfix (l : List UInt8) (k : Nat) : Option (Nat × Nat) := if l.length < k then none else some (leN (l.take k), k)
def rtext (l : List UInt8) : Option (List UInt8 × Nat) := match vdec l 0 0 with
  | none => none
  | some (v, n) => if l.length - n < v then none else some ((l.drop n).take v, n + v)
/-- What stands behind a tag: a number, a text, how many bytes. -/
def rbody (w : Nat) (l : List UInt8) : Option (Nat × List UInt8 × Nat) :=
  if w = 0 then (vdec l 0 0).map fun x => (x.1, [], x.2)
  else if w = 1 then (rfix l 8).map fun x => (x.1, [], x.2)
  else if w = 5 then (rfix l 4).map fun x => (x.1, [], x.2)
  else if w = 2 then (rtext l).map fun x => (0, x.1, x.2)
  else none
def rfirst (l : List UInt8) : Option Rc := match vdec l 0 0 with
  | none => none
  | some (t, n) => if t / 8 < 1 ∨ 536870911 < t / 8 then none else (rbody (t % 8) (l.drop n)).map fun b => ⟨t / 8, t % 8, b.1, b.2.1, l.take (n + b.2.2)⟩
theorem rbody_bd {w : Nat} {l : List UInt8} {x : Nat × List UInt8 × Nat} (h : rbody w l = some x) : x.2.2 ≤ l.length ∧ x.1 < 18446744073709551616 ∧ (w = 0 ∨ w = 1 ∨ w = 2 ∨ w = 5) := by
  unfold rbody at h
  split at h
  · rename_i e
    cases hv : vdec l 0 0 with
    | none => rw [hv] at h; cases h
    | some y =>
      obtain ⟨v, n⟩ := y
      rw [hv] at h; cases h
      have := vdec_bd0 hv
      exact ⟨by simp only; omega, by simp only; omega, .inl e⟩
  · have fixed : ∀ k, k ≤ 8 → (rfix l k).map (fun x => (x.1, ([] : List UInt8), x.2)) = some x → x.2.2 ≤ l.length ∧ x.1 < 18446744073709551616 := by
      intro k hk h
      unfold rfix at h
      split at h
      · cases h
      · rename_i hl
        cases h
        have h1 := leN_lt (l.take k)
        have h2 : (l.take k).length ≤ 8 := by rw [List.length_take]; omega
        have h3 : 256 ^ (l.take k).length ≤ 256 ^ 8 := Nat.pow_le_pow_right (by decide) h2
        have h4 : (256 : Nat) ^ 8 = 18446744073709551616 := by decide
        simp only
        omega
    split at h
    · rename_i e
      have := fixed 8 (by omega) h
      exact ⟨this.1, this.2, by omega⟩
    · split at h
      · rename_i e
        have := fixed 4 (by omega) h
        exact ⟨this.1, this.2, by omega⟩
      · split at h
        · rename_i e
          cases hv : vdec l 0 0 with
          | none => simp [rtext, hv] at h
          | some y =>
            obtain ⟨v, n⟩ := y
            simp only [rtext, hv] at h
            split at h
            · cases h
            · cases h
              have := vdec_bd0 hv
              simp only
              omega
        · cases h
theorem rfirst_bd {l : List UInt8} {r : Rc} (h : rfirst l = some r) : 1 ≤ r.num ∧ r.num ≤ 536870911 ∧ (r.wire = 0 ∨ r.wire = 1 ∨ r.wire = 2 ∨ r.wire = 5) ∧ r.n < 18446744073709551616 ∧ 1 ≤ r.raw.length ∧ r.raw.length ≤ l.length ∧ r.raw = l.take r.raw.length := by
  unfold rfirst at h
  split at h
  · cases h
  · rename_i t n hv
    split at h
    · cases h
    · rename_i hn
      cases hb : rbody (t % 8) (l.drop n) with
      | none => rw [hb] at h; cases h
      | some b =>
        rw [hb] at h
        cases h
        have h1 := vdec_bd0 hv
        have h2 := rbody_bd hb
        rw [List.length_drop] at h2
        have h3 : (l.take (n + b.2.2)).length = n + b.2.2 := by rw [List.length_take]; omega
        simp only [h3]
        refine ⟨by omega, by omega, by omega, h2.2.1, by omega, by omega, trivial⟩
def rsplit (l : List UInt8) : Option (List Rc) :=
  if l.length = 0 then some [] else match h : rfirst l with
    | none => none
    | some r => (rsplit (l.drop r.raw.length)).map (r :: ·)
termination_by l.length
decreasing_by
  have := rfirst_bd h
  rw [List.length_drop]; omega
theorem rsplit_nil : rsplit [] = some [] := by rw [rsplit]; rfl
theorem rsplit_none {l : List UInt8} (hl : 0 < l.length) (h : rfirst l = none) : rsplit l = none := by
  rw [rsplit, if_neg (by omega)]
  split
  · rfl
  · rename_i r hr; rw [h] at hr; cases hr
theorem rsplit_some {l : List UInt8} {r : Rc} (hl : 0 < l.length) (h : rfirst l = some r) : rsplit l = (rsplit (l.drop r.raw.length)).map (r :: ·) := by
  conv => lhs; rw [rsplit, if_neg (by omega : ¬ l.length = 0)]
  split
  · rename_i hr; rw [h] at hr; cases hr
  · rename_i r' hr; rw [h] at hr; cases hr; rfl
/-- How a record is written. -/
def rput (num wire n : Nat) (s : List UInt8) : List UInt8 :=
  venc (num * 8 + wire) ++ (if wire = 0 then venc n else if wire = 1 then leB n 8 else if wire = 5 then leB n 4 else venc s.length ++ s)
end Rv
end Go.Proofs.Ytfcpicejifolmaa
