/-
  Texts of sixty-four signs, over plain lists: which bytes a text is. No condition.
-/
import Derived.Test.YtfcpicejifolmabSj
namespace Go.Proofs.Ytfcpicejifolmab
open Go.ChangeShapes Go.WideShapes Go.ChangeAt Go.RowKit
namespace Six
open Mem
set_option linter.unusedVariables false
/-- The signs of four, up to a filler: their bits, how many. -/
def scan : List UInt8 → Nat → Nat → Option (Nat × Nat)
  | [], k, B => some (B, k)
  | c :: r, k, B => if c.toNat = 61 then some (B, k) else match val c.toNat with
    | none => none
    | some d => scan r (k + 1) (B + d * 2 ^ (18 - 6 * k))
def dec : List UInt8 → Option (List UInt8)
  | [] => some []
  | a :: b :: c :: d :: r => match scan [a, b, c, d] 0 0 with
    | none => none
    | some (V, n) => if n < 2 ∨ (n < 4 ∧ r ≠ []) ∨ enc (threes V (n - 1)) ≠ [a, b, c, d] then none else (dec r).map (threes V (n - 1) ++ ·)
  | _ => none
theorem val_lt {c d : Nat} (h : val c = some d) : d < 64 := by
  unfold val at h
  split at h
  · cases h; omega
  · split at h
    · cases h; omega
    · split at h
      · cases h; omega
      · split at h
        · cases h; omega
        · split at h
          · cases h; omega
          · cases h
theorem val_sign : ∀ d : Fin 64, val (sign d.1).toNat = some d.1 ∧ (sign d.1).toNat ≠ 61 := by decide +kernel
theorem scan_bd : ∀ (l : List UInt8) (k B V n : Nat), k + l.length = 4 → B < 2 ^ 24 → B % 2 ^ (24 - 6 * k) = 0 → scan l k B = some (V, n) → V < 2 ^ 24 ∧ n ≤ 4 ∧ k ≤ n
  | [], k, B, V, n, hk, hB, hm, h => by simp [scan] at h hk; omega
  | c :: r, k, B, V, n, hk, hB, hm, h => by
    simp only [scan] at h
    simp only [List.length_cons] at hk
    split at h
    · cases h; omega
    · split at h
      · cases h
      · rename_i d hd
        have hd := val_lt hd
        have key : B + d * 2 ^ (18 - 6 * k) < 2 ^ 24 ∧ (B + d * 2 ^ (18 - 6 * k)) % 2 ^ (24 - 6 * (k + 1)) = 0 := by
          rcases (show k = 0 ∨ k = 1 ∨ k = 2 ∨ k = 3 by omega) with rfl | rfl | rfl | rfl <;> simp only [Nat.reduceMul, Nat.reduceSub, Nat.reducePow, Nat.reduceAdd] at * <;> omega
        have := scan_bd r (k + 1) _ V n (by omega) key.1 key.2 h
        omega
/-- What is decoded is what is said so. -/
theorem enc_dec : ∀ (l : List UInt8) (c : List UInt8), dec l = some c → enc c = l
  | [], c, h => by simp [dec] at h; subst h; rfl
  | [a], c, h => by simp [dec] at h
  | [a, b], c, h => by simp [dec] at h
  | [a, b, d], c, h => by simp [dec] at h
  | a :: b :: c :: d :: r, x, h => by
    simp only [dec] at h
    split at h
    · cases h
    · rename_i V n hs
      split at h
      · cases h
      · rename_i hno
        have h2 : ¬ n < 2 := fun e => hno (.inl e)
        have h3 : ¬ (n < 4 ∧ r ≠ []) := fun e => hno (.inr (.inl e))
        have h4 : enc (threes V (n - 1)) = [a, b, c, d] := Decidable.byContradiction fun e => hno (.inr (.inr e))
        cases hr : dec r with
        | none => rw [hr] at h; cases h
        | some y =>
          rw [hr] at h
          simp only [Option.map_some, Option.some.injEq] at h
          subst h
          have ih := enc_dec r y hr
          have hn := (scan_bd _ _ _ _ _ rfl (by decide) (by decide) hs).2.1
          by_cases h5 : n < 4
          · have hr0 : r = [] := Decidable.byContradiction fun e => h3 ⟨h5, e⟩
            subst hr0
            simp [dec] at hr; subst hr
            rw [List.append_nil, h4]
          · have hn4 : n = 4 := by omega
            subst hn4
            rw [enc_append 1 _ _ (by rw [threes_len _ _ (by omega)]), h4, ih]; rfl
theorem sign_step (r : List UInt8) (d k B : Nat) (hd : d < 64) : scan (sign d :: r) k B = scan r (k + 1) (B + d * 2 ^ (18 - 6 * k)) := by
  obtain ⟨h1, h2⟩ := val_sign ⟨d, hd⟩
  simp only [scan, h1, if_neg h2]
theorem fill_step (r : List UInt8) (k B : Nat) : scan (61 :: r) k B = some (B, k) := rfl
theorem fours_4 (V : Nat) : fours V 4 = [sign (V / 262144 % 64), sign (V / 4096 % 64), sign (V / 64 % 64), sign (V % 64)] := by
  simp [fours, List.range, List.range.loop]
theorem fours_3 (V : Nat) : fours V 3 = [sign (V / 262144 % 64), sign (V / 4096 % 64), sign (V / 64 % 64), 61] := by
  simp [fours, List.range, List.range.loop]
theorem fours_2 (V : Nat) : fours V 2 = [sign (V / 262144 % 64), sign (V / 4096 % 64), 61, 61] := by
  simp [fours, List.range, List.range.loop]
theorem m64 (x : Nat) : x % 64 < 64 := Nat.mod_lt _ (by decide)
theorem scan_4 (V : Nat) (hV : V < 16777216) : scan (fours V 4) 0 0 = some (V, 4) := by
  rw [fours_4, sign_step _ _ _ _ (m64 _), sign_step _ _ _ _ (m64 _), sign_step _ _ _ _ (m64 _), sign_step _ _ _ _ (m64 _), scan]
  simp only [Nat.reduceMul, Nat.reduceSub, Nat.reducePow, Nat.reduceAdd, Option.some.injEq, Prod.mk.injEq, and_true]
  omega
theorem scan_3 (V : Nat) (hV : V < 16777216) : scan (fours V 3) 0 0 = some (V / 64 * 64, 3) := by
  rw [fours_3, sign_step _ _ _ _ (m64 _), sign_step _ _ _ _ (m64 _), sign_step _ _ _ _ (m64 _), fill_step]
  simp only [Nat.reduceMul, Nat.reduceSub, Nat.reducePow, Nat.reduceAdd, Option.some.injEq, Prod.mk.injEq, and_true]
  omega
theorem scan_2 (V : Nat) (hV : V < 16777216) : scan (fours V 2) 0 0 = some (V / 4096 * 4096, 2) := by
  rw [fours_2, sign_step _ _ _ _ (m64 _), sign_step _ _ _ _ (m64 _), fill_step]
  simp only [Nat.reduceMul, Nat.reduceSub, Nat.reducePow, Nat.reduceAdd, Option.some.injEq, Prod.mk.injEq, and_true]
  omega
theorem byte_of (x : Nat) (a : UInt8) (h : x % 256 = a.toNat) : UInt8.ofNat x = a := by
  apply UInt8.toNat_inj.1
  rw [UInt8.toNat_ofNat']; exact h
theorem threes_3 (a b c : UInt8) : threes (a.toNat * 65536 + b.toNat * 256 + c.toNat) 3 = [a, b, c] := by
  have ha := a.toNat_lt
  have hb := b.toNat_lt
  have hc := c.toNat_lt
  unfold threes
  rw [byte_of _ a (by omega), byte_of _ b (by omega), byte_of _ c (by omega)]; rfl
theorem threes_2 (a b : UInt8) : threes ((a.toNat * 65536 + b.toNat * 256) / 64 * 64) 2 = [a, b] := by
  have ha := a.toNat_lt
  have hb := b.toNat_lt
  unfold threes
  rw [byte_of _ a (by omega), byte_of _ b (by omega)]; rfl
theorem threes_1 (a : UInt8) : threes (a.toNat * 65536 / 4096 * 4096) 1 = [a] := by
  have ha := a.toNat_lt
  unfold threes
  rw [byte_of _ a (by omega)]; rfl
theorem dec_four {l : List UInt8} (r : List UInt8) (hl : l.length = 4) {V n : Nat} (hs : scan l 0 0 = some (V, n)) (h2 : 2 ≤ n) (h4 : n = 4 ∨ r = []) (he : enc (threes V (n - 1)) = l) : dec (l ++ r) = (dec r).map (threes V (n - 1) ++ ·) := by
  match l, hl with
  | [a, b, c, d], _ =>
    simp only [List.cons_append, List.nil_append, dec, hs]
    rw [if_neg]
    intro h
    rcases h with h | h | h
    · omega
    · rcases h4 with h4 | h4
      · omega
      · exact h.2 h4
    · exact h he
/-- What is said so is decoded. -/
theorem dec_enc : ∀ (c : List UInt8), dec (enc c) = some c
  | a :: b :: c :: r => by
    have ha := a.toNat_lt
    have hb := b.toNat_lt
    have hc := c.toNat_lt
    rw [enc, dec_four _ (fours_len _ _) (scan_4 _ (by omega)) (by omega) (.inl rfl) (by rw [threes_3, enc, enc, List.append_nil]), threes_3, dec_enc r]
    rfl
  | [a, b] => by
    have ha := a.toNat_lt
    have hb := b.toNat_lt
    have := dec_four [] (fours_len (a.toNat * 65536 + b.toNat * 256) 3) (scan_3 _ (by omega)) (by omega) (.inr rfl) (by rw [threes_2, enc])
    rw [List.append_nil] at this
    rw [enc, this, threes_2]; rfl
  | [a] => by
    have ha := a.toNat_lt
    have := dec_four [] (fours_len (a.toNat * 65536) 2) (scan_2 _ (by omega)) (by omega) (.inr rfl) (by rw [threes_1, enc])
    rw [List.append_nil] at this
    rw [enc, this, threes_1]; rfl
  | [] => rfl
theorem dec_iff {l c : List UInt8} : dec l = some c ↔ enc c = l := ⟨enc_dec l c, fun h => by rw [← h]; exact dec_enc c⟩
/-- The k-th of four from m on. -/
def scanAt (T : List UInt8) (m k B : Nat) : Option (Nat × Nat) := scan ((T.drop (m + k)).take (4 - k)) k B
theorem scanAt_end (T : List UInt8) (m B : Nat) : scanAt T m 4 B = some (B, 4) := by simp [scanAt, scan]
theorem scanAt_step (T : List UInt8) (m k B : Nat) (hk : k < 4) (h : m + k < T.length) : scanAt T m k B = if T[m + k].toNat = 61 then some (B, k) else match val T[m + k].toNat with
    | none => none
    | some d => scanAt T m (k + 1) (B + d * 2 ^ (18 - 6 * k)) := by
  unfold scanAt
  rw [List.drop_eq_getElem_cons h, show 4 - k = (4 - (k + 1)) + 1 by omega, List.take_succ_cons, scan]
  rfl
theorem dec_drop (T : List UInt8) (m : Nat) (h : m + 4 ≤ T.length) : dec (T.drop m) = match scanAt T m 0 0 with
    | none => none
    | some (V, n) => if n < 2 ∨ (n < 4 ∧ m + 4 < T.length) ∨ enc (threes V (n - 1)) ≠ (T.drop m).take 4 then none else (dec (T.drop (m + 4))).map (threes V (n - 1) ++ ·) := by
  have e0 := List.drop_eq_getElem_cons (l := T) (i := m) (by omega)
  have e1 := List.drop_eq_getElem_cons (l := T) (i := m + 1) (by omega)
  have e2 := List.drop_eq_getElem_cons (l := T) (i := m + 2) (by omega)
  have e3 := List.drop_eq_getElem_cons (l := T) (i := m + 3) (by omega)
  have hr : (m + 4 < T.length) ↔ T.drop (m + 4) ≠ [] := by
    rw [ne_eq, List.drop_eq_nil_iff]; omega
  have et : (T.drop m).take 4 = [T[m], T[m + 1], T[m + 2], T[m + 3]] := by rw [e0, e1, e2, e3]; rfl
  have es : scanAt T m 0 0 = scan [T[m], T[m + 1], T[m + 2], T[m + 3]] 0 0 := by unfold scanAt; rw [Nat.add_zero, Nat.sub_zero, et]
  rw [es, et]
  simp only [hr]
  conv => lhs; rw [e0, e1, e2, e3, dec]
end Six
end Go.Proofs.Ytfcpicejifolmab
