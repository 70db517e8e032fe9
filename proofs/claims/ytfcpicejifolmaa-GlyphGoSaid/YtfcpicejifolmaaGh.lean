/-
  Code points as the language decodes them are those of 'front'. No condition.
-/
import Derived.Test.YtfcpicejifolmaaGa
namespace Go.Proofs.Ytfcpicejifolmaa
open Go.ChangeShapes Go.WideShapes Go.ChangeAt Go.RowKit
namespace Gl
open Mem
set_option linter.unusedVariables false
set_option linter.unusedSimpArgs false
def gd (l : List UInt8) (k : Nat) : Nat := (l.getD k 0).toNat
def cn (l : List UInt8) (k : Nat) : Bool := decide (k < l.length) && gd l k / 64 == 2
def decL (l : List UInt8) : Nat × Nat :=
  if gd l 0 < 128 then (gd l 0, 1)
  else if gd l 0 / 32 == 6 && cn l 1 then (if gd l 0 % 32 * 64 + gd l 1 % 64 ≥ 128 then (gd l 0 % 32 * 64 + gd l 1 % 64, 2) else (65533, 1))
  else if gd l 0 / 16 == 14 && cn l 1 && cn l 2 then (if gd l 0 % 16 * 4096 + gd l 1 % 64 * 64 + gd l 2 % 64 ≥ 2048 && Utf8.valid (gd l 0 % 16 * 4096 + gd l 1 % 64 * 64 + gd l 2 % 64 : Nat) then (gd l 0 % 16 * 4096 + gd l 1 % 64 * 64 + gd l 2 % 64, 3) else (65533, 1))
  else if gd l 0 / 8 == 30 && cn l 1 && cn l 2 && cn l 3 then (if gd l 0 % 8 * 262144 + gd l 1 % 64 * 4096 + gd l 2 % 64 * 64 + gd l 3 % 64 ≥ 65536 && Utf8.valid (gd l 0 % 8 * 262144 + gd l 1 % 64 * 4096 + gd l 2 % 64 * 64 + gd l 3 % 64 : Nat) then (gd l 0 % 8 * 262144 + gd l 1 % 64 * 4096 + gd l 2 % 64 * 64 + gd l 3 % 64, 4) else (65533, 1))
  else (65533, 1)
theorem get_gd (s : ByteArray) (i k : Nat) : (s.get! (i + k)).toNat = gd (s.data.toList.drop i) k := by
  unfold gd
  congr 1
  rw [List.getD_eq_getElem?_getD, List.getElem?_drop]
  show s.data[i + k]! = _
  rw [Array.getElem!_eq_getD, Array.getD_eq_getD_getElem?, Array.getElem?_toList]
  rfl
theorem decode_L (s : ByteArray) (i : Nat) : Utf8.decode s i = decL (s.data.toList.drop i) := by
  have hc : ∀ k, (decide (i + k < s.size) && gd (s.data.toList.drop i) k / 64 == 2) = cn (s.data.toList.drop i) k := by
    intro k
    unfold cn
    congr 1
    rw [List.length_drop, Array.length_toList]
    show decide (i + k < s.data.size) = _
    congr 1
    apply propext; omega
  unfold Utf8.decode decL
  simp only [get_gd]
  simp only [hc]
  rfl
theorem pt_valid (r : Nat) : Utf8.valid (r : Int) = isPt r := by
  unfold Utf8.valid isPt
  by_cases h1 : r ≤ 1114111 <;> by_cases h2 : r / 2048 = 27 <;> simp [h1, h2] <;> omega
theorem ofN (c : UInt8) (n : Nat) (h : n = c.toNat) : UInt8.ofNat n = c := by subst h; simp
theorem front_3 (a b c d : UInt8) (t : List UInt8) : True := trivial
theorem front_cons (a : UInt8) (t : List UInt8) : front (a :: t) = if t.length + 1 < (lead a.toNat).1 then 0 else match follow (((a :: t).take (lead a.toNat).1).drop 1) (lead a.toNat).2 with
    | none => 0
    | some r => if (lead a.toNat).1 = 0 ∨ isPt r = false ∨ glen r ≠ (lead a.toNat).1 then 0 else (lead a.toNat).1 := by
  show (if (a :: t).length < _ then _ else _) = _
  rw [List.length_cons]
  rfl
/-- What stands at a text's front, as the language has it. -/
def Same (l : List UInt8) : Prop := (front l = 0 ∧ decL l = (65533, 1)) ∨ ∃ r, decL l = (r, front l) ∧ isPt r = true ∧ front l ≠ 0 ∧ l.take (front l) = gbytes r
theorem same_one (a : UInt8) (t : List UInt8) (h : a.toNat < 128) : Same (a :: t) := by
  have hl : lead a.toNat = (1, a.toNat) := by unfold lead; rw [if_pos h]
  have hp : isPt a.toNat = true := by unfold isPt; simp; omega
  have hg : glen a.toNat = 1 := by unfold glen; rw [if_pos h]
  have hf : front (a :: t) = 1 := by
    rw [front_cons, hl]
    simp [follow, hp, hg]
  refine .inr ⟨a.toNat, ?_, hp, by rw [hf]; decide, ?_⟩
  · rw [hf]; unfold decL; rw [if_pos (by exact h)]; rfl
  · rw [hf]; unfold gbytes; rw [if_pos h, ofN a _ rfl]; rfl
theorem same_zero (a : UInt8) (t : List UInt8) (h : ¬ a.toNat < 128) (h2 : ¬ a.toNat / 32 = 6) (h3 : ¬ a.toNat / 16 = 14) (h4 : ¬ a.toNat / 8 = 30) : Same (a :: t) := by
  have hl : lead a.toNat = (0, 0) := by unfold lead; rw [if_neg h, if_neg h2, if_neg h3, if_neg h4]
  have hf : front (a :: t) = 0 := by
    rw [front_cons, hl]
    simp [follow]
  have g0 : gd (a :: t) 0 = a.toNat := rfl
  refine .inl ⟨hf, ?_⟩
  unfold decL; rw [g0, if_neg h, if_neg (by simp [h2]), if_neg (by simp [h3]), if_neg (by simp [h4])]
theorem same_two (a : UInt8) (t : List UInt8) (h2 : a.toNat / 32 = 6) : Same (a :: t) := by
  have hl : lead a.toNat = (2, a.toNat % 32) := by unfold lead; rw [if_neg (by omega), if_pos h2]
  have g0 : gd (a :: t) 0 = a.toNat := rfl
  match t with
  | [] =>
    refine .inl ⟨by rw [front_cons, hl]; rfl, ?_⟩
    have c1 : cn [a] 1 = false := rfl
    unfold decL; rw [g0, if_neg (by omega), c1, if_neg (by simp), if_neg (by simp), if_neg (by simp)]
  | b :: t =>
    have g1 : gd (a :: b :: t) 1 = b.toNat := rfl
    have c1 : cn (a :: b :: t) 1 = (b.toNat / 64 == 2) := by unfold cn; rw [g1]; simp
    have hf : front (a :: b :: t) = match follow [b] (a.toNat % 32) with
      | none => 0
      | some r => if 2 = 0 ∨ isPt r = false ∨ glen r ≠ 2 then 0 else 2 := by
      rw [front_cons, hl, if_neg (by simp)]; rfl
    have hb := b.toNat_lt
    by_cases hb2 : b.toNat / 64 = 2
    · rw [show follow [b] (a.toNat % 32) = some (a.toNat % 32 * 64 + b.toNat % 64) by simp [follow, hb2]] at hf
      dsimp only at hf
      have hp : isPt (a.toNat % 32 * 64 + b.toNat % 64) = true := by unfold isPt; simp; omega
      by_cases hr : a.toNat % 32 * 64 + b.toNat % 64 ≥ 128
      · have hg : glen (a.toNat % 32 * 64 + b.toNat % 64) = 2 := by unfold glen; rw [if_neg (by omega), if_pos (by omega)]
        rw [if_neg (by simp [hp, hg])] at hf
        refine .inr ⟨a.toNat % 32 * 64 + b.toNat % 64, ?_, hp, by rw [hf]; decide, ?_⟩
        · rw [hf]; unfold decL; rw [g0, g1, if_neg (by omega), c1, if_pos (by simp [h2, hb2]), if_pos hr]
        · rw [hf]; unfold gbytes tailB
          rw [if_neg (by omega), if_pos (by omega), ofN a _ (by omega), ofN b _ (by omega)]; rfl
      · have hg : glen (a.toNat % 32 * 64 + b.toNat % 64) = 1 := by unfold glen; rw [if_pos (by omega)]
        rw [if_pos (by simp [hg])] at hf
        refine .inl ⟨hf, ?_⟩
        unfold decL; rw [g0, g1, if_neg (by omega), c1, if_pos (by simp [h2, hb2]), if_neg hr]
    · rw [show follow [b] (a.toNat % 32) = none by simp [follow, hb2]] at hf
      refine .inl ⟨hf, ?_⟩
      unfold decL; rw [g0, if_neg (by omega), c1, if_neg (by simp [hb2]), if_neg (by simp [hb2]), if_neg (by simp [hb2])]
theorem same_three (a : UInt8) (t : List UInt8) (h3 : a.toNat / 16 = 14) : Same (a :: t) := by
  have hl : lead a.toNat = (3, a.toNat % 16) := by unfold lead; rw [if_neg (by omega), if_neg (by omega), if_pos h3]
  have g0 : gd (a :: t) 0 = a.toNat := rfl
  have no : ∀ x : Bool, (cn (a :: t) 1 && cn (a :: t) 2) = false → decL (a :: t) = (65533, 1) := by
    intro _ hx
    unfold decL; rw [g0, if_neg (by omega), if_neg (by simp; omega), if_neg (by rw [Bool.and_assoc, hx]; simp), if_neg (by simp; omega)]
  match t with
  | [] => exact .inl ⟨by rw [front_cons, hl]; rfl, no true rfl⟩
  | [b] => exact .inl ⟨by rw [front_cons, hl]; rfl, no true (by unfold cn; simp)⟩
  | b :: c :: t =>
    have g1 : gd (a :: b :: c :: t) 1 = b.toNat := rfl
    have g2 : gd (a :: b :: c :: t) 2 = c.toNat := rfl
    have c1 : cn (a :: b :: c :: t) 1 = (b.toNat / 64 == 2) := by unfold cn; rw [g1]; simp
    have c2 : cn (a :: b :: c :: t) 2 = (c.toNat / 64 == 2) := by unfold cn; rw [g2]; simp
    have hf : front (a :: b :: c :: t) = match follow [b, c] (a.toNat % 16) with
      | none => 0
      | some r => if 3 = 0 ∨ isPt r = false ∨ glen r ≠ 3 then 0 else 3 := by
      rw [front_cons, hl, if_neg (by simp)]; rfl
    have hb := b.toNat_lt
    have hc := c.toNat_lt
    by_cases hbc : b.toNat / 64 = 2 ∧ c.toNat / 64 = 2
    · obtain ⟨hb2, hc2⟩ := hbc
      rw [show follow [b, c] (a.toNat % 16) = some ((a.toNat % 16 * 64 + b.toNat % 64) * 64 + c.toNat % 64) by simp [follow, hb2, hc2], show (a.toNat % 16 * 64 + b.toNat % 64) * 64 + c.toNat % 64 = a.toNat % 16 * 4096 + b.toNat % 64 * 64 + c.toNat % 64 by omega] at hf
      dsimp only at hf
      obtain ⟨r, hr⟩ : ∃ r, r = a.toNat % 16 * 4096 + b.toNat % 64 * 64 + c.toNat % 64 := ⟨_, rfl⟩
      have hd : decL (a :: b :: c :: t) = if r ≥ 2048 && isPt r then (r, 3) else (65533, 1) := by
        unfold decL; rw [g0, g1, g2, if_neg (by omega), if_neg (by simp; omega), c1, c2, if_pos (by simp [h3, hb2, hc2]), ← hr, pt_valid]
      rw [← hr] at hf
      have hr16 : r < 65536 := by omega
      by_cases h : r ≥ 2048 ∧ isPt r = true
      · have hg : glen r = 3 := by unfold glen; rw [if_neg (by omega), if_neg (by omega), if_pos hr16]
        rw [if_neg (by simp [h.2, hg])] at hf
        rw [if_pos (by simp [h])] at hd
        refine .inr ⟨r, by rw [hf, hd], h.2, by rw [hf]; decide, ?_⟩
        rw [hf]; unfold gbytes tailB
        rw [if_neg (by omega), if_neg (by omega), if_pos hr16, ofN a _ (by omega), ofN b _ (by omega), ofN c _ (by omega)]; rfl
      · rw [if_neg (by simpa using h)] at hd
        refine .inl ⟨?_, hd⟩
        rw [hf, if_pos]
        by_cases h2 : r ≥ 2048
        · right; left
          cases hp : isPt r with
          | false => rfl
          | true => exact absurd ⟨h2, hp⟩ h
        · right; right; unfold glen; repeat' split
          all_goals omega
    · have hx : follow [b, c] (a.toNat % 16) = none := by
        unfold follow
        split
        · rename_i hb2
          unfold follow
          rw [if_neg (fun hc2 => hbc ⟨hb2, hc2⟩)]
        · rfl
      rw [hx] at hf
      refine .inl ⟨hf, no true ?_⟩
      rw [c1, c2]
      cases hq : (b.toNat / 64 == 2 && c.toNat / 64 == 2) with
      | false => rfl
      | true => exact absurd (by simpa using hq) hbc
theorem same_four (a : UInt8) (t : List UInt8) (h4 : a.toNat / 8 = 30) : Same (a :: t) := by
  have hl : lead a.toNat = (4, a.toNat % 8) := by unfold lead; rw [if_neg (by omega), if_neg (by omega), if_neg (by omega), if_pos h4]
  have g0 : gd (a :: t) 0 = a.toNat := rfl
  have no : ∀ x : Bool, (cn (a :: t) 1 && cn (a :: t) 2 && cn (a :: t) 3) = false → decL (a :: t) = (65533, 1) := by
    intro _ hx
    unfold decL; rw [g0, if_neg (by omega), if_neg (by simp; omega), if_neg (by simp; omega), if_neg (by rw [Bool.and_assoc, Bool.and_assoc, ← Bool.and_assoc (cn (a :: t) 1), hx]; simp)]
  match t with
  | [] => exact .inl ⟨by rw [front_cons, hl]; rfl, no true rfl⟩
  | [b] => exact .inl ⟨by rw [front_cons, hl]; rfl, no true (by unfold cn; simp)⟩
  | [b, c] => exact .inl ⟨by rw [front_cons, hl]; rfl, no true (by unfold cn; simp)⟩
  | b :: c :: d :: t =>
    have g1 : gd (a :: b :: c :: d :: t) 1 = b.toNat := rfl
    have g2 : gd (a :: b :: c :: d :: t) 2 = c.toNat := rfl
    have g3 : gd (a :: b :: c :: d :: t) 3 = d.toNat := rfl
    have c1 : cn (a :: b :: c :: d :: t) 1 = (b.toNat / 64 == 2) := by unfold cn; rw [g1]; simp
    have c2 : cn (a :: b :: c :: d :: t) 2 = (c.toNat / 64 == 2) := by unfold cn; rw [g2]; simp
    have c3 : cn (a :: b :: c :: d :: t) 3 = (d.toNat / 64 == 2) := by unfold cn; rw [g3]; simp
    have hf : front (a :: b :: c :: d :: t) = match follow [b, c, d] (a.toNat % 8) with
      | none => 0
      | some r => if 4 = 0 ∨ isPt r = false ∨ glen r ≠ 4 then 0 else 4 := by
      rw [front_cons, hl, if_neg (by simp)]; rfl
    have hb := b.toNat_lt
    have hc := c.toNat_lt
    have hd := d.toNat_lt
    by_cases hbc : b.toNat / 64 = 2 ∧ c.toNat / 64 = 2 ∧ d.toNat / 64 = 2
    · obtain ⟨hb2, hc2, hd2⟩ := hbc
      rw [show follow [b, c, d] (a.toNat % 8) = some (((a.toNat % 8 * 64 + b.toNat % 64) * 64 + c.toNat % 64) * 64 + d.toNat % 64) by simp [follow, hb2, hc2, hd2], show ((a.toNat % 8 * 64 + b.toNat % 64) * 64 + c.toNat % 64) * 64 + d.toNat % 64 = a.toNat % 8 * 262144 + b.toNat % 64 * 4096 + c.toNat % 64 * 64 + d.toNat % 64 by omega] at hf
      dsimp only at hf
      obtain ⟨r, hr⟩ : ∃ r, r = a.toNat % 8 * 262144 + b.toNat % 64 * 4096 + c.toNat % 64 * 64 + d.toNat % 64 := ⟨_, rfl⟩
      have hdd : decL (a :: b :: c :: d :: t) = if r ≥ 65536 && isPt r then (r, 4) else (65533, 1) := by
        unfold decL; rw [g0, g1, g2, g3, if_neg (by omega), if_neg (by simp; omega), if_neg (by simp; omega), c1, c2, c3, if_pos (by simp [h4, hb2, hc2, hd2]), ← hr, pt_valid]
      rw [← hr] at hf
      by_cases h : r ≥ 65536 ∧ isPt r = true
      · have hg : glen r = 4 := by unfold glen; rw [if_neg (by omega), if_neg (by omega), if_neg (by omega)]
        rw [if_neg (by simp [h.2, hg])] at hf
        rw [if_pos (by simp [h])] at hdd
        refine .inr ⟨r, by rw [hf, hdd], h.2, by rw [hf]; decide, ?_⟩
        rw [hf]; unfold gbytes tailB
        rw [if_neg (by omega), if_neg (by omega), if_neg (by omega), ofN a _ (by omega), ofN b _ (by omega), ofN c _ (by omega), ofN d _ (by omega)]; rfl
      · rw [if_neg (by simpa using h)] at hdd
        refine .inl ⟨?_, hdd⟩
        rw [hf, if_pos]
        by_cases h2 : r ≥ 65536
        · right; left
          cases hp : isPt r with
          | false => rfl
          | true => exact absurd ⟨h2, hp⟩ h
        · right; right; unfold glen; repeat' split
          all_goals omega
    · have hx : follow [b, c, d] (a.toNat % 8) = none := by
        unfold follow
        split
        · rename_i hb2
          unfold follow
          split
          · rename_i hc2
            unfold follow
            rw [if_neg (fun hd2 => hbc ⟨hb2, hc2, hd2⟩)]
          · rfl
        · rfl
      rw [hx] at hf
      refine .inl ⟨hf, no true ?_⟩
      rw [c1, c2, c3]
      cases hq : (b.toNat / 64 == 2 && c.toNat / 64 == 2 && d.toNat / 64 == 2) with
      | false => rfl
      | true => exact absurd (by simpa [and_assoc] using hq) hbc
theorem same_any (a : UInt8) (t : List UInt8) : Same (a :: t) := by
  by_cases h1 : a.toNat < 128
  · exact same_one a t h1
  · by_cases h2 : a.toNat / 32 = 6
    · exact same_two a t h2
    · by_cases h3 : a.toNat / 16 = 14
      · exact same_three a t h3
      · by_cases h4 : a.toNat / 8 = 30
        · exact same_four a t h4
        · exact same_zero a t h1 h2 h3 h4
end Gl
end Go.Proofs.Ytfcpicejifolmaa
