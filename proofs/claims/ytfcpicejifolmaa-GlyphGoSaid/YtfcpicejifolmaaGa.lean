/-
  A code point's bytes are valid; its units between quotes are read as it. No condition.
-/
import Derived.Test.YtfcpicejifolmaaGq
import Derived.Laws.Runes
namespace Go.Proofs.Ytfcpicejifolmaa
open Go.ChangeShapes Go.WideShapes Go.ChangeAt Go.RowKit
namespace Gl
open Mem
set_option linter.unusedVariables false
set_option linter.unusedSimpArgs false
theorem tail_val (x : Nat) : (tailB x).toNat = 128 + x % 64 := Mem.ofNat_lt (by omega)
theorem follow_tail (x q : Nat) (l : List UInt8) : follow (tailB x :: l) q = follow l (q * 64 + x % 64) := by
  rw [follow, tail_val, if_pos (by omega)]
  congr 1; omega
theorem front_of {a : UInt8} {rest : List UInt8} {n q r : Nat} (hl : lead a.toNat = (n, q)) (hn : n = rest.length + 1) (hf : follow rest q = some r) (hp : isPt r = true) (hg : glen r = n) : front (a :: rest) = n := by
  unfold front
  simp only [hl, List.length_cons]
  rw [if_neg (by omega), hn, List.take_succ_cons, List.take_length, List.drop_one, List.tail_cons, hf]
  simp only
  rw [if_neg (by rw [hp, hg, hn]; simp)]
theorem front_gbytes (r : Nat) (hp : isPt r = true) : front (gbytes r) = (gbytes r).length := by
  have hr : r ≤ 1114111 := by unfold isPt at hp; simp at hp; omega
  unfold gbytes
  by_cases h1 : r < 128
  · rw [if_pos h1]
    have hu : (UInt8.ofNat r).toNat = r := Mem.ofNat_lt (by omega)
    exact front_of (n := 1) (q := r) (r := r) (by rw [hu]; unfold lead; rw [if_pos h1]) rfl rfl hp (by unfold glen; rw [if_pos h1])
  · rw [if_neg h1]
    by_cases h2 : r < 2048
    · rw [if_pos h2]
      have hu : (UInt8.ofNat (192 + r / 64)).toNat = 192 + r / 64 := Mem.ofNat_lt (by omega)
      refine front_of (n := 2) (q := r / 64) (r := r) ?_ rfl ?_ hp (by unfold glen; rw [if_neg h1, if_pos h2])
      · rw [hu]; unfold lead
        rw [if_neg (by omega), if_pos (by omega)]
        congr 1; omega
      · rw [follow_tail, follow]; congr 1; omega
    · rw [if_neg h2]
      by_cases h3 : r < 65536
      · rw [if_pos h3]
        have hu : (UInt8.ofNat (224 + r / 4096)).toNat = 224 + r / 4096 := Mem.ofNat_lt (by omega)
        refine front_of (n := 3) (q := r / 4096) (r := r) ?_ rfl ?_ hp (by unfold glen; rw [if_neg h1, if_neg h2, if_pos h3])
        · rw [hu]; unfold lead
          rw [if_neg (by omega), if_neg (by omega), if_pos (by omega)]
          congr 1; omega
        · rw [follow_tail, follow_tail, follow]; congr 1; omega
      · rw [if_neg h3]
        have hu : (UInt8.ofNat (240 + r / 262144)).toNat = 240 + r / 262144 := Mem.ofNat_lt (by omega)
        refine front_of (n := 4) (q := r / 262144) (r := r) ?_ rfl ?_ hp (by unfold glen; rw [if_neg h1, if_neg h2, if_neg h3])
        · rw [hu]; unfold lead
          rw [if_neg (by omega), if_neg (by omega), if_neg (by omega), if_pos (by omega)]
          congr 1; omega
        · rw [follow_tail, follow_tail, follow_tail, follow]; congr 1; omega
theorem valid_gbytes (r : Nat) (hp : isPt r = true) : valid (gbytes r) = true := by
  have hf := front_gbytes r hp
  have hl : 1 ≤ (gbytes r).length := by
    unfold gbytes
    repeat' split
    all_goals simp
  rw [valid_next (by omega) (by omega), hf, List.drop_length]
  exact valid_nil
theorem encode_pt (r : Nat) (hp : isPt r = true) : Utf8.encode (r : Int) = bin (gbytes r) := by
  have hv : Utf8.valid (r : Int) = true := by
    unfold isPt at hp; simp at hp
    unfold Utf8.valid; simp; omega
  unfold Utf8.encode gbytes
  simp only [hv, if_true, Int.toNat_natCast]
  by_cases h1 : r < 128
  · rw [if_pos h1, if_pos h1]; rfl
  · rw [if_neg h1, if_neg h1]
    by_cases h2 : r < 2048
    · rw [if_pos h2, if_pos h2]; rfl
    · rw [if_neg h2, if_neg h2]
      by_cases h3 : r < 65536
      · rw [if_pos h3, if_pos h3]; rfl
      · rw [if_neg h3, if_neg h3]; rfl
/-- Sixteen digits. -/
def Digs (f : Nat → UInt8) : Prop := ∀ d, d < 16 → hexv (f d).toNat = some d
def dig4 (f : Nat → UInt8) (u : Nat) : List UInt8 := [f (u / 4096 % 16), f (u / 256 % 16), f (u / 16 % 16), f (u % 16)]
def unitB (f : Nat → UInt8) (u : Nat) : List UInt8 := 92 :: 117 :: dig4 f u
theorem hexs_dig4 {f : Nat → UInt8} (hf : Digs f) (u : Nat) (hu : u < 65536) : hexs (dig4 f u) 0 = some u := by
  unfold dig4
  rw [hexs, hf _ (by omega)]; simp only
  rw [hexs, hf _ (by omega)]; simp only
  rw [hexs, hf _ (by omega)]; simp only
  rw [hexs, hf _ (by omega)]; simp only
  rw [hexs]; congr 1; omega
theorem gunit_unitB {f : Nat → UInt8} (hf : Digs f) (u : Nat) (hu : u < 65536) (rest : List UInt8) : gunit (unitB f u ++ rest) = some u := by
  have h := hexs_dig4 hf u hu
  show (if (92 : UInt8).toNat = 92 ∧ (117 : UInt8).toNat = 117 then hexs (dig4 f u) 0 else none) = _
  rw [if_pos ⟨rfl, rfl⟩, h]
/-- A point's units. -/
def units (r : Nat) : List Nat := if r < 65536 then [r] else [55296 + (r - 65536) / 1024, 56320 + (r - 65536) % 1024]
def told (f : Nat → UInt8) (r : Nat) : List UInt8 := (units r).flatMap (unitB f)
theorem gput_pt {r : Nat} (hp : isPt r = true) : gput r = gbytes r := by unfold gput; rw [hp]; rfl
theorem esc_cons (b : UInt8) (a : UInt8) (l : List UInt8) (hb : b.toNat = 117) : esc (a :: b :: l) = match gunit (a :: b :: l) with
    | none => none
    | some hi => if isPt hi then some (gput hi, 6) else match gunit ((a :: b :: l).drop 6) with
      | none => none
      | some lo => if hi / 1024 = 54 ∧ lo / 1024 = 55 then some (gput (65536 + hi % 1024 * 1024 + lo % 1024), 12) else none := by
  unfold esc
  simp only [hb]
  rfl
theorem esc_told {f : Nat → UInt8} (hf : Digs f) (r : Nat) (hp : isPt r = true) (rest : List UInt8) : esc (told f r ++ rest) = some (gbytes r, (told f r).length) := by
  have hr : r ≤ 1114111 := by unfold isPt at hp; simp at hp; omega
  unfold told units
  by_cases h : r < 65536
  · rw [if_pos h]
    have e1 : ([r].flatMap (unitB f)) = unitB f r := by simp
    rw [e1]
    have e2 : unitB f r ++ rest = 92 :: 117 :: (dig4 f r ++ rest) := rfl
    rw [e2, esc_cons _ _ _ rfl, ← e2, gunit_unitB hf r h]
    simp only
    rw [if_pos hp, gput_pt hp]
    rfl
  · rw [if_neg h]
    obtain ⟨x, hx⟩ : ∃ x, x = (r - 65536) / 1024 := ⟨_, rfl⟩
    obtain ⟨y, hy⟩ : ∃ y, y = (r - 65536) % 1024 := ⟨_, rfl⟩
    rw [← hx, ← hy]
    have hx4 : x < 1024 := by omega
    have hy4 : y < 1024 := by omega
    have e1 : ([55296 + x, 56320 + y].flatMap (unitB f)) ++ rest = unitB f (55296 + x) ++ (unitB f (56320 + y) ++ rest) := by simp
    have e2 : unitB f (55296 + x) ++ (unitB f (56320 + y) ++ rest) = 92 :: 117 :: (dig4 f (55296 + x) ++ (unitB f (56320 + y) ++ rest)) := rfl
    have e3 : (unitB f (55296 + x) ++ (unitB f (56320 + y) ++ rest)).drop 6 = unitB f (56320 + y) ++ rest := rfl
    have hn : isPt (55296 + x) = false := by
      unfold isPt
      have : (55296 + x) / 2048 = 27 := by omega
      simp [this]
    rw [e1, e2, esc_cons _ _ _ rfl, ← e2, gunit_unitB hf _ (by omega), e3, gunit_unitB hf _ (by omega)]
    simp only
    rw [hn, if_neg (by decide), if_pos ⟨by omega, by omega⟩]
    have e4 : 65536 + (55296 + x) % 1024 * 1024 + (56320 + y) % 1024 = r := by omega
    rw [e4, gput_pt hp]
    rfl
theorem unq_told {f : Nat → UInt8} (hf : Digs f) (r : Nat) (hp : isPt r = true) : unq (34 :: (told f r ++ [34])) = some (gbytes r, (told f r).length + 2) := by
  show (if (34 : UInt8).toNat = 34 then uq (told f r ++ [34]) [] 1 else none) = _
  rw [if_pos (by decide)]
  have he := esc_told hf r hp [34]
  obtain ⟨l, hl⟩ : ∃ l, told f r = 92 :: l := by
    unfold told units
    split
    · exact ⟨_, rfl⟩
    · exact ⟨_, rfl⟩
  have hu : uq (told f r ++ [34]) [] 1 = uq ((told f r ++ [34]).drop (told f r).length) ([] ++ gbytes r) (1 + (told f r).length) := by
    have e : told f r ++ [34] = 92 :: (l ++ [34]) := by rw [hl]; rfl
    rw [e] at he ⊢
    exact uq_esc rfl he
  rw [hu, List.drop_left, List.nil_append, uq_end rfl, valid_gbytes r hp, if_pos rfl]
  congr 2; omega
end Gl
end Go.Proofs.Ytfcpicejifolmaa
