/-
  Lex of a number's text in base ten, sixteen, eight, a space and a semicolon: contracts. No condition but that the number is one of 64 bits.
-/
import Derived.Test.YthbedbjccmhcoaaWk
import Derived.Test.YthbedbjccmhcoaaWl
namespace Go.Proofs.Ythbedbjccmhcoaa
open Go.ChangeShapes Go.WideShapes Go.ChangeAt Go.RowKit
namespace Jn
set_option linter.unusedVariables false
set_option linter.unusedSimpArgs false
abbrev txt (p d : List UInt8) : ByteArray := bin (p ++ d ++ [32, 59])
theorem txt_size (p d : List UInt8) : (txt p d).size = p.length + d.length + 2 := by rw [bin_size]; simp; omega
theorem txt_p (p d : List UInt8) (m : Nat) {c : UInt8} (h : p[m]? = some c) : bt (txt p d) m = c.toNat := by
  have hm := (List.getElem?_eq_some_iff.1 h).1
  refine bt_bin _ _ ?_
  rw [List.append_assoc, List.getElem?_append_left hm, h]
theorem txt_d (p d : List UInt8) (m : Nat) {c : UInt8} (h : d[m]? = some c) : bt (txt p d) (p.length + m) = c.toNat := by
  have hm := (List.getElem?_eq_some_iff.1 h).1
  refine bt_bin _ _ ?_
  rw [List.append_assoc, List.getElem?_append_right (by omega), Nat.add_sub_cancel_left, List.getElem?_append_left hm, h]
theorem txt_r (p d : List UInt8) (m : Nat) {c : UInt8} (h : ([32, 59] : List UInt8)[m]? = some c) : bt (txt p d) (p.length + d.length + m) = c.toNat := by
  refine bt_bin _ _ ?_
  rw [List.getElem?_append_right (by rw [List.length_append]; omega), List.length_append, Nat.add_sub_cancel_left, h]
theorem dig_of (p d : List UInt8) (B : Nat) (h : ∀ c ∈ d, Wb.vl c.toNat < B) (m : Nat) (hm : m < d.length) : Wb.vl (bt (txt p d) (p.length + m)) < B := by
  rw [txt_d p d m (List.getElem?_eq_getElem hm)]
  exact h _ (List.getElem_mem hm)
theorem nv_of (p d : List UInt8) (B : Nat) : nv (txt p d) B p.length d.length = worth B 0 d := by
  rw [worth_nv B p [32, 59] d d.length (Nat.le_refl _), List.take_length]
/-- What Lex leaves. -/
def Lexes (s : ByteArray) (v q : Nat) (w : World) : Prop := Calls Try.prog 10 #[.string s] w fun e w' => ∃ r, e = .returned (.tuple #[r, .int .i64 0, .int .i64 0]) ∧ TRow w' (w.heap.size + 1) 37 r [tk3 v q 0, tk3 v q 1, tk3 v q 2] ∧ Below w.heap.size w w'
theorem lexes_of (p d : List UInt8) (v : Nat) (hl : 1 ≤ p.length + d.length) (hl2 : p.length + d.length ≤ 2000) (h3 : 48 ≤ bt (txt p d) 0) (h4 : bt (txt p d) 0 ≤ 57) (N : NumAt (txt p d) 0 (p.length + d.length) v) (w : World) : Lexes (txt p d) v (p.length + d.length) w :=
  lex_three (txt p d) v (p.length + d.length) (txt_size p d) hl2 (txt_r p d 0 rfl) (txt_r p d 1 rfl) h3 h4 N hl w
theorem vl_big {b : Nat} (h1 : 48 ≤ b) (h2 : Wb.vl b < 10) : b ≤ 57 := by
  unfold Wb.vl at h2
  split at h2
  · rename_i h; simp at h; omega
  · split at h2
    · rename_i h; simp at h; omega
    · split at h2
      · rename_i h; simp at h; omega
      · omega
theorem vl_big8 {b : Nat} (h1 : 48 ≤ b) (h2 : Wb.vl b < 8) : b ≤ 55 := by
  have := vl_big h1 (by omega)
  unfold Wb.vl at h2
  rw [if_pos (by simp; omega)] at h2
  omega
theorem lex10 (v : Nat) (hv : v < 18446744073709551616) (w : World) : Lexes (txt [] (dgs 10 v)) v (dgs 10 v).length w := by
  obtain ⟨d1, d2, d3, d4⟩ := dgs_all (B := 10) (by decide) (by decide) v
  have hl := dgs_len64 (B := 10) (.inr (.inl rfl)) hv
  by_cases h0 : v = 0
  · subst h0
    have e : txt [] (dgs 10 0) = txt [48] [] := by rw [dgs_lt (by decide)]; rfl
    have el : (dgs 10 0).length = 1 := by rw [dgs_lt (by decide)]; rfl
    rw [e, el]
    refine lexes_of [48] [] 0 (by decide) (by decide) (by rw [txt_p [48] [] 0 rfl]; decide) (by rw [txt_p [48] [] 0 rfl]; decide) (fun W b hW => ?_) w
    exact number8a (txt [48] []) 0 b 0 W hW (by rw [txt_size]; decide) (by rw [txt_size]; decide) (txt_p [48] [] 0 rfl) (by rw [show bt (txt [48] []) (0 + 2) = 59 from txt_r [48] [] 1 rfl]; decide) (fun m hm => by omega) (txt_r [48] [] 0 rfl) (by decide)
  · obtain ⟨c, r, hc, hne⟩ := d4 (by omega)
    have hpos : 1 ≤ (dgs 10 v).length := by rw [hc]; simp
    have b0 : bt (txt [] (dgs 10 v)) 0 = c.toNat := txt_d [] (dgs 10 v) 0 (by rw [hc]; rfl)
    have hcm := d2 c (by rw [hc]; simp)
    have hz : ([] : List UInt8).length + (dgs 10 v).length = (dgs 10 v).length := by simp
    have key := lexes_of [] (dgs 10 v) v (by simp; omega) (by simp; omega) (by rw [b0]; exact hcm.2) (by rw [b0]; exact vl_big hcm.2 hcm.1) (fun W b hW => by
      have hnv : nv (txt [] (dgs 10 v)) 10 0 (dgs 10 v).length = v := (nv_of [] (dgs 10 v) 10).trans d1
      have := number10 (txt [] (dgs 10 v)) 0 b (dgs 10 v).length W hW (by rw [txt_size]; simp; omega) (by rw [txt_size]; first | omega | (simp; done) | (simp; omega)) (by rw [b0]; exact hne) (fun m hm => by
        have := dig_of [] (dgs 10 v) 10 (fun c hc => (d2 c hc).1) m hm
        simpa using this) (by have := txt_r [] (dgs 10 v) 0 rfl; simpa using this) (by rw [show (0 + 0 : Nat) = 0 from rfl, hnv]; exact hv)
      rw [show (0 + 0 : Nat) = 0 from rfl, hnv, Nat.zero_add] at this
      rw [hz]
      exact this) w
    rw [hz] at key
    exact key
theorem lex16 (v : Nat) (hv : v < 18446744073709551616) (w : World) : Lexes (txt [48, 120] (dgs 16 v)) v (2 + (dgs 16 v).length) w := by
  obtain ⟨d1, d2, d3, d4⟩ := dgs_all (B := 16) (by decide) (by decide) v
  have hl := dgs_len64 (B := 16) (.inr (.inr rfl)) hv
  have hpos : 0 < (dgs 16 v).length := List.length_pos_iff.2 d3
  refine lexes_of [48, 120] (dgs 16 v) v (by first | (simp; done) | (simp; omega)) (by first | (simp; done) | (simp; omega)) (by rw [txt_p [48, 120] _ 0 rfl]; decide) (by rw [txt_p [48, 120] _ 0 rfl]; decide) (fun W b hW => ?_) w
  have hnv : nv (txt [48, 120] (dgs 16 v)) 16 2 (dgs 16 v).length = v := (nv_of [48, 120] (dgs 16 v) 16).trans d1
  have := number16 (txt [48, 120] (dgs 16 v)) 0 b (dgs 16 v).length W hW (by rw [txt_size]; first | (simp; done) | (simp; omega)) (by rw [txt_size]; first | (simp; done) | (simp; omega)) (txt_p [48, 120] _ 0 rfl) (dig_of [48, 120] (dgs 16 v) 16 (fun c hc => (d2 c hc).1) 0 hpos) (txt_p [48, 120] _ 1 rfl) (fun m hm => dig_of [48, 120] (dgs 16 v) 16 (fun c hc => (d2 c hc).1) m hm) (txt_r [48, 120] (dgs 16 v) 0 rfl) (by rw [show (0 + 2 : Nat) = 2 from rfl, hnv]; exact hv)
  rw [show (0 + 2 : Nat) = 2 from rfl, hnv] at this
  exact this
theorem lex8 (v : Nat) (hv : v < 18446744073709551616) (w : World) : Lexes (txt [48] (dgs 8 v)) v (1 + (dgs 8 v).length) w := by
  obtain ⟨d1, d2, d3, d4⟩ := dgs_all (B := 8) (by decide) (by decide) v
  have hl := dgs_len64 (B := 8) (.inl rfl) hv
  have hpos : 0 < (dgs 8 v).length := List.length_pos_iff.2 d3
  refine lexes_of [48] (dgs 8 v) v (by first | (simp; done) | (simp; omega)) (by first | (simp; done) | (simp; omega)) (by rw [txt_p [48] _ 0 rfl]; decide) (by rw [txt_p [48] _ 0 rfl]; decide) (fun W b hW => ?_) w
  have hnv : nv (txt [48] (dgs 8 v)) 8 1 (dgs 8 v).length = v := (nv_of [48] (dgs 8 v) 8).trans d1
  obtain ⟨c, r, hc⟩ : ∃ c r, dgs 8 v = c :: r := by
    cases h : dgs 8 v with
    | nil => exact absurd h d3
    | cons c r => exact ⟨c, r, rfl⟩
  have b1 : bt (txt [48] (dgs 8 v)) (0 + 1) = c.toNat := txt_d [48] (dgs 8 v) 0 (by rw [hc]; rfl)
  have hcm := d2 c (by rw [hc]; simp)
  by_cases h2 : Wb.vl (bt (txt [48] (dgs 8 v)) (0 + 2)) < 16
  · have := number8b (txt [48] (dgs 8 v)) 0 b (dgs 8 v).length W hW (by rw [txt_size]; first | (simp; done) | (simp; omega)) (by rw [txt_size]; first | (simp; done) | (simp; omega)) (txt_p [48] _ 0 rfl) h2 (by rw [b1]; exact hcm.2) (by rw [b1]; exact vl_big8 hcm.2 hcm.1) (fun m hm => dig_of [48] (dgs 8 v) 8 (fun c hc => (d2 c hc).1) m hm) (txt_r [48] (dgs 8 v) 0 rfl) (by rw [show (0 + 1 : Nat) = 1 from rfl, hnv]; exact hv)
    rw [show (0 + 1 : Nat) = 1 from rfl, hnv] at this
    exact this
  · have := number8a (txt [48] (dgs 8 v)) 0 b (dgs 8 v).length W hW (by rw [txt_size]; first | (simp; done) | (simp; omega)) (by rw [txt_size]; first | (simp; done) | (simp; omega)) (txt_p [48] _ 0 rfl) (by omega) (fun m hm => dig_of [48] (dgs 8 v) 8 (fun c hc => (d2 c hc).1) m hm) (txt_r [48] (dgs 8 v) 0 rfl) (by rw [show (0 + 1 : Nat) = 1 from rfl, hnv]; exact hv)
    rw [show (0 + 1 : Nat) = 1 from rfl, hnv] at this
    exact this
end Jn
end Go.Proofs.Ythbedbjccmhcoaa
