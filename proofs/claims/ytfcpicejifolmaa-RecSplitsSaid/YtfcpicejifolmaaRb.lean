/-
  RecBack: what is written is split as it was. No condition.
-/
import Derived.Test.YtfcpicejifolmaaRq
import Derived.Test.YtfcpicejifolmaaRf
namespace Go.Proofs.Ytfcpicejifolmaa
open Go.ChangeShapes Go.WideShapes Go.ChangeAt Go.RowKit
namespace Rv
set_option linter.unusedVariables false
set_option linter.unusedSimpArgs false
/-- What a record is when it has been written and read. -/
def rback (num wire n : Nat) (s : List UInt8) : Rc := ⟨num, wire, if wire = 2 then 0 else n, if wire = 2 then s else [], rput num wire n s⟩
theorem rput_len {num wire n : Nat} {s : List UInt8} (h1 : num ≤ 536870911) (hw : wire < 8) (hn : n < 18446744073709551616) (hs : s.length ≤ 5000) : 1 ≤ (rput num wire n s).length ∧ (rput num wire n s).length ≤ 6000 := by
  have h2 := venc_pos (num * 8 + wire)
  have h3 := venc_ten (num * 8 + wire) (by omega)
  have h4 := venc_ten n hn
  have h5 := venc_ten s.length (by omega)
  unfold rput
  rw [List.length_append]
  split
  · omega
  · split
    · rw [leB_len]; omega
    · split
      · rw [leB_len]; omega
      · rw [List.length_append]; omega
theorem vdec_0 (v : Nat) (rest : List UInt8) (hv : v < 18446744073709551616) : vdec (venc v ++ rest) 0 0 = some (v, (venc v).length) := by
  have := vdec_enc rest v 0 0 (by omega) (by simpa using hv)
  simpa using this
theorem mod8 {n : Nat} (h : n < 18446744073709551616) : n % 256 ^ 8 = n := by
  have h8 : (256 : Nat) ^ 8 = 18446744073709551616 := by decide
  exact Nat.mod_eq_of_lt (by omega)
theorem mod4 {n : Nat} (h : n < 4294967296) : n % 256 ^ 4 = n := by
  have h4 : (256 : Nat) ^ 4 = 4294967296 := by decide
  exact Nat.mod_eq_of_lt (by omega)
theorem rfirst_rput {num wire n : Nat} {s : List UInt8} (h0 : 1 ≤ num) (h1 : num ≤ 536870911) (hw : wire = 0 ∨ wire = 1 ∨ wire = 2 ∨ wire = 5) (hn : n < 18446744073709551616) (h4 : wire = 5 → n < 4294967296) (hs : s.length ≤ 5000) : rfirst (rput num wire n s) = some (rback num wire n s) := by
  have hd : (num * 8 + wire) / 8 = num := by omega
  have hm : (num * 8 + wire) % 8 = wire := by omega
  have ht := vdec_0 (num * 8 + wire) (if wire = 0 then venc n else if wire = 1 then leB n 8 else if wire = 5 then leB n 4 else venc s.length ++ s) (by omega)
  have hdr : (rput num wire n s).drop (venc (num * 8 + wire)).length = (if wire = 0 then venc n else if wire = 1 then leB n 8 else if wire = 5 then leB n 4 else venc s.length ++ s) := by
    unfold rput; rw [List.drop_left]
  have key : ∀ (v : Nat) (x : List UInt8) (m : Nat), rbody wire ((rput num wire n s).drop (venc (num * 8 + wire)).length) = some (v, x, m) → (venc (num * 8 + wire)).length + m = (rput num wire n s).length → rfirst (rput num wire n s) = some ⟨num, wire, v, x, rput num wire n s⟩ := by
    intro v x m hb hl
    have := rf_some (l := rput num wire n s) ht (by rw [hd]; omega) (by rw [hm]; exact hb)
    rw [this, hd, hm, hl, List.take_length]
  rcases hw with rfl | rfl | rfl | rfl
  · have e := vdec_0 n [] hn
    rw [List.append_nil] at e
    exact key n [] (venc n).length (by rw [hdr, rb0]; simp only [if_true]; rw [e]; rfl) (by unfold rput; rw [List.length_append]; rfl)
  · exact key n [] 8 (by
      rw [hdr, rb1]
      simp only [if_neg (by decide : ¬ (1 : Nat) = 0), if_true]
      rw [rfix, if_neg (by rw [leB_len]; omega), List.take_of_length_le (by rw [leB_len]; omega), leN_leB, mod8 hn]
      rfl) (by unfold rput; rw [List.length_append]; simp only [if_neg (by decide : ¬ (1 : Nat) = 0), if_true, leB_len])
  · have e := vdec_0 s.length s (by omega)
    exact key 0 s ((venc s.length).length + s.length) (by
      rw [hdr, rb2]
      simp only [if_neg (by decide : ¬ (2 : Nat) = 0), if_neg (by decide : ¬ (2 : Nat) = 1), if_neg (by decide : ¬ (2 : Nat) = 5)]
      rw [rtext, e]
      simp only [List.length_append, List.drop_left]
      rw [if_neg (by omega), List.take_length]; rfl) (by unfold rput; rw [List.length_append]; simp only [if_neg (by decide : ¬ (2 : Nat) = 0), if_neg (by decide : ¬ (2 : Nat) = 1), if_neg (by decide : ¬ (2 : Nat) = 5), List.length_append])
  · exact key n [] 4 (by
      rw [hdr, rb5]
      simp only [if_neg (by decide : ¬ (5 : Nat) = 0), if_neg (by decide : ¬ (5 : Nat) = 1), if_true]
      rw [rfix, if_neg (by rw [leB_len]; omega), List.take_of_length_le (by rw [leB_len]; omega), leN_leB, mod4 (h4 rfl)]
      rfl) (by unfold rput; rw [List.length_append]; simp only [if_neg (by decide : ¬ (5 : Nat) = 0), if_neg (by decide : ¬ (5 : Nat) = 1), if_true, leB_len])
theorem rsplit_rput {num wire n : Nat} {s : List UInt8} (h0 : 1 ≤ num) (h1 : num ≤ 536870911) (hw : wire = 0 ∨ wire = 1 ∨ wire = 2 ∨ wire = 5) (hn : n < 18446744073709551616) (h4 : wire = 5 → n < 4294967296) (hs : s.length ≤ 5000) : rsplit (rput num wire n s) = some [rback num wire n s] := by
  have hl := rput_len (num := num) (wire := wire) (n := n) (s := s) h1 (by omega) hn hs
  rw [rsplit_some (by omega) (rfirst_rput h0 h1 hw hn h4 hs)]
  have : (rput num wire n s).drop (rback num wire n s).raw.length = [] := by
    show (rput num wire n s).drop (rput num wire n s).length = []
    rw [List.drop_length]
  rw [this, rsplit_nil]; rfl
end Rv
end Go.Proofs.Ytfcpicejifolmaa
