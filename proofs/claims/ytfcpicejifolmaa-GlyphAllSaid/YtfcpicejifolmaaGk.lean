/-
  What is quoted is read as it was: over plain lists. No condition.
-/
import Derived.Test.YtfcpicejifolmaaGn
import Derived.Test.YtfcpicejifolmaaGa
namespace Go.Proofs.Ytfcpicejifolmaa
open Go.ChangeShapes Go.WideShapes Go.ChangeAt Go.RowKit
namespace Gl
open Mem
set_option linter.unusedVariables false
set_option linter.unusedSimpArgs false
theorem letter_back (n : Nat) (hn : n < 256) (h : letterOf n ≠ 0) : byteOf (letterOf n) = some n ∧ letterOf n ≠ 117 ∧ letterOf n < 256 := by
  have : ∀ n : Fin 256, letterOf n.1 ≠ 0 → byteOf (letterOf n.1) = some n.1 ∧ letterOf n.1 ≠ 117 ∧ letterOf n.1 < 256 := by decide +kernel
  exact this ⟨n, hn⟩ h
theorem low_back (n : Nat) (hn : n < 32) : hexs [48, 48, hexd (n / 16), hexd (n % 16)] 0 = some n ∧ gput n = [UInt8.ofNat n] ∧ isPt n = true := by
  have : ∀ n : Fin 32, hexs [48, 48, hexd (n.1 / 16), hexd (n.1 % 16)] 0 = some n.1 ∧ gput n.1 = [UInt8.ofNat n.1] ∧ isPt n.1 = true := by decide +kernel
  exact this ⟨n, hn⟩
theorem qbyte_high (n : Nat) (hn : n < 256) : ∀ x ∈ qbyte (UInt8.ofNat n), 32 ≤ x.toNat := by
  have : ∀ n : Fin 256, ∀ x ∈ qbyte (UInt8.ofNat n.1), 32 ≤ x.toNat := by decide +kernel
  exact this ⟨n, hn⟩
theorem of_nat (c : UInt8) : UInt8.ofNat c.toNat = c := by simp
theorem uq_piece (c : UInt8) (t acc : List UInt8) (n : Nat) : uq (qbyte c ++ t) acc n = uq t (acc ++ [c]) (n + (qbyte c).length) := by
  have hc : c.toNat < 256 := c.toNat_lt
  by_cases hl : letterOf c.toNat = 0
  · by_cases h32 : c.toNat < 32
    · have hq : qbyte c = [92, 117, 48, 48, hexd (c.toNat / 16), hexd (c.toNat % 16)] := by unfold qbyte; rw [if_neg (by rw [hl]; decide), if_pos h32]
      obtain ⟨h1, h2, h3⟩ := low_back c.toNat h32
      rw [hq]
      have hg : gunit ([92, 117, 48, 48, hexd (c.toNat / 16), hexd (c.toNat % 16)] ++ t) = some c.toNat := by
        show (if (92 : UInt8).toNat = 92 ∧ (117 : UInt8).toNat = 117 then hexs [48, 48, hexd (c.toNat / 16), hexd (c.toNat % 16)] 0 else none) = _
        rw [if_pos ⟨rfl, rfl⟩, h1]
      have he : esc ([92, 117, 48, 48, hexd (c.toNat / 16), hexd (c.toNat % 16)] ++ t) = some ([c], 6) := by
        show esc (92 :: 117 :: _) = _
        rw [esc_cons 117 92 _ rfl]
        rw [show (92 : UInt8) :: 117 :: ([48, 48, hexd (c.toNat / 16), hexd (c.toNat % 16)].append t) = [92, 117, 48, 48, hexd (c.toNat / 16), hexd (c.toNat % 16)] ++ t from rfl, hg]
        simp only [h3, if_true]
        rw [h2, of_nat]
      show uq (92 :: _) acc n = _
      rw [uq_esc rfl he]
      rfl
    · have hq : qbyte c = [c] := by unfold qbyte; rw [if_neg (by rw [hl]; decide), if_neg h32]
      rw [hq]
      show uq (c :: t) acc n = _
      rw [uq_one (by intro h; rw [h] at hl; exact absurd hl (by decide)) h32 (by intro h; rw [h] at hl; exact absurd hl (by decide))]
      rfl
  · have hq : qbyte c = [92, UInt8.ofNat (letterOf c.toNat)] := by unfold qbyte; rw [if_pos hl]
    obtain ⟨h1, h2, h3⟩ := letter_back c.toNat hc hl
    rw [hq]
    have hn : (UInt8.ofNat (letterOf c.toNat)).toNat = letterOf c.toNat := Mem.ofNat_lt h3
    have he : esc (92 :: UInt8.ofNat (letterOf c.toNat) :: t) = some ([c], 2) := by
      show (if (UInt8.ofNat (letterOf c.toNat)).toNat ≠ 117 then _ else _) = _
      rw [if_pos (by rw [hn]; exact h2), hn, h1]
      show some ([UInt8.ofNat c.toNat], 2) = _
      rw [of_nat]
    show uq (92 :: UInt8.ofNat (letterOf c.toNat) :: t) acc n = _
    rw [uq_esc rfl he]
    rfl
theorem uq_pieces : ∀ (l t acc : List UInt8) (n : Nat), uq (l.flatMap qbyte ++ t) acc n = uq t (acc ++ l) (n + (l.flatMap qbyte).length)
  | [], t, acc, n => by simp
  | c :: l, t, acc, n => by
    rw [List.flatMap_cons, List.append_assoc, uq_piece, uq_pieces l t, List.append_assoc, List.length_append, Nat.add_assoc]
    rfl
theorem quote_len (l : List UInt8) : (quote l).length = (l.flatMap qbyte).length + 2 := by
  unfold quote; simp
theorem quote_bd (l : List UInt8) : 2 ≤ (quote l).length ∧ (quote l).length ≤ l.length * 6 + 2 := by
  rw [quote_len]; have := qflat_len l; omega
theorem unq_quote (l t : List UInt8) : unq (quote l ++ t) = if valid l then some (l, (quote l).length) else none := by
  rw [quote_len]
  have h : quote l ++ t = 34 :: (l.flatMap qbyte ++ 34 :: t) := by unfold quote; simp
  rw [h]
  show (if (34 : UInt8).toNat = 34 then uq (l.flatMap qbyte ++ 34 :: t) [] 1 else none) = _
  rw [if_pos (show (34 : UInt8).toNat = 34 from rfl), uq_pieces, uq_end rfl, List.nil_append]
  rw [show 1 + (l.flatMap qbyte).length + 1 = (l.flatMap qbyte).length + 2 by omega]
theorem unq_cut (l : List UInt8) : unq ((quote l).take ((quote l).length - 1)) = none := by
  have h : (quote l).take ((quote l).length - 1) = 34 :: l.flatMap qbyte := by
    rw [quote_len]; unfold quote
    rw [show (l.flatMap qbyte).length + 2 - 1 = (l.flatMap qbyte).length + 1 by omega, List.take_succ_cons, List.take_left']
    rfl
  rw [h]
  show (if (34 : UInt8).toNat = 34 then uq (l.flatMap qbyte) [] 1 else none) = _
  rw [if_pos (show (34 : UInt8).toNat = 34 from rfl)]
  have := uq_pieces l [] [] 1
  rw [List.append_nil] at this
  rw [this, uq_nil]
theorem quote_high (l : List UInt8) : ∀ x ∈ quote l, 32 ≤ x.toNat := by
  intro x hx
  unfold quote at hx
  rw [List.mem_cons, List.mem_append, List.mem_flatMap] at hx
  rcases hx with rfl | ⟨c, _, hc⟩ | hx
  · decide
  · have h := qbyte_high c.toNat c.toNat_lt
    rw [of_nat] at h
    exact h x hc
  · rw [List.mem_singleton] at hx; subst hx; decide
end Gl
end Go.Proofs.Ytfcpicejifolmaa
