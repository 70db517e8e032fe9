/-
  Texts of sixty-four signs, read by a stream of bits: the same bytes. No condition.
-/
import Derived.Test.YtfcpicejifolmabSm
namespace Go.Proofs.Ytfcpicejifolmab
open Go.ChangeShapes Go.WideShapes Go.ChangeAt Go.RowKit
namespace Six
open Mem
set_option linter.unusedVariables false
/-- Signs, and the bits that are left over. -/
def sdec : List UInt8 → Nat → Nat → Option (List UInt8)
  | [], v, b => some []
  | x :: r, v, b => match val x.toNat with
    | none => none
    | some d => if 2 ≤ b then (sdec r ((v * 64 + d) % 2 ^ (b - 2)) (b - 2)).map (UInt8.ofNat ((v * 64 + d) / 2 ^ (b - 2)) :: ·) else sdec r (v * 64 + d) (b + 6)
theorem sdec_sign (r : List UInt8) (d v b : Nat) (hd : d < 64) : sdec (sign d :: r) v b = if 2 ≤ b then (sdec r ((v * 64 + d) % 2 ^ (b - 2)) (b - 2)).map (UInt8.ofNat ((v * 64 + d) / 2 ^ (b - 2)) :: ·) else sdec r (v * 64 + d) (b + 6) := by
  obtain ⟨h1, h2⟩ := val_sign ⟨d, hd⟩
  simp only [sdec, h1]
theorem sdec_4 (a b c : UInt8) (r : List UInt8) : sdec (fours (a.toNat * 65536 + b.toNat * 256 + c.toNat) 4 ++ r) 0 0 = (sdec r 0 0).map ([a, b, c] ++ ·) := by
  have ha := a.toNat_lt
  have hb := b.toNat_lt
  have hc := c.toNat_lt
  rw [fours_4]
  simp only [List.cons_append, List.nil_append]
  rw [sdec_sign _ _ _ _ (m64 _), if_neg (by omega), sdec_sign _ _ _ _ (m64 _), if_pos (by omega), sdec_sign _ _ _ _ (m64 _), if_pos (by omega), sdec_sign _ _ _ _ (m64 _), if_pos (by omega)]
  simp only [Nat.reduceAdd, Nat.reduceSub, Nat.reducePow, Nat.mod_one, Nat.div_one]
  rw [byte_of _ a (by omega), byte_of _ b (by omega), byte_of _ c (by omega)]
  simp [Option.map_map, Function.comp_def]
theorem sdec_3 (a b : UInt8) : sdec [sign ((a.toNat * 65536 + b.toNat * 256) / 262144 % 64), sign ((a.toNat * 65536 + b.toNat * 256) / 4096 % 64), sign ((a.toNat * 65536 + b.toNat * 256) / 64 % 64)] 0 0 = some [a, b] := by
  have ha := a.toNat_lt
  have hb := b.toNat_lt
  rw [sdec_sign _ _ _ _ (m64 _), if_neg (by omega), sdec_sign _ _ _ _ (m64 _), if_pos (by omega), sdec_sign _ _ _ _ (m64 _), if_pos (by omega), sdec]
  simp only [Nat.reduceAdd, Nat.reduceSub, Nat.reducePow]
  rw [byte_of _ a (by omega), byte_of _ b (by omega)]
  rfl
theorem sdec_2 (a : UInt8) : sdec [sign (a.toNat * 65536 / 262144 % 64), sign (a.toNat * 65536 / 4096 % 64)] 0 0 = some [a] := by
  have ha := a.toNat_lt
  rw [sdec_sign _ _ _ _ (m64 _), if_neg (by omega), sdec_sign _ _ _ _ (m64 _), if_pos (by omega), sdec]
  simp only [Nat.reduceAdd, Nat.reduceSub, Nat.reducePow]
  rw [byte_of _ a (by omega)]
  rfl
theorem sign_no (d : Nat) (hd : d < 64) : (sign d).toNat ≠ 61 := (val_sign ⟨d, hd⟩).2
/-- What is said so: signs, and fillers. -/
theorem enc_parts : ∀ (c : List UInt8), ∃ (S : List UInt8) (k : Nat), enc c = S ++ List.replicate k 61 ∧ (∀ x ∈ S, x.toNat ≠ 61) ∧ sdec S 0 0 = some c
  | a :: b :: c :: r => by
    obtain ⟨S, k, h1, h2, h3⟩ := enc_parts r
    refine ⟨fours (a.toNat * 65536 + b.toNat * 256 + c.toNat) 4 ++ S, k, by rw [enc, h1, List.append_assoc], fun x hx => ?_, by rw [sdec_4, h3]; rfl⟩
    rcases List.mem_append.1 hx with h | h
    · rw [fours_4] at h
      simp only [List.mem_cons, List.not_mem_nil, or_false] at h
      rcases h with rfl | rfl | rfl | rfl <;> exact sign_no _ (m64 _)
    · exact h2 x h
  | [a, b] => ⟨[sign ((a.toNat * 65536 + b.toNat * 256) / 262144 % 64), sign ((a.toNat * 65536 + b.toNat * 256) / 4096 % 64), sign ((a.toNat * 65536 + b.toNat * 256) / 64 % 64)], 1, by rw [enc, fours_3]; rfl, fun x hx => by
      simp only [List.mem_cons, List.not_mem_nil, or_false] at hx
      rcases hx with rfl | rfl | rfl <;> exact sign_no _ (m64 _), sdec_3 a b⟩
  | [a] => ⟨[sign (a.toNat * 65536 / 262144 % 64), sign (a.toNat * 65536 / 4096 % 64)], 2, by rw [enc, fours_2]; rfl, fun x hx => by
      simp only [List.mem_cons, List.not_mem_nil, or_false] at hx
      rcases hx with rfl | rfl <;> exact sign_no _ (m64 _), sdec_2 a⟩
  | [] => ⟨[], 0, rfl, (fun x hx => by cases hx), rfl⟩
/-- Fillers from the m-th on. -/
def Tail (T : List UInt8) (m : Nat) : Prop := m ≤ T.length ∧ ∀ i (h : i < T.length), m ≤ i → T[i].toNat = 61
theorem Tail.start (T : List UInt8) : Tail T T.length := ⟨Nat.le_refl _, fun i h h2 => by omega⟩
theorem Tail.next {T : List UInt8} {m : Nat} (h : Tail T m) (hm : 0 < m) (hl : m - 1 < T.length) (hc : T[m - 1].toNat = 61) : Tail T (m - 1) :=
  ⟨by omega, fun i hi h2 => by
    by_cases e : i = m - 1
    · subst e; exact hc
    · exact h.2 i hi (by omega)⟩
theorem tail_dec {T c : List UInt8} {m : Nat} (h : Tail T m) (hm : ∀ (h0 : 0 < m) (hl : m - 1 < T.length), T[m - 1].toNat ≠ 61) (he : enc c = T) : sdec (T.take m) 0 0 = some c := by
  obtain ⟨S, k, h1, h2, h3⟩ := enc_parts c
  rw [he] at h1
  have hl : m = S.length := by
    have hlen : T.length = S.length + k := by rw [h1]; simp
    rcases Nat.lt_trichotomy m S.length with hlt | heq | hgt
    · have hmT : m < T.length := by omega
      have h4 := h.2 m hmT (Nat.le_refl _)
      have h5 : T[m] = S[m] := by simp only [h1]; rw [List.getElem_append_left hlt]
      rw [h5] at h4
      exact absurd h4 (h2 _ (List.getElem_mem hlt))
    · exact heq
    · have h6 := h.1
      have hmT : m - 1 < T.length := by omega
      have h5 : T[m - 1] = 61 := by
        simp only [h1]; rw [List.getElem_append_right (by omega)]; simp
      exact absurd (by rw [h5]; rfl) (hm (by omega) hmT)
  rw [h1, hl, List.take_left]; exact h3
theorem tail_none {T : List UInt8} {m : Nat} (h : Tail T m) (hm : ∀ (h0 : 0 < m) (hl : m - 1 < T.length), T[m - 1].toNat ≠ 61) (hs : sdec (T.take m) 0 0 = none) : dec T = none := by
  cases hd : dec T with
  | none => rfl
  | some c => rw [tail_dec h hm (dec_iff.1 hd)] at hs; cases hs
theorem tail_some {T p : List UInt8} {m : Nat} (h : Tail T m) (hm : ∀ (h0 : 0 < m) (hl : m - 1 < T.length), T[m - 1].toNat ≠ 61) (hs : sdec (T.take m) 0 0 = some p) (hn : enc p ≠ T) : dec T = none := by
  cases hd : dec T with
  | none => rfl
  | some c =>
    have h1 := tail_dec h hm (dec_iff.1 hd)
    rw [h1] at hs; cases hs
    exact absurd (dec_iff.1 hd) hn
/-- What is read, the signs ahead of the i-th. -/
structure Stream (S : List UInt8) (i v b : Nat) (p : List UInt8) : Prop where
  bd : b = 0 ∨ b = 2 ∨ b = 4 ∨ b = 6
  lt : v < 2 ^ b
  len : p.length ≤ i
  eq : sdec S 0 0 = (sdec (S.drop i) v b).map (p ++ ·)
theorem Stream.start (S : List UInt8) : Stream S 0 0 0 [] := ⟨.inl rfl, by simp, by simp, by simp⟩
theorem Stream.v64 {S : List UInt8} {i v b p} (h : Stream S i v b p) : v < 64 := by
  have := h.lt
  rcases h.bd with rfl | rfl | rfl | rfl <;> simp only [Nat.reducePow] at this <;> omega
theorem Stream.bad {S : List UInt8} {i v b p} (h : Stream S i v b p) (hi : i < S.length) (hv : val S[i].toNat = none) : sdec S 0 0 = none := by
  rw [h.eq, List.drop_eq_getElem_cons hi, sdec, hv]; rfl
theorem Stream.keep {S : List UInt8} {i v b p d} (h : Stream S i v b p) (hi : i < S.length) (hv : val S[i].toNat = some d) (hb : b < 2) : b = 0 ∧ Stream S (i + 1) (v * 64 + d) 6 p := by
  have hb0 : b = 0 := by rcases h.bd with h | h | h | h <;> omega
  subst hb0
  have hd := val_lt hv
  have := h.lt
  have hl := h.len
  refine ⟨rfl, .inr (.inr (.inr rfl)), by simp only [Nat.reducePow] at *; omega, by omega, ?_⟩
  rw [h.eq, List.drop_eq_getElem_cons hi, sdec, hv]
  simp
theorem Stream.put {S : List UInt8} {i v b p d} (h : Stream S i v b p) (hi : i < S.length) (hv : val S[i].toNat = some d) (hb : 2 ≤ b) : Stream S (i + 1) ((v * 64 + d) % 2 ^ (b - 2)) (b - 2) (p ++ [UInt8.ofNat ((v * 64 + d) / 2 ^ (b - 2))]) := by
  have hl := h.len
  refine ⟨by rcases h.bd with h | h | h | h <;> omega, Nat.mod_lt _ (Nat.two_pow_pos _), by simp; omega, ?_⟩
  rw [h.eq, List.drop_eq_getElem_cons hi, sdec, hv]
  simp only [if_pos hb, Option.map_map]
  congr 1
  funext x; simp
theorem Stream.done {S : List UInt8} {i v b p} (h : Stream S i v b p) (hi : i = S.length) : sdec S 0 0 = some p := by
  subst hi
  rw [h.eq, List.drop_length]; simp [sdec]
/-- Which sign: the last place where it stands. -/
theorem sign_val : ∀ c : Fin 256, ∀ d : Fin 64, ((sign d.1).toNat = c.1 ↔ val c.1 = some d.1) := by decide +kernel
end Six
end Go.Proofs.Ytfcpicejifolmab
