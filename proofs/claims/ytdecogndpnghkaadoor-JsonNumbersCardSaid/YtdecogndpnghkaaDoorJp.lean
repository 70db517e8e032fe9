/-
  The reader's peek: its contract. No condition but that the text is short.
-/
import Derived.Test.YtdecogndpnghkaaDoorJr
import Derived.Deep.QuietTactic
import Derived.Handy
namespace Go.Proofs.YtdecogndpnghkaaDoor
open Go.ChangeShapes Go.WideShapes Go.ChangeAt Go.RowKit
namespace Jn
set_option linter.unusedVariables false
set_option linter.unusedSimpArgs false
theorem Rd.drewN {w : World} {b : Nat} {s : ByteArray} {i : Nat} (h : Rd w b s i) (m : Nat) : Rd (w.drewN m) b s i := ⟨h.txt, h.pos, h.frz, h.lt⟩
theorem Bex.drewN {b : Nat} {x w : World} (h : Bex b x w) (m : Nat) : Bex b x (w.drewN m) := ⟨h.os, h.tape, h.output, h.size, h.block⟩
theorem Rd.step {w : World} {b : Nat} {s : ByteArray} {j : Nat} (h : Rd w b s j) : Rd (w.setCell ⟨b, 1, none⟩ (.int .i64 ((j : Int) + 1))) b s (j + 1) := by
  have := h.set (j + 1)
  rw [show ((j + 1 : Nat) : Int) = (j : Int) + 1 by omega] at this
  exact this
/-- Where the reader stands. -/
def posOf (w : World) (b : Nat) : Nat := match w.cell? ⟨b, 1, none⟩ with | some (.int _ q) => q.toNat | _ => 0
theorem Rd.posOf {w : World} {b : Nat} {s : ByteArray} {i : Nat} (h : Rd w b s i) : Jn.posOf w b = i := by unfold Jn.posOf; rw [h.pos]; simp
/-- The byte behind the spaces. -/
def pk (l : List UInt8) : Nat := match l.drop (sp l) with | c :: _ => c.toNat | [] => 0
theorem sp_cons {c : UInt8} {l : List UInt8} (h : isSp c = true) : sp (c :: l) = sp l + 1 := by simp [sp, h]
theorem sp_stop {c : UInt8} {l : List UInt8} (h : isSp c = false) : sp (c :: l) = 0 := by simp [sp, h]
theorem drop_at {s : ByteArray} {j : Nat} (h : j < s.size) : s.data.toList.drop j = s[j] :: s.data.toList.drop (j + 1) := by
  have hl : j < s.data.toList.length := by simpa using h
  rw [List.drop_eq_getElem_cons hl]
  rfl
theorem isSp_nat (c : UInt8) : isSp c = (decide (c.toNat = 9) || decide (c.toNat = 10) || decide (c.toNat = 13) || decide (c.toNat = 32)) := by
  have k : ∀ d : UInt8, (c == d) = decide (c.toNat = d.toNat) := fun d => by
    by_cases h : c = d
    · subst h; simp
    · rw [beq_eq_false_iff_ne.2 h]; symm; apply decide_eq_false; intro e; exact h (UInt8.toNat_inj.1 e)
  unfold isSp
  rw [k, k, k, k]; rfl
set_option maxHeartbeats 4000000 in
set_option maxRecDepth 100000 in
theorem peek_any (s : ByteArray) (i b : Nat) (w : World) (h : Rd w b s i) (hi : i ≤ s.size) (hs : s.size ≤ 10000000) :
    Calls Tryd.prog 17 #[.pointer (some ⟨b, 0, none⟩)] w fun e w' => e = .returned (.int .u8 (pk (s.data.toList.drop i) : Nat)) ∧ Rd w' b s (i + sp (s.data.toList.drop i)) ∧ Bex b w w' := by
  obtain ⟨K, hK⟩ : ∃ K, K = sp (s.data.toList.drop i) := ⟨_, rfl⟩
  obtain ⟨V, hV⟩ : ∃ V, V = pk (s.data.toList.drop i) := ⟨_, rfl⟩
  rw [← hK, ← hV]
  have hKl : i + K ≤ s.size := by have := sp_le (s.data.toList.drop i); rw [← hK] at this; simp at this; omega
  -- a space: one more; else: the end
  have HSP := Lib.hid (show ∀ j, i ≤ j → j ≤ i + K → ∀ hj : j < s.size, isSp s[j] = true → j < i + K from fun j h1 h2 hj hc => by
    have h3 := sp_drop (s.data.toList.drop i) (j - i) (by omega)
    rw [List.drop_drop, show i + (j - i) = j by omega, drop_at hj, sp_cons hc, ← hK] at h3
    omega)
  have HST := Lib.hid (show ∀ j, i ≤ j → j ≤ i + K → ∀ hj : j < s.size, isSp s[j] = false → j = i + K ∧ s[j].toNat = V from fun j h1 h2 hj hc => by
    have h3 := sp_drop (s.data.toList.drop i) (j - i) (by omega)
    rw [List.drop_drop, show i + (j - i) = j by omega, drop_at hj, sp_stop hc, ← hK] at h3
    have h4 : j = i + K := by omega
    refine ⟨h4, ?_⟩
    rw [hV]; unfold pk
    rw [← hK, List.drop_drop, ← h4, drop_at hj])
  have HEN := Lib.hid (show ∀ j, j = s.size → j ≤ i + K → j = i + K ∧ V = 0 from fun j h1 h2 => by
    have h4 : j = i + K := by omega
    refine ⟨h4, ?_⟩
    rw [hV]; unfold pk
    rw [← hK, List.drop_drop, ← h4, List.drop_eq_nil_of_le (by simp; omega)])
  clear hK hV
  have H0 := Lib.hid h
  clear h
  go_enter Tryd.func17, Tryd.ntmps17
  go_wp2_with fail
  go_loopw [] (fun wr => ∃ j, Rd wr b s j ∧ i ≤ j ∧ j ≤ i + K ∧ Bex b w wr) (fun wr => s.size - posOf wr b)
  case atStart => exact ⟨i, H0.out, Nat.le_refl _, by omega, Bex.refl _ _⟩
  case round =>
    obtain ⟨j, hr, hj1, hj2, hb⟩ := hrel
    have HR := Lib.hid hr
    have HB := Lib.hid hb
    obtain ⟨r1, r2, r3, r4⟩ := hr
    clear hb
    by_cases hlt : j < s.size
    · have hb8 : s[j].toNat < 256 := s[j].toNat_lt
      by_cases hc : isSp s[j] = true
      · have hK := HSP.out j hj1 hj2 hlt hc
        rw [isSp_nat] at hc
        have four : s[j].toNat = 9 ∨ s[j].toNat = 10 ∨ s[j].toNat = 13 ∨ s[j].toNat = 32 := by simpa [or_assoc] using hc
        clear hc
        rcases four with hx | hx | hx | hx
        · have e0 : ((s[j].toNat : Int) == 9) = true := by rw [beq_iff_eq]; omega
          clear hx
          go_wp2_with fail
          go_quiet (fail)
          go_wp2_with fail
          go_quiet (fail)
          go_wp2
          go_roundw
          case rel => exact ⟨j + 1, (HR.out.drewN _).step, by omega, by omega, (HB.out.drewN _).trans (Bex.set b _ 1 _)⟩
          case measure => rw [(HR.out.drewN _).step.posOf, HR.out.posOf]; omega
        · have e0 : ((s[j].toNat : Int) == 10) = true := by rw [beq_iff_eq]; omega
          have n9 : ((s[j].toNat : Int) == 9) = false := by rw [beq_eq_false_iff_ne]; omega
          clear hx
          go_wp2_with fail
          go_quiet (fail)
          go_wp2_with fail
          go_quiet (fail)
          go_wp2
          go_roundw
          case rel => exact ⟨j + 1, (HR.out.drewN _).step, by omega, by omega, (HB.out.drewN _).trans (Bex.set b _ 1 _)⟩
          case measure => rw [(HR.out.drewN _).step.posOf, HR.out.posOf]; omega
        · have e0 : ((s[j].toNat : Int) == 13) = true := by rw [beq_iff_eq]; omega
          have n9 : ((s[j].toNat : Int) == 9) = false := by rw [beq_eq_false_iff_ne]; omega
          have n10 : ((s[j].toNat : Int) == 10) = false := by rw [beq_eq_false_iff_ne]; omega
          clear hx
          go_wp2_with fail
          go_quiet (fail)
          go_wp2_with fail
          go_quiet (fail)
          go_wp2
          go_roundw
          case rel => exact ⟨j + 1, (HR.out.drewN _).step, by omega, by omega, (HB.out.drewN _).trans (Bex.set b _ 1 _)⟩
          case measure => rw [(HR.out.drewN _).step.posOf, HR.out.posOf]; omega
        · have e0 : ((s[j].toNat : Int) == 32) = true := by rw [beq_iff_eq]; omega
          have n9 : ((s[j].toNat : Int) == 9) = false := by rw [beq_eq_false_iff_ne]; omega
          have n10 : ((s[j].toNat : Int) == 10) = false := by rw [beq_eq_false_iff_ne]; omega
          have n13 : ((s[j].toNat : Int) == 13) = false := by rw [beq_eq_false_iff_ne]; omega
          clear hx
          go_wp2_with fail
          go_quiet (fail)
          go_wp2_with fail
          go_quiet (fail)
          go_wp2
          go_roundw
          case rel => exact ⟨j + 1, (HR.out.drewN _).step, by omega, by omega, (HB.out.drewN _).trans (Bex.set b _ 1 _)⟩
          case measure => rw [(HR.out.drewN _).step.posOf, HR.out.posOf]; omega
      · have hc' : isSp s[j] = false := by simpa using hc
        obtain ⟨hK, hv⟩ := HST.out j hj1 hj2 hlt hc'
        rw [isSp_nat] at hc'
        have four : ¬ s[j].toNat = 9 ∧ ¬ s[j].toNat = 10 ∧ ¬ s[j].toNat = 13 ∧ ¬ s[j].toNat = 32 := by simpa [and_assoc] using hc'
        clear hc hc'
        obtain ⟨x1, x2, x3, x4⟩ := four
        have e1 : ((s[j].toNat : Int) == 9) = false := by rw [beq_eq_false_iff_ne]; omega
        have e2 : ((s[j].toNat : Int) == 10) = false := by rw [beq_eq_false_iff_ne]; omega
        have e3 : ((s[j].toNat : Int) == 13) = false := by rw [beq_eq_false_iff_ne]; omega
        have e4 : ((s[j].toNat : Int) == 32) = false := by rw [beq_eq_false_iff_ne]; omega
        have HV := Lib.hid hv
        have HKK := Lib.hid hK
        clear x1 x2 x3 x4 hv hK
        go_wp2_with fail
        go_quiet (fail)
        go_wp2_with fail
        go_quiet (fail)
        go_wp2
        go_ret
        refine ⟨by rw [HV.out]; rfl, ?_, ?_⟩
        · rw [← HKK.out]; exact HR.out.drewN _
        · exact HB.out.drewN _
    · have hj : j = s.size := by omega
      obtain ⟨hK, hv⟩ := HEN.out j hj hj2
      have HV := Lib.hid hv
      have HKK := Lib.hid hK
      have hn : ¬ ((j : Int) < (s.size : Int)) := by omega
      clear hv hK hj hlt
      go_wp2_with fail
      go_quiet (fail)
      go_wp2
      go_ret
      refine ⟨by rw [HV.out]; rfl, ?_, ?_⟩
      · rw [← HKK.out]; exact HR.out.drewN _
      · exact HB.out.drewN _
end Jn
end Go.Proofs.YtdecogndpnghkaaDoor
