/-
  The document's PutVarint: its contract. No condition.
-/
import Derived.Test.YtabfjgbidbibgaaRpw
import Derived.Deep.RegionLaw
namespace Go.Proofs.Ytabfjgbidbibgaa
open Go.ChangeShapes Go.WideShapes Go.ChangeAt Go.RowKit
namespace Rv
set_option linter.unusedVariables false
theorem one_text {P : Program} (W : World) {s d el e : TypeId} (hs : P.underlying s = some (.slice el)) (hel : P.underlying el = some (.int .u8)) (hd : P.underlying d = some .string) (c : UInt8) {x : Int} (hx : x = (c.toNat : Int)) {W' : World} (hb : W'.heap[W.heap.size]? = (W.alloc (.cells #[.int .u8 x] e)).heap[W.heap.size]?) :
    (convert s d (.slice (some ⟨W.heap.size, 0, none⟩) 1 1)).run P W' = .ok (.string ⟨#[c]⟩) W' := by
  have hB : Lib.Bytes W' W.heap.size 0 ⟨#[c]⟩ := fun i hi => by
    have hi0 : i = 0 := by have : (ByteArray.mk #[c]).size = 1 := rfl
                           omega
    subst hi0
    have h2 := one_src W (.int .u8 x) e 0 (.int .u8 x) rfl
    rw [Addr.add_lit, Nat.zero_add] at h2
    rw [World.cell?_of_block (w := W.alloc (.cells #[.int .u8 x] e)) hb, h2, hx]
    rfl
  exact Lib.run_convert_whole (P := P) W' s el d hs hel hd W.heap.size 0 ⟨#[c]⟩ hB 1
theorem cat_one (c : UInt8) (l : List UInt8) : (ByteArray.mk #[c] ++ ByteArray.mk l.toArray) = ByteArray.mk (c :: l).toArray := by
  apply ByteArray.ext; simp
set_option maxHeartbeats 1000000 in
set_option maxRecDepth 20000 in
theorem rput_any : ∀ (v : Nat) (w : World), v < 18446744073709551616 →
    Calls Try.prog 91 #[.int .u64 (v : Int)] w fun e w' => e = .returned (.string ⟨(venc v).toArray⟩) ∧ Below w.heap.size w w' := by
  intro v
  induction v using Nat.strongRecOn with
  | _ v ih =>
    intro w hv
    have hvi : (v : Int) ≤ 18446744073709551615 := by omega
    by_cases hlt : v < 128
    · have HD := Lib.hid (venc_lt hlt)
      have hcv := one_text (P := Try.prog) w Try.underlying22 Try.underlying5 Try.underlying9 (UInt8.ofNat v) (x := (v : Int)) (e := 5) (by rw [UInt8.toNat_ofNat']; omega) (W' := w.alloc (.cells #[.int .u8 (v : Int)] 5)) rfl
      have HB := Lib.hid ((Below.refl w.heap.size w).alloc (Nat.le_refl _) (.cells #[.int .u8 (v : Int)] 5))
      clear hv ih
      go_enter Try.func91, Try.ntmps91
      go_wp2
      go_ret
      exact ⟨by rw [HD.out]; rfl, HB.out⟩
    · have HD := Lib.hid (venc_ge (v := v) (by omega))
      obtain ⟨c, hc⟩ : ∃ c, c = UInt8.ofNat (v % 128 + 128) := ⟨_, rfl⟩
      rw [← hc] at HD
      obtain ⟨X, hX⟩ : ∃ X, X = IntKind.u8.wrap (IntKind.u8.wrap ((v : Int).tmod 128) + 128) := ⟨_, rfl⟩
      have hXc : X = (c.toNat : Int) := by
        have h1 : (v : Int).tmod 128 = ((v % 128 : Nat) : Int) := by rw [Int.tmod_eq_emod_of_nonneg (by omega)]; omega
        rw [hX, hc, h1, UInt8.toNat_ofNat', IntKind.wrap_u8', IntKind.wrap_u8']; omega
      have c1 := Lib.hid (fun W => ih (v / 128) (by omega) W (by omega))
      rw [show ((v / 128 : Nat) : Int) = IntKind.u64.wrap ((v : Int) / 128) from by rw [IntKind.wrap_u64]; omega] at c1
      have hd : decide ((v : Int) < 128) = false := by simp; omega
      have cvA := one_text (P := Try.prog) w Try.underlying22 Try.underlying5 Try.underlying9 c (e := 5) hXc (W' := (w.alloc (.cells #[.int .u8 X] 5)).drew) rfl
      have HX := Lib.hid hXc
      have hvl : (venc (v / 128)).length ≤ 10 := venc_ten _ (by omega)
      clear hv ih hXc hc
      rw [hX] at cvA
      go_enter Try.func91, Try.ntmps91
      go_wp2_with fail
      go_region_with (first | (go_at_call 91; refine (c1.out _).mono ?_; rintro e w2 ⟨rfl, hB2⟩; have cvB := one_text (P := Try.prog) w2 Try.underlying22 Try.underlying5 Try.underlying9 c (e := 5) HX.out (W' := w2.alloc (.cells #[.int .u8 X] 5)) rfl; rw [hX] at cvB; try (have cvC := one_text (P := Try.prog) w Try.underlying22 Try.underlying5 Try.underlying9 c (e := 5) HX.out (W' := w2) (by rw [hX]; exact hB2.block _ (by simp)))))
      all_goals (
        go_wp2
        go_ret
        refine ⟨by rw [HD.out]; exact congrArg (fun x => Ending.returned (Value.string x)) (cat_one c _), ?_⟩
        first
          | exact (((Below.refl _ _).alloc (Nat.le_refl _) _).drew).trans (hB2.mono (by simp))
          | exact (((Below.refl w.heap.size w).drew).trans hB2).alloc hB2.size _)
end Rv
end Go.Proofs.Ytabfjgbidbibgaa
