/-
  GlyphGo, whole. No condition.
-/
import Derived.Test.YtfcpicejifolmaaGi
import Derived.Test.YtfcpicejifolmaaRf
import Derived.Deep.RegionHeld3
namespace Go.Proofs.Ytfcpicejifolmaa
open Go.ChangeShapes Go.WideShapes Go.ChangeAt Go.RowKit
namespace Gl
open Mem
set_option linter.unusedVariables false
set_option linter.unusedSimpArgs false
theorem encode_put (r : Nat) : Utf8.encode (r : Int) = bin (gput r) := by
  cases hp : isPt r with
  | true => rw [encode_pt r hp, gput_pt hp]
  | false =>
    have hv : Utf8.valid (r : Int) = false := by rw [pt_valid]; exact hp
    have hv2 : Utf8.valid ((65533 : Nat) : Int) = true := by rw [pt_valid]; decide
    have hc : (if Utf8.valid (r : Int) then ((r : Nat) : Int).toNat else Utf8.runeError) = (if Utf8.valid ((65533 : Nat) : Int) then ((65533 : Nat) : Int).toNat else Utf8.runeError) := by
      rw [hv, hv2, if_neg (by decide), if_pos rfl, Int.toNat_natCast]
      exact rfl
    have h1 : Utf8.encode (r : Int) = Utf8.encode ((65533 : Nat) : Int) := by
      delta Utf8.encode
      rw [hc]
    have hg : gput r = gbytes 65533 := by
      unfold gput
      rw [hp, if_neg (by decide)]
    rw [h1, encode_pt 65533 (by decide), hg]
theorem tolist_neG {a b : ByteArray} (h : ¬ a = b) : ¬ a.toList = b.toList := fun e => h (by
  rw [ByteArray.toList_eq, ByteArray.toList_eq] at e
  exact ByteArray.ext (Array.toList_inj.1 e))
theorem text_of (r : Nat) (W : World) : (convert 21 9 (.int .i32 (r : Int))).run Try.prog W = .ok (.string (bin (gput r))) W := by
  have h := run_convert_int_string (P := Try.prog) W 21 9 .i32 (r : Int) (by rw [Try.underlying21]; rfl) Try.underlying9
  rw [encode_put r] at h
  exact h
theorem rune_of (r : Nat) (W : World) (hr : r ≤ 1114111) : (convert 39 21 (.int .u32 (r : Int))).run Try.prog W = .ok (.int .i32 (r : Int)) W := by
  have hw : IntKind.i32.wrap (r : Int) = (r : Int) := IntWalk.i32_in _ (by omega)
  go_simp
/-- A text to runes and back, in whatever world. -/
theorem runes_conv (s : ByteArray) (hs : s.size ≤ 60) : ∃ (N : Nat) (cp : World → Nat) (cs : World → Array Value) (R : ByteArray),
    (∀ W, (convert 9 52 (.string s)).run Try.prog W = .ok (.slice (some ⟨W.heap.size, 0, none⟩) N (cp W)) (W.drew.alloc (.cells (cs W) 21))) ∧
    (∀ W, (convert 52 9 (.slice (some ⟨W.heap.size, 0, none⟩) N (cp W))).run Try.prog (W.drew.alloc (.cells (cs W) 21)) = .ok (.string R) (W.drew.alloc (.cells (cs W) 21))) ∧
    (R = s ↔ valid s.data.toList = true) := by
  obtain ⟨ns, h1, h2, h3⟩ := runes_all s
  have hsz := size_runesFrom s s.size 0 #[]
  rw [h2] at hsz
  have hsz2 : ns.length ≤ 60 := by simpa using Nat.le_trans hsz (by simpa using hs)
  refine ⟨ns.length, fun W => grownCap W ns.length 0 21, fun W => (ns.map rv).toArray ++ Array.replicate (grownCap W ns.length 0 21 - ns.length) (.int .i32 0), runesBytes (ns.map fun n : Nat => (n : Int)), fun W => ?_, fun W => ?_, h3⟩
  · have h := run_runes_of_string (P := Try.prog) W 9 52 21 s Try.underlying9 Try.underlying52 Try.underlying21 (by rw [h2]; omega)
    rw [h2, h1] at h
    exact h
  · have h := run_convert_runes (P := Try.prog) (W.drew.alloc (.cells ((ns.map rv).toArray ++ Array.replicate (grownCap W ns.length 0 21 - ns.length) (.int .i32 0)) 21)) 52 9 21 ⟨W.heap.size, 0, none⟩ ns.length (grownCap W ns.length 0 21) (ns.map fun n : Nat => (n : Int)) (by simp) Try.underlying52 Try.underlying21 Try.underlying9 (fun j hj => by
      rw [Addr.add_lit, Nat.zero_add, World.cell?_alloc_at _ _ W.heap.size _ (show W.heap.size = W.drew.heap.size from rfl), Array.getElem?_append_left (by simpa using hj)]
      simp only [List.length_map] at hj
      simp [rv, hj])
    rw [List.take_of_length_le (by simp)] at h
    exact h
set_option maxHeartbeats 1000000 in
theorem go_long (s : ByteArray) (r : Int) (w : World) (hs : s.size ≤ 9223372036854775807) (hl : 60 < s.size) :
    Calls Try.prog 11 #[.string s, .int .u32 r] w fun e w' => e = .returned (.bool true) ∧ Below w.heap.size w w' := by
  go_enter Try.func11, Try.ntmps11
  go_wp2_with (go_at_call 27; refine (Rf.begun3 _).mono ?_; rintro e w1 ⟨rfl, hb1⟩)
  go_ret
  exact ⟨rfl, hb1⟩
end Gl
end Go.Proofs.Ytfcpicejifolmaa
