/-
  The document's Join and SameRecords: contracts. No condition but that texts are short.
-/
import Derived.Test.YtfcpicejifolmaaRo
import Derived.Deep.QuietTactic
import Derived.BigQuiet
namespace Go.Proofs.Ytfcpicejifolmaa
open Go.ChangeShapes Go.WideShapes Go.ChangeAt Go.RowKit
namespace Rv
set_option linter.unusedVariables false
set_option linter.unusedSimpArgs false
set_option maxHeartbeats 2000000 in
set_option maxRecDepth 100000 in
theorem joind_any (l : List Rc) (base : Nat) (pa : Option Addr) (ca : Nat) (w : World) (hr : RRow w base 30 (.slice pa l.length ca) l) (hf : Seat base w pa l.length ca) (hl : l.length ≤ 1000) (hc : (cat l).length ≤ 5000) :
    Calls Try.prog 26 #[.slice pa l.length ca] w fun e w' => e = .returned (.string (bin (cat l))) ∧ Below w.heap.size w w' := by
  have HR := Lib.hid hr
  have HF := Lib.hid hf
  have HK := Lib.hid (fun k => Nat.le_trans (cat_take_le l k) hc)
  clear hr hf hc
  go_enter Try.func26, Try.ntmps26
  go_wp2_with fail
  go_loopw [3, 4] (fun s x W => ∃ k : Nat, x = .int .i64 k ∧ k ≤ l.length ∧ s = .string (bin (cat (l.take k))) ∧ Below w.heap.size w W) (fun _ x _ => l.length - (intOf x).toNat)
  case atStart => exact ⟨0, rfl, Nat.zero_le _, rfl, Below.refl _ _⟩
  case round =>
    obtain ⟨k, rfl, hk, rfl, hb⟩ := hrel
    have HL := Lib.hid hb
    clear hb
    by_cases hlt : k < l.length
    · obtain ⟨r, hrk⟩ : ∃ r, l[k]? = some r := ⟨_, List.getElem?_eq_getElem hlt⟩
      obtain ⟨_, h0, _⟩ | ⟨g, rfl, _, hg⟩ := HF.out
      · omega
      obtain ⟨a0, a1, a2, a3, a4⟩ := ((HR.out.fat k hrk).old HL.out hg).five
      have HN := Lib.hid (cat_take l k r hrk)
      have h2 := HK.out (k + 1)
      rw [HN.out, List.length_append] at h2
      have hs1 : (bin (cat (l.take k))).size ≤ 5000 := by rw [bin_size]; exact HK.out k
      have hs2 : (bin r.raw).size ≤ 5000 := by rw [bin_size]; omega
      clear hrk a0 a1 a2 a3
      go_wp2_with fail
      go_roundw
      case rel => exact ⟨k + 1, by go_num, hlt, by rw [HN.out, ← bin_join], HL.out⟩
      case measure => simp [intOf]; omega
    · obtain rfl : k = l.length := by omega
      rw [List.take_length]
      go_wp2_with fail
      go_ret
      exact ⟨rfl, HL.out⟩
set_option maxHeartbeats 2000000 in
set_option maxRecDepth 100000 in
theorem same_any (l : List Rc) (base base' : Nat) (pa pb : Option Addr) (ca cb : Nat) (w : World) (hr : RRow w base 30 (.slice pa l.length ca) l) (hf : Seat base w pa l.length ca) (hr' : RRow w base' 30 (.slice pb l.length cb) l) (hf' : Seat base' w pb l.length cb) (hl : l.length ≤ 1000) :
    Calls Try.prog 22 #[.slice pa l.length ca, .slice pb l.length cb] w fun e w' => e = .returned (.bool true) ∧ Below w.heap.size w w' := by
  have HR := Lib.hid hr
  have HF := Lib.hid hf
  have HR' := Lib.hid hr'
  have HF' := Lib.hid hf'
  clear hr hf hr' hf'
  go_enter Try.func22, Try.ntmps22
  go_wp2_with fail
  go_loopw [5] (fun x W => ∃ k : Nat, x = .int .i64 k ∧ k ≤ l.length ∧ Below w.heap.size w W) (fun x _ => l.length - (intOf x).toNat)
  case atStart => exact ⟨0, rfl, Nat.zero_le _, Below.refl _ _⟩
  case round =>
    obtain ⟨k, rfl, hk, hb⟩ := hrel
    have HL := Lib.hid hb
    clear hb
    by_cases hlt : k < l.length
    · obtain ⟨r, hrk⟩ : ∃ r, l[k]? = some r := ⟨_, List.getElem?_eq_getElem hlt⟩
      obtain ⟨_, h0, _⟩ | ⟨g, rfl, _, hg⟩ := HF.out
      · omega
      obtain ⟨_, h0, _⟩ | ⟨g', rfl, _, hg'⟩ := HF'.out
      · omega
      obtain ⟨a0, a1, a2, a3, a4⟩ := ((HR.out.fat k hrk).old HL.out hg).five
      obtain ⟨c0, c1, c2, c3, c4⟩ := ((HR'.out.fat k hrk).old HL.out hg').five
      clear hrk
      go_wp2_with fail
      go_quiet (fail)
      go_wp2
      go_roundw
      case rel => exact ⟨k + 1, by go_num, hlt, below_drewN HL.out _⟩
      case measure => simp [intOf]; omega
    · obtain rfl : k = l.length := by omega
      go_wp2_with fail
      go_ret
      exact ⟨rfl, HL.out⟩
end Rv
end Go.Proofs.Ytfcpicejifolmaa
