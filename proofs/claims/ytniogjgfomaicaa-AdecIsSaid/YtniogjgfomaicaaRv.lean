/-
  rec.Varint, and the document's: their contracts. No condition but that a string fits in memory.
-/
import Derived.Test.YtniogjgfomaicaaRvm
namespace Go.Proofs.Ytniogjgfomaicaa
open Go.ChangeShapes Go.WideShapes Go.ChangeAt Go.RowKit
namespace Rv
set_option linter.unusedVariables false
set_option maxHeartbeats 1000000 in
set_option maxRecDepth 20000 in
theorem varint_any (s : ByteArray) (w : World) (hs : s.size ≤ maxLen) :
    Calls Try.prog 66 #[.string s] w fun e w' => e = vend s.data.toList ∧ w = w' := by
  unfold maxLen at hs
  have HS := Lib.hid (At.start s)
  go_enter Try.func66, Try.ntmps66
  go_wp2
  go_loop [2, 5] (fun v i => ∃ k acc : Nat, i = .int .i64 k ∧ v = .int .u64 acc ∧ At s k acc) (fun _ i => s.size - (intOf i).toNat)
  case atStart => exact ⟨0, 0, rfl, rfl, HS.out⟩
  case round =>
    obtain ⟨k, acc, rfl, rfl, ha⟩ := hrel
    have hkt := ha.ten
    have hks := ha.le
    have ha64 := ha.lt64
    have HA := Lib.hid ha
    clear ha
    by_cases hlt : k < s.size
    · by_cases hten : k < 10
      · have hc := and127 s[k]
        have hcb : s[k].toNat < 256 := s[k].toNat_lt
        by_cases h9 : k = 9
        · subst h9
          have hlt' : (9 : Int) < (s.size : Int) := by omega
          by_cases hg : 1 < s[9].toNat % 128
          · have HE := Lib.hid (vend_none (HA.out.bad hlt rfl hg))
            go_wp2
            exact bodyPost_ret (v := .tuple #[.int .u64 0, .int .i64 0, .int .i64 2]) (by simp [results, Try.results66, go_sem]) rfl ⟨HE.out.symm, rfl⟩
          · by_cases hb : s[9].toNat < 128
            · have HE := Lib.hid (vend_some (HA.out.hit hlt hten (by omega) hb))
              go_wp2
              exact bodyPost_ret (v := .tuple #[.int .u64 (bits .or .u64 (acc : Int) ((s[9].toNat : Int) % 128 * 9223372036854775808)), .int .i64 10, .int .i64 0]) (by simp [results, Try.results66, go_sem]) rfl ⟨by rw [HE.out, or_nine hg HA.out.lt]; rfl, rfl⟩
            · have HE := Lib.hid (HA.out.next hlt hten (by omega) hb)
              go_wp2
              go_round
              case rel => exact ⟨10, _, rfl, congrArg _ (or_nine hg HA.out.lt), HE.out⟩
              case measure => simp [intOf]; omega
        · have h9' : ((k : Int) == 9) = false := by rw [beq_eq_false_iff_ne]; omega
          by_cases hb : s[k].toNat < 128
          · have HE := Lib.hid (vend_some (HA.out.hit hlt hten (by omega) hb))
            go_wp2
            exact bodyPost_ret (v := .tuple #[.int .u64 (bits .or .u64 (acc : Int) (IntKind.u64.wrap ((s[k].toNat : Int) % 128 * 2 ^ (7 * k)))), .int .i64 ((k : Int) + 1), .int .i64 0]) (by simp [results, Try.results66, go_sem]) rfl ⟨by rw [HE.out, or_group' hten (by omega) HA.out.lt]; rfl, rfl⟩
          · have HE := Lib.hid (HA.out.next hlt hten (by omega) hb)
            go_wp2
            go_round
            case rel => exact ⟨k + 1, _, by go_num, congrArg _ (or_group' hten (by omega) HA.out.lt), HE.out⟩
            case measure => simp [intOf]; omega
      · obtain rfl : k = 10 := by omega
        have hz := HA.out.stop (.inr rfl)
        have HE := Lib.hid (vend_none hz)
        clear hz
        go_wp2
        exact bodyPost_ret (v := .tuple #[.int .u64 0, .int .i64 0, .int .i64 2]) (by simp [results, Try.results66, go_sem]) rfl ⟨HE.out.symm, rfl⟩
    · obtain rfl : k = s.size := by omega
      have hz := HA.out.stop (.inl rfl)
      have HE := Lib.hid (vend_none hz)
      clear hz
      go_wp2
      exact bodyPost_ret (v := .tuple #[.int .u64 0, .int .i64 0, .int .i64 2]) (by simp [results, Try.results66, go_sem]) rfl ⟨HE.out.symm, rfl⟩
end Rv
end Go.Proofs.Ytniogjgfomaicaa
