/-
  The document's Glyph: its contract. No condition.
-/
import Derived.Test.YtfcpicejifolmaaGp
namespace Go.Proofs.Ytfcpicejifolmaa
open Go.ChangeShapes Go.WideShapes Go.ChangeAt Go.RowKit
namespace Gl
open Mem
set_option linter.unusedVariables false
set_option linter.unusedSimpArgs false
theorem tailB_n (r : Nat) : (tailB r).toNat = 128 + r % 64 := Mem.ofNat_lt (by omega)
set_option maxHeartbeats 2000000 in
set_option maxRecDepth 1000000 in
theorem dG1 (r : Nat) (w : World) (h1 : r < 128) :
    Calls Try.prog 35 #[.int .u32 (r : Int)] w fun e w' => e = .returned (.string (bin (gbytes r))) ∧ Below w.heap.size w w' := by
  have BL : Hid (∀ o, Below w.heap.size w (w.alloc o)) := fun o => (Below.refl _ _).alloc (Nat.le_refl _) _
  have HG : gbytes r = [UInt8.ofNat r] := by unfold gbytes; rw [if_pos h1]
  rw [HG]
  have hu : (UInt8.ofNat r).toNat = r := Mem.ofNat_lt (by omega)
  have cv := lit_bin (P := Try.prog) w Try.underlying44 Try.underlying5 Try.underlying9 (e := 5) [UInt8.ofNat r] 1 rfl [.int .u8 (r : Int)] (by simp only [Mem.vals, List.map_cons, List.map_nil, hu, tailB_n])
  clear HG hu
  go_enter Try.func35, Try.ntmps35
  go_wp2
  go_ret
  exact ⟨rfl, BL.out _⟩
set_option maxHeartbeats 2000000 in
set_option maxRecDepth 1000000 in
theorem dG2 (r : Nat) (w : World) (h1 : ¬ r < 128) (h2 : r < 2048) :
    Calls Try.prog 35 #[.int .u32 (r : Int)] w fun e w' => e = .returned (.string (bin (gbytes r))) ∧ Below w.heap.size w w' := by
  have BL : Hid (∀ o, Below w.heap.size w (w.alloc o)) := fun o => (Below.refl _ _).alloc (Nat.le_refl _) _
  have HG : gbytes r = [UInt8.ofNat (192 + r / 64), tailB r] := by unfold gbytes; rw [if_neg h1, if_pos h2]
  rw [HG]
  have hu : (UInt8.ofNat (192 + r / 64)).toNat = 192 + r / 64 := Mem.ofNat_lt (by omega)
  have hb : (r : Int) / 64 < 32 := by omega
  have cv := lit_bin (P := Try.prog) w Try.underlying44 Try.underlying5 Try.underlying9 (e := 5) [UInt8.ofNat (192 + r / 64), tailB r] 2 rfl [.int .u8 (192 + (r : Int) / 64), .int .u8 (128 + (r : Int) % 64)] (by simp only [Mem.vals, List.map_cons, List.map_nil, hu, tailB_n]; first | rfl | (simp; done) | (simp; omega))
  generalize UInt8.ofNat (192 + r / 64) = z at hu cv ⊢
  clear HG hu
  go_enter Try.func35, Try.ntmps35
  go_wp2
  go_ret
  exact ⟨rfl, BL.out _⟩
set_option maxHeartbeats 2000000 in
set_option maxRecDepth 1000000 in
theorem dG3 (r : Nat) (w : World) (h1 : ¬ r < 128) (h2 : ¬ r < 2048) (h3 : r < 55296) :
    Calls Try.prog 35 #[.int .u32 (r : Int)] w fun e w' => e = .returned (.string (bin (gbytes r))) ∧ Below w.heap.size w w' := by
  have BL : Hid (∀ o, Below w.heap.size w (w.alloc o)) := fun o => (Below.refl _ _).alloc (Nat.le_refl _) _
  have HG : gbytes r = [UInt8.ofNat (224 + r / 4096), tailB (r / 64), tailB r] := by unfold gbytes; rw [if_neg h1, if_neg h2, if_pos (by omega)]
  rw [HG]
  have hu : (UInt8.ofNat (224 + r / 4096)).toNat = 224 + r / 4096 := Mem.ofNat_lt (by omega)
  have hb : (r : Int) / 4096 < 16 := by omega
  have cv := lit_bin (P := Try.prog) w Try.underlying44 Try.underlying5 Try.underlying9 (e := 5) [UInt8.ofNat (224 + r / 4096), tailB (r / 64), tailB r] 3 rfl [.int .u8 (224 + (r : Int) / 4096), .int .u8 (128 + (r : Int) / 64 % 64), .int .u8 (128 + (r : Int) % 64)] (by simp only [Mem.vals, List.map_cons, List.map_nil, hu, tailB_n]; first | rfl | (simp; done) | (simp; omega))
  generalize UInt8.ofNat (224 + r / 4096) = z at hu cv ⊢
  clear HG hu
  go_enter Try.func35, Try.ntmps35
  go_wp2
  go_ret
  exact ⟨rfl, BL.out _⟩
set_option maxHeartbeats 2000000 in
set_option maxRecDepth 1000000 in
theorem dG4 (r : Nat) (w : World) (h1 : ¬ r < 128) (h2 : ¬ r < 2048) (h3 : 57343 < r) (h4 : r < 65536) :
    Calls Try.prog 35 #[.int .u32 (r : Int)] w fun e w' => e = .returned (.string (bin (gbytes r))) ∧ Below w.heap.size w w' := by
  have BL : Hid (∀ o, Below w.heap.size w (w.alloc o)) := fun o => (Below.refl _ _).alloc (Nat.le_refl _) _
  have HG : gbytes r = [UInt8.ofNat (224 + r / 4096), tailB (r / 64), tailB r] := by unfold gbytes; rw [if_neg h1, if_neg h2, if_pos h4]
  rw [HG]
  have hu : (UInt8.ofNat (224 + r / 4096)).toNat = 224 + r / 4096 := Mem.ofNat_lt (by omega)
  have hb : (r : Int) / 4096 < 16 := by omega
  have cv := lit_bin (P := Try.prog) w Try.underlying44 Try.underlying5 Try.underlying9 (e := 5) [UInt8.ofNat (224 + r / 4096), tailB (r / 64), tailB r] 3 rfl [.int .u8 (224 + (r : Int) / 4096), .int .u8 (128 + (r : Int) / 64 % 64), .int .u8 (128 + (r : Int) % 64)] (by simp only [Mem.vals, List.map_cons, List.map_nil, hu, tailB_n]; first | rfl | (simp; done) | (simp; omega))
  generalize UInt8.ofNat (224 + r / 4096) = z at hu cv ⊢
  clear HG hu
  go_enter Try.func35, Try.ntmps35
  go_wp2
  go_ret
  exact ⟨rfl, BL.out _⟩
set_option maxHeartbeats 2000000 in
set_option maxRecDepth 1000000 in
theorem dG5 (r : Nat) (w : World) (h1 : ¬ r < 128) (h2 : ¬ r < 2048) (h3 : ¬ r < 65536) (h4 : r ≤ 1114111) :
    Calls Try.prog 35 #[.int .u32 (r : Int)] w fun e w' => e = .returned (.string (bin (gbytes r))) ∧ Below w.heap.size w w' := by
  have BL : Hid (∀ o, Below w.heap.size w (w.alloc o)) := fun o => (Below.refl _ _).alloc (Nat.le_refl _) _
  have HG : gbytes r = [UInt8.ofNat (240 + r / 262144), tailB (r / 4096), tailB (r / 64), tailB r] := by unfold gbytes; rw [if_neg h1, if_neg h2, if_neg h3]
  rw [HG]
  have hu : (UInt8.ofNat (240 + r / 262144)).toNat = 240 + r / 262144 := Mem.ofNat_lt (by omega)
  have hb : (r : Int) / 262144 < 8 := by omega
  have cv := lit_bin (P := Try.prog) w Try.underlying44 Try.underlying5 Try.underlying9 (e := 5) [UInt8.ofNat (240 + r / 262144), tailB (r / 4096), tailB (r / 64), tailB r] 4 rfl [.int .u8 (240 + (r : Int) / 262144), .int .u8 (128 + (r : Int) / 4096 % 64), .int .u8 (128 + (r : Int) / 64 % 64), .int .u8 (128 + (r : Int) % 64)] (by simp only [Mem.vals, List.map_cons, List.map_nil, hu, tailB_n]; first | rfl | (simp; done) | (simp; omega))
  generalize UInt8.ofNat (240 + r / 262144) = z at hu cv ⊢
  clear HG hu
  go_enter Try.func35, Try.ntmps35
  go_wp2
  go_ret
  exact ⟨rfl, BL.out _⟩
set_option maxHeartbeats 2000000 in
set_option maxRecDepth 1000000 in
theorem dG6 (r : Nat) (w : World) (hr : r < 4294967296) (h1 : 1114111 < r) :
    Calls Try.prog 35 #[.int .u32 (r : Int)] w fun e w' => e = .returned (.string (bin [239, 191, 189])) ∧ Below w.heap.size w w' := by
  have BL : Hid (∀ o, Below w.heap.size w (w.alloc o)) := fun o => (Below.refl _ _).alloc (Nat.le_refl _) _
  have cv := lit_bin (P := Try.prog) w Try.underlying44 Try.underlying5 Try.underlying9 (e := 5) [239, 191, 189] 3 rfl [.int .u8 239, .int .u8 191, .int .u8 189] rfl
  go_enter Try.func35, Try.ntmps35
  go_wp2
  go_ret
  exact ⟨rfl, BL.out _⟩
set_option maxHeartbeats 2000000 in
set_option maxRecDepth 1000000 in
theorem dG7 (r : Nat) (w : World) (h1 : 55296 ≤ r) (h2 : r ≤ 57343) :
    Calls Try.prog 35 #[.int .u32 (r : Int)] w fun e w' => e = .returned (.string (bin [239, 191, 189])) ∧ Below w.heap.size w w' := by
  have BL : Hid (∀ o, Below w.heap.size w (w.alloc o)) := fun o => (Below.refl _ _).alloc (Nat.le_refl _) _
  have cv := lit_bin (P := Try.prog) w Try.underlying44 Try.underlying5 Try.underlying9 (e := 5) [239, 191, 189] 3 rfl [.int .u8 239, .int .u8 191, .int .u8 189] rfl
  go_enter Try.func35, Try.ntmps35
  go_wp2
  go_ret
  exact ⟨rfl, BL.out _⟩
theorem DGlyph_any (r : Nat) (w : World) (hr : r < 4294967296) :
    Calls Try.prog 35 #[.int .u32 (r : Int)] w fun e w' => e = .returned (.string (bin (gput r))) ∧ Below w.heap.size w w' := by
  cases hp : isPt r with
  | true =>
    have : gput r = gbytes r := by unfold gput; rw [hp]; rfl
    rw [this]
    have hle : r ≤ 1114111 ∧ ¬ r / 2048 = 27 := by
      unfold isPt at hp; simpa using hp
    by_cases h1 : r < 128
    · exact dG1 r w h1
    · by_cases h2 : r < 2048
      · exact dG2 r w h1 h2
      · by_cases h3 : r < 55296
        · exact dG3 r w h1 h2 h3
        · by_cases h4 : r < 65536
          · exact dG4 r w h1 h2 (by omega) h4
          · exact dG5 r w h1 h2 h4 hle.1
  | false =>
    have : gput r = [239, 191, 189] := by unfold gput; rw [hp, if_neg (by decide)]; decide
    rw [this]
    by_cases h1 : 1114111 < r
    · exact dG6 r w hr h1
    · have : r / 2048 = 27 := by
        unfold isPt at hp; simp at hp; omega
      exact dG7 r w (by omega) (by omega)
end Gl
end Go.Proofs.Ytfcpicejifolmaa
