/-
  glyph.Put: its contract. No condition.
-/
import Derived.Test.YtfcpicejifolmaaGs
import Derived.Test.YtfcpicejifolmaaRt
namespace Go.Proofs.Ytfcpicejifolmaa
open Go.ChangeShapes Go.WideShapes Go.ChangeAt Go.RowKit
namespace Gl
open Mem
set_option linter.unusedVariables false
set_option linter.unusedSimpArgs false
theorem lit_bin {P : Program} (W : World) {s d el e : TypeId} (hs : P.underlying s = some (.slice el)) (hel : P.underlying el = some (.int .u8)) (hd : P.underlying d = some .string) (l : List UInt8) (n : Nat) (hn : n = l.length) (xs : List Value) (hxs : xs = Mem.vals l) :
    (convert s d (.slice (some ⟨W.heap.size, 0, none⟩) n n)).run P (W.alloc (.cells ⟨xs⟩ e)) = .ok (.string (bin l)) (W.alloc (.cells ⟨xs⟩ e)) := by
  subst hxs
  have hz : (bin l).size = n := by rw [hn]; simp [bin, ByteArray.size]
  have := Lib.run_convert_whole (P := P) (W.alloc (.cells ⟨Mem.vals l⟩ e)) s el d hs hel hd W.heap.size 0 (bin l) (Mem.Holds.lit W l e).bytes n
  rw [hz] at this
  exact this
def UH (a b : TypeId) : Prop := True
set_option maxHeartbeats 2000000 in
set_option maxRecDepth 100000 in
theorem Put_pt (r : Nat) (w : World) (hr : r ≤ 1114111) (hp : isPt r = true) :
    Calls Try.prog 34 #[.int .u32 (r : Int)] w fun e w' => e = .returned (.string (bin (gbytes r))) ∧ Below w.heap.size w w' := by
  have cI := Lib.hid (fun W => is_any r (by omega) W)
  have cL := Lib.hid (fun W => length_any r (by omega) W)
  rw [hp] at cI
  have hr' : (r : Int) ≤ 1114111 := by omega
  have cT0 := Lib.hid (fun W => tail_any r (by omega) W)
  have cT1 := Lib.hid (fun W => tail_any (r / 64) (by omega) W)
  have cT2 := Lib.hid (fun W => tail_any (r / 4096) (by omega) W)
  rw [show ((r / 64 : Nat) : Int) = (r : Int) / 64 by omega] at cT1
  rw [show ((r / 4096 : Nat) : Int) = (r : Int) / 4096 by omega] at cT2
  have v0 : (tailB r).toNat ≤ 255 := by have := (tailB r).toNat_lt; omega
  have v1 : (tailB (r / 64)).toNat ≤ 255 := by have := (tailB (r / 64)).toNat_lt; omega
  have v2 : (tailB (r / 4096)).toNat ≤ 255 := by have := (tailB (r / 4096)).toNat_lt; omega
  have BL : Hid (∀ o, Below w.heap.size w (w.alloc o)) := fun o => (Below.refl _ _).alloc (Nat.le_refl _) _
  clear hp
  by_cases h1 : r < 128
  · have HG : gbytes r = [UInt8.ofNat r] := by unfold gbytes; rw [if_pos h1]
    have HL : glen r = 1 := by unfold glen; rw [if_pos h1]
    rw [HL] at cL
    rw [HG]
    have hu : (UInt8.ofNat r).toNat = r := Mem.ofNat_lt (by omega)
    have cv := lit_bin (P := Try.prog) w Try.underlying44 Try.underlying5 Try.underlying9 (e := 5) [UInt8.ofNat r] 1 rfl [.int .u8 (r : Int)] (by simp [Mem.vals]; omega)
    clear HG HL hu
    go_enter Try.func34, Try.ntmps34
    go_wp2_with (first | (go_at_call 49; ((with_reducible refine (cI.out _).mono ?_); rintro e w1 ⟨rfl, rfl⟩)) | (go_at_call 50; ((with_reducible refine (cL.out _).mono ?_); rintro e w1 ⟨rfl, rfl⟩)))
    go_ret
    exact ⟨rfl, BL.out _⟩
  · by_cases h2 : r < 2048
    · skip
      have HG : gbytes r = [UInt8.ofNat (192 + r / 64), tailB r] := by unfold gbytes; rw [if_neg h1, if_pos h2]
      have HL : glen r = 2 := by unfold glen; rw [if_neg h1, if_pos h2]
      rw [HL] at cL
      rw [HG]
      have hu : (UInt8.ofNat (192 + r / 64)).toNat = 192 + r / 64 := Mem.ofNat_lt (by omega)
      have ho := or8d 192 (r / 64) 5 (by decide) (by omega) (by decide) (by decide)
      rw [show ((r / 64 : Nat) : Int) = (r : Int) / 64 by omega, show ((192 : Nat) : Int) = 192 from rfl] at ho
      have hb : (r : Int) / 64 < 32 := by omega
      have cv := lit_bin (P := Try.prog) w Try.underlying44 Try.underlying5 Try.underlying9 (e := 5) [UInt8.ofNat (192 + r / 64), tailB r] 2 rfl [.int .u8 ((192 + r / 64 : Nat) : Int), .int .u8 ((tailB r).toNat : Int)] (by simp only [Mem.vals, List.map_cons, List.map_nil, hu])
      clear HG HL hu
      obtain ⟨z, hz⟩ : ∃ z, z = 192 + r / 64 := ⟨_, rfl⟩
      rw [← hz] at ho cv ⊢
      clear hz
      go_enter Try.func34, Try.ntmps34
      go_wp2_with (first | (go_at_call 49; ((with_reducible refine (cI.out _).mono ?_); rintro e w1 ⟨rfl, rfl⟩)) | (go_at_call 50; ((with_reducible refine (cL.out _).mono ?_); rintro e w1 ⟨rfl, rfl⟩)) | (go_at_call 51; ((with_reducible refine (cT0.out _).mono ?_); rintro e w1 ⟨rfl, rfl⟩)))
      go_ret
      exact ⟨rfl, BL.out _⟩
    · by_cases h3 : r < 65536
      · skip
        have HG : gbytes r = [UInt8.ofNat (224 + r / 4096), tailB (r / 64), tailB r] := by unfold gbytes; rw [if_neg h1, if_neg h2, if_pos h3]
        have HL : glen r = 3 := by unfold glen; rw [if_neg h1, if_neg h2, if_pos h3]
        rw [HL] at cL
        rw [HG]
        have hu : (UInt8.ofNat (224 + r / 4096)).toNat = 224 + r / 4096 := Mem.ofNat_lt (by omega)
        have ho := or8d 224 (r / 4096) 4 (by decide) (by omega) (by decide) (by decide)
        rw [show ((r / 4096 : Nat) : Int) = (r : Int) / 4096 by omega, show ((224 : Nat) : Int) = 224 from rfl] at ho
        have hb : (r : Int) / 4096 < 16 := by omega
        have cv := lit_bin (P := Try.prog) w Try.underlying44 Try.underlying5 Try.underlying9 (e := 5) [UInt8.ofNat (224 + r / 4096), tailB (r / 64), tailB r] 3 rfl [.int .u8 ((224 + r / 4096 : Nat) : Int), .int .u8 ((tailB (r / 64)).toNat : Int), .int .u8 ((tailB r).toNat : Int)] (by simp only [Mem.vals, List.map_cons, List.map_nil, hu])
        clear HG HL hu
        obtain ⟨z, hz⟩ : ∃ z, z = 224 + r / 4096 := ⟨_, rfl⟩
        rw [← hz] at ho cv ⊢
        clear hz
        go_enter Try.func34, Try.ntmps34
        go_wp2_with (first | (go_at_call 49; ((with_reducible refine (cI.out _).mono ?_); rintro e w1 ⟨rfl, rfl⟩)) | (go_at_call 50; ((with_reducible refine (cL.out _).mono ?_); rintro e w1 ⟨rfl, rfl⟩)) | (go_at_call 51; ((with_reducible refine (cT1.out _).mono ?_); rintro e w1 ⟨rfl, rfl⟩)) | (go_at_call 51; ((with_reducible refine (cT0.out _).mono ?_); rintro e w1 ⟨rfl, rfl⟩)))
        go_ret
        exact ⟨rfl, BL.out _⟩
      · skip
        have HG : gbytes r = [UInt8.ofNat (240 + r / 262144), tailB (r / 4096), tailB (r / 64), tailB r] := by unfold gbytes; rw [if_neg h1, if_neg h2, if_neg h3]
        have HL : glen r = 4 := by unfold glen; rw [if_neg h1, if_neg h2, if_neg h3]
        rw [HL] at cL
        rw [HG]
        have hu : (UInt8.ofNat (240 + r / 262144)).toNat = 240 + r / 262144 := Mem.ofNat_lt (by omega)
        have ho := or8d 240 (r / 262144) 3 (by decide) (by omega) (by decide) (by decide)
        rw [show ((r / 262144 : Nat) : Int) = (r : Int) / 262144 by omega, show ((240 : Nat) : Int) = 240 from rfl] at ho
        have hb : (r : Int) / 262144 < 8 := by omega
        have cv := lit_bin (P := Try.prog) w Try.underlying44 Try.underlying5 Try.underlying9 (e := 5) [UInt8.ofNat (240 + r / 262144), tailB (r / 4096), tailB (r / 64), tailB r] 4 rfl [.int .u8 ((240 + r / 262144 : Nat) : Int), .int .u8 ((tailB (r / 4096)).toNat : Int), .int .u8 ((tailB (r / 64)).toNat : Int), .int .u8 ((tailB r).toNat : Int)] (by simp only [Mem.vals, List.map_cons, List.map_nil, hu])
        clear HG HL hu
        obtain ⟨z, hz⟩ : ∃ z, z = 240 + r / 262144 := ⟨_, rfl⟩
        rw [← hz] at ho cv ⊢
        clear hz
        go_enter Try.func34, Try.ntmps34
        go_wp2_with (first | (go_at_call 49; ((with_reducible refine (cI.out _).mono ?_); rintro e w1 ⟨rfl, rfl⟩)) | (go_at_call 50; ((with_reducible refine (cL.out _).mono ?_); rintro e w1 ⟨rfl, rfl⟩)) | (go_at_call 51; ((with_reducible refine (cT2.out _).mono ?_); rintro e w1 ⟨rfl, rfl⟩)) | (go_at_call 51; ((with_reducible refine (cT1.out _).mono ?_); rintro e w1 ⟨rfl, rfl⟩)) | (go_at_call 51; ((with_reducible refine (cT0.out _).mono ?_); rintro e w1 ⟨rfl, rfl⟩)))
        go_ret
        exact ⟨rfl, BL.out _⟩
set_option maxHeartbeats 2000000 in
set_option maxRecDepth 100000 in
theorem Put_no (r : Nat) (w : World) (hr : r < 4294967296) (hp : isPt r = false) :
    Calls Try.prog 34 #[.int .u32 (r : Int)] w fun e w' => e = .returned (.string (bin [239, 191, 189])) ∧ Below w.heap.size w w' := by
  have cI := Lib.hid (fun W => is_any r (by omega) W)
  have cL := Lib.hid (fun W => length_any 65533 (by omega) W)
  rw [hp] at cI
  have cT0 := Lib.hid (fun W => tail_any 65533 (by omega) W)
  have cT1 := Lib.hid (fun W => tail_any 1023 (by omega) W)
  rw [show ((65533 : Nat) : Int) = 65533 from rfl] at cL cT0
  rw [show ((1023 : Nat) : Int) = 1023 from rfl, show (((tailB 1023).toNat : Nat) : Int) = 191 from rfl] at cT1
  rw [show (((tailB 65533).toNat : Nat) : Int) = 189 from rfl] at cT0
  rw [show ((glen 65533 : Nat) : Int) = 3 from rfl] at cL
  have ho : bits .or .u8 224 15 = 239 := by decide
  have BL : Hid (∀ o, Below w.heap.size w (w.alloc o)) := fun o => (Below.refl _ _).alloc (Nat.le_refl _) _
  have cv := lit_bin (P := Try.prog) w Try.underlying44 Try.underlying5 Try.underlying9 (e := 5) [239, 191, 189] 3 rfl [.int .u8 239, .int .u8 191, .int .u8 189] rfl
  clear hp
  go_enter Try.func34, Try.ntmps34
  go_wp2_with (first | (go_at_call 49; ((with_reducible refine (cI.out _).mono ?_); rintro e w1 ⟨rfl, rfl⟩)) | (go_at_call 50; ((with_reducible refine (cL.out _).mono ?_); rintro e w1 ⟨rfl, rfl⟩)) | (go_at_call 51; ((with_reducible refine (cT0.out _).mono ?_); rintro e w1 ⟨rfl, rfl⟩)) | (go_at_call 51; ((with_reducible refine (cT1.out _).mono ?_); rintro e w1 ⟨rfl, rfl⟩)))
  go_ret
  exact ⟨rfl, BL.out _⟩
theorem Put_any (r : Nat) (w : World) (hr : r < 4294967296) :
    Calls Try.prog 34 #[.int .u32 (r : Int)] w fun e w' => e = .returned (.string (bin (gput r))) ∧ Below w.heap.size w w' := by
  cases hp : isPt r with
  | true =>
    have : gput r = gbytes r := by unfold gput; rw [hp]; rfl
    rw [this]
    have hle : r ≤ 1114111 := by
      unfold isPt at hp; simp at hp; omega
    exact Put_pt r w hle hp
  | false =>
    have : gput r = [239, 191, 189] := by unfold gput; rw [hp, if_neg (by decide)]; decide
    rw [this]
    exact Put_no r w hr hp
end Gl
end Go.Proofs.Ytfcpicejifolmaa
