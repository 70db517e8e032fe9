/-
  rec.PutVarint: its contract. No condition.
-/
import Derived.Test.YtabfjgbidbibgaaRv
import Derived.Laws.AppendOwn
import Derived.RangeFuncBox
namespace Go.Proofs.Ytabfjgbidbibgaa
open Go.ChangeShapes Go.WideShapes Go.ChangeAt Go.RowKit
namespace Rv
set_option linter.unusedVariables false
theorem info8 : (Try.prog.info? 5).map (fun i => (i.zero, i.size, i.bytes)) = some (some (.int .u8 0), 1, 1) := by kernel_rfl
theorem info_parts {i : Option TypeInfo} {z : Option Value} {n b : Nat} (h : i.map (fun i => (i.zero, i.size, i.bytes)) = some (z, n, b)) : ∃ i0, i = some i0 ∧ i0.zero = z ∧ i0.size = n ∧ i0.bytes = b := by
  cases i with
  | none => cases h
  | some i0 => simp at h; exact ⟨i0, rfl, h.1, h.2.1, h.2.2⟩
def vals (l : List UInt8) : List Value := l.map fun b => .int .u8 (b.toNat : Int)
theorem vals_len (l : List UInt8) : (vals l).length = l.length := by simp [vals]
theorem one_src (W : World) (x : Value) (e : TypeId) : ∀ (j : Nat) u, [x][j]? = some u → (W.alloc (.cells #[x] e)).cell? ((⟨W.heap.size, 0, none⟩ : Addr).add j) = some u := by
  intro j u hj
  cases j with
  | zero =>
    simp at hj; subst hj
    rw [Addr.add_lit, Nat.zero_add]
    have hp : (W.alloc (.cells #[x] e)).heap[W.heap.size]? = some (.cells #[x] e (0, 0)) := by
      show (W.heap.push _)[W.heap.size]? = _
      simp
    simp only [World.cell?, hp]; rfl
  | succ j => simp at hj
theorem one_int (k : IntKind) (n : Int) : ∀ u ∈ [Value.int k n], u.oneCell' = true := by
  intro u hu
  simp at hu; subst hu; rfl
theorem or128 (y : Nat) : bits .or .u8 ((y : Int) % 256) 128 = ((UInt8.ofNat (y % 128 + 128)).toNat : Int) := by
  have h := u8_or_nat (y % 256) 128 (by omega) (by decide)
  rw [show ((y % 256 : Nat) : Int) = (y : Int) % 256 by omega] at h
  refine Eq.trans h ?_
  rw [UInt8.toNat_ofNat']
  congr 1
  have h2 : y % 256 ||| 128 = y % 128 + 128 := by
    have : ∀ z : Fin 256, z.1 ||| 128 = z.1 % 128 + 128 := by decide +kernel
    have := this ⟨y % 256, by omega⟩
    simp only at this
    rw [this]; omega
  rw [h2]; omega
theorem own_snoc {W : World} {base e : Nat} {v : Value} {p : List UInt8} {c : UInt8} {z : Int} (hz : z = (c.toNat : Int)) (h : W.ownsRow base e 1 v (p.length + 1) (vals p ++ [Value.int .u8 z])) : W.ownsRow base e 1 v (p ++ [c]).length (vals (p ++ [c])) := by
  have e1 : (p ++ [c]).length = p.length + 1 := by simp
  have e2 : vals (p ++ [c]) = vals p ++ [Value.int .u8 (c.toNat : Int)] := by simp [vals]
  rw [e1, e2, ← hz]; exact h
theorem own_bytes {W : World} {base e g cap : Nat} {l : List UInt8} (h : W.ownsRow base e 1 (.slice (some ⟨g, 0, none⟩) l.length cap) l.length (vals l)) : Lib.Bytes W g 0 ⟨l.toArray⟩ := by
  intro i hi
  have hi' : i < l.length := by simpa [ByteArray.size] using hi
  have := h.cellAt i (by omega)
  rw [Nat.zero_add, this]
  simp [vals, hi']
  rfl
theorem own_text {P : Program} {W : World} {base e g cap : Nat} {s d el : TypeId} (hs : P.underlying s = some (.slice el)) (hel : P.underlying el = some (.int .u8)) (hd : P.underlying d = some .string) {l : List UInt8} (h : W.ownsRow base e 1 (.slice (some ⟨g, 0, none⟩) l.length cap) l.length (vals l)) :
    (convert s d (.slice (some ⟨g, 0, none⟩) l.length cap)).run P W = .ok (.string ⟨l.toArray⟩) W := by
  have := Lib.run_convert_whole (P := P) W s el d hs hel hd g 0 ⟨l.toArray⟩ (own_bytes h) cap
  have hl : (ByteArray.mk l.toArray).size = l.length := by simp [ByteArray.size]
  rw [hl] at this; exact this
theorem wrap_last (y : Nat) (h : y < 128) : IntKind.u8.wrap (y : Int) = ((UInt8.ofNat y).toNat : Int) := by
  rw [UInt8.toNat_ofNat', IntKind.wrap_u8']; omega
theorem venc_len : ∀ (k v : Nat), v < 128 ^ (k + 1) → (venc v).length ≤ k + 1
  | 0, v, h => by rw [venc_lt (by omega)]; simp
  | k + 1, v, h => by
    by_cases hv : v < 128
    · rw [venc_lt hv]; simp
    · rw [venc_ge (by omega)]
      have := venc_len k (v / 128) (by rw [Nat.div_lt_iff_lt_mul (by decide), ← Nat.pow_succ]; exact h)
      simp; omega
theorem venc_ten (v : Nat) (h : v < 18446744073709551616) : (venc v).length ≤ 10 := venc_len 9 v (Nat.lt_of_lt_of_le h (by decide))
theorem venc_pos (v : Nat) : 1 ≤ (venc v).length := by
  by_cases hv : v < 128
  · rw [venc_lt hv]; simp
  · rw [venc_ge (by omega)]; simp
set_option maxHeartbeats 1000000 in
set_option maxRecDepth 20000 in
theorem put_any (v : Nat) (w : World) (hv : v < 18446744073709551616) :
    Calls Try.prog 89 #[.int .u64 (v : Int)] w fun e w' => e = .returned (.string ⟨(venc v).toArray⟩) ∧ Below w.heap.size w w' := by
  obtain ⟨i0, hi, hz0, hz1, hz2⟩ := info_parts info8
  have hvi : (v : Int) ≤ 18446744073709551615 := by omega
  have hten := venc_ten v hv
  clear hv
  go_enter Try.func89, Try.ntmps89
  go_wp2_with fail
  go_loopw [0, 3] (fun x b wr => ∃ (y : Nat) (p : List UInt8), x = .int .u64 (y : Int) ∧ y < 18446744073709551616 ∧ wr.ownsRow w.heap.size 5 1 b p.length (vals p) ∧ p ++ venc y = venc v ∧ Below w.heap.size w wr) (fun x _ _ => (intOf x).toNat)
  case atStart => exact ⟨v, [], rfl, by omega, World.ownsRow_nil _ _ _ _, rfl, Below.refl _ _⟩
  case round =>
    obtain ⟨y, p, rfl, hy, ho, he, hb⟩ := hrel
    have hpl : p.length ≤ 9 := by
      have h1 := congrArg List.length he
      have h2 := venc_pos y
      rw [List.length_append] at h1; omega
    have HO := Lib.hid ho
    have HB := Lib.hid hb
    have HE := Lib.hid he
    have hw := hb.size
    clear ho hb he hten
    have hyi : (y : Int) ≤ 18446744073709551615 := by omega
    by_cases hlt : 128 ≤ y
    · have HD := Lib.hid (venc_ge hlt)
      have HN : Hid (y / 128 < 18446744073709551616) := by show _ < _; omega
      clear hy
      have hd : decide ((128 : Int) ≤ (y : Int)) = true := by simp; omega
      go_wp2_with (at_builtin; refine wpList_append_own _ rfl _ _ 22 rfl w.heap.size 5 i0 (.int .u8 0) 1 1 Try.underlying22 hi hz0 hz1 hz2 rfl (by decide) _ p.length (vals p) rfl (HO.out.alloc _) ⟨wr.heap.size, 0, none⟩ 1 1 [.int .u8 (bits .or .u8 ((y : Int) % 256) 128)] rfl rfl (one_src _ _ _) (one_int _ _) (by unfold maxLen; omega) (by omega) (by simp; omega) ?_)
      intro v' w1 hown' hgrow _
      have HO2 := Lib.hid (own_snoc (or128 y) hown')
      have HB2 := Lib.hid ((HB.out.alloc hw _).grown hgrow (by simp; omega) (fun k hk => (HO.out.lt k hk).1))
      clear hown' hgrow
      go_wp2
      go_roundw
      case rel => exact ⟨y / 128, p ++ [UInt8.ofNat (y % 128 + 128)], by go_num, HN.out, HO2.out, by rw [List.append_assoc, ← HE.out, HD.out]; rfl, HB2.out⟩
      case measure => simp [intOf]; omega
    · have hlt' : y < 128 := by omega
      have HD := Lib.hid (venc_lt hlt')
      clear hy
      have hd : decide ((128 : Int) ≤ (y : Int)) = false := by simp; omega
      go_wp2_with (at_builtin; refine wpList_append_own _ rfl _ _ 22 rfl w.heap.size 5 i0 (.int .u8 0) 1 1 Try.underlying22 hi hz0 hz1 hz2 rfl (by decide) _ p.length (vals p) rfl (HO.out.alloc _) ⟨wr.heap.size, 0, none⟩ 1 1 [.int .u8 (y : Int)] rfl rfl (one_src _ _ _) (one_int _ _) (by unfold maxLen; omega) (by omega) (by simp; omega) ?_)
      intro v' w1 hown' hgrow _
      obtain ⟨g, cap, rfl⟩ := ownsRow_succ hown'
      have HO2 := Lib.hid (own_snoc (c := UInt8.ofNat y) (by rw [UInt8.toNat_ofNat']; omega) hown')
      have HB2 := Lib.hid ((HB.out.alloc hw _).grown hgrow (by simp; omega) (fun k hk => (HO.out.lt k hk).1))
      have hcv : (convert 22 9 (.slice (some ⟨g, 0, none⟩) (p.length + 1) cap)).run Try.prog w1 = .ok (.string ⟨(p ++ [UInt8.ofNat y]).toArray⟩) w1 := by
        have e1 : (p ++ [UInt8.ofNat y]).length = p.length + 1 := by simp
        have h2 := HO2.out
        rw [← e1] at h2 ⊢
        exact own_text Try.underlying22 Try.underlying5 Try.underlying9 h2
      clear hown' hgrow
      go_wp2
      go_ret
      exact ⟨by rw [← HE.out, HD.out]; rfl, HB2.out⟩
end Rv
end Go.Proofs.Ytabfjgbidbibgaa
