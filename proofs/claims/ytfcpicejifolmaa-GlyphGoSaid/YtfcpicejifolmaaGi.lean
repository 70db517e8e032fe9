/-
  A text's runes make the text again if, and only if, it is valid. No condition.
-/
import Derived.Test.YtfcpicejifolmaaGh
import Derived.Test.YtfcpicejifolmaaGx
import Derived.Laws.Cover4
import Derived.Laws.IdiomStrings
namespace Go.Proofs.Ytfcpicejifolmaa
open Go.ChangeShapes Go.WideShapes Go.ChangeAt Go.RowKit
namespace Gl
open Mem
set_option linter.unusedVariables false
set_option linter.unusedSimpArgs false
def bl (b : ByteArray) : List UInt8 := b.data.toList
theorem bl_bin (a : List UInt8) : bl (bin a) = a := by unfold bl; simp [bin]
theorem bl_app (a b : ByteArray) : bl (a ++ b) = bl a ++ bl b := by unfold bl; rw [ByteArray.data_append, Array.toList_append]
theorem bl_inj {a b : ByteArray} (h : bl a = bl b) : a = b := by unfold bl at h; exact ByteArray.ext (Array.toList_inj.1 h)
def encL (n : Nat) : List UInt8 := bl (Utf8.encode (n : Int))
def rv (n : Nat) : Value := .int .i32 (n : Int)
theorem encL_pt (r : Nat) (hp : isPt r = true) : encL r = gbytes r := by
  unfold encL
  rw [encode_pt r hp, bl_bin]
theorem front_i3 (l X : List UInt8) (a b c : UInt8) (q r : Nat) (hl : lead a.toNat = (3, q)) (hf : follow [b, c] q = some r) (hp : isPt r = true) (hg : glen r = 3) : front (a :: b :: c :: X) = 3 := by
  rw [front_cons, hl]
  dsimp only
  rw [if_neg (by simp), show List.drop 1 (List.take 3 (a :: b :: c :: X)) = [b, c] from rfl, hf]
  dsimp only
  rw [hp, hg]
  simp
theorem front_bad (X : List UInt8) : front (gbytes 65533 ++ X) = 3 := by
  rw [show gbytes 65533 = [239, 191, 189] by decide +kernel]
  exact front_i3 [] X 239 191 189 15 65533 (by decide +kernel) (by decide +kernel) (by decide +kernel) (by decide +kernel)
theorem runes_out (s : ByteArray) : ∀ (bound i : Nat) (acc : Array Value), s.size ≤ i + bound →
    ∃ ns : List Nat, (Conv.runesFrom s bound i acc).toList = acc.toList ++ ns.map rv ∧ (ns.flatMap encL = s.data.toList.drop i ↔ valid (s.data.toList.drop i) = true)
  | 0, i, acc, h => by
    refine ⟨[], by simp [Conv.runesFrom], ?_⟩
    rw [List.drop_of_length_le (by rw [Array.length_toList]; exact h), valid_nil]
    simp
  | bound + 1, i, acc, h => by
    by_cases hi : i < s.size
    · obtain ⟨a, t, hat⟩ : ∃ a t, s.data.toList.drop i = a :: t := ⟨_, _, at_drop s i hi⟩
      have hstep : Conv.runesFrom s (bound + 1) i acc = Conv.runesFrom s bound (i + (decL (a :: t)).2) (acc.push (rv (decL (a :: t)).1)) := by
        rw [Conv.runesFrom, if_pos hi, decode_L, hat]; rfl
      rw [hstep]
      rcases same_any a t with ⟨hf, hd⟩ | ⟨r, hd, hp, hf, htk⟩
      · obtain ⟨ns, h1, h2⟩ := runes_out s bound (i + 1) (acc.push (rv 65533)) (by omega)
        refine ⟨65533 :: ns, by rw [hd, h1]; simp, ?_⟩
        have hv : valid (a :: t) = false := valid_bad (by simp) hf
        rw [hat, hv, List.flatMap_cons, encL_pt 65533 (by decide)]
        refine ⟨fun he => ?_, fun he => absurd he (by decide)⟩
        rw [← he, front_bad] at hf
        exact absurd hf (by decide)
      · have hlen : front (a :: t) ≤ (a :: t).length := front_le _
        obtain ⟨ns, h1, h2⟩ := runes_out s bound (i + front (a :: t)) (acc.push (rv r)) (by omega)
        refine ⟨r :: ns, by rw [hd, h1]; simp, ?_⟩
        have hdr : s.data.toList.drop (i + front (a :: t)) = (a :: t).drop (front (a :: t)) := by rw [← hat, List.drop_drop]
        rw [hdr] at h2
        rw [hat, valid_next (by simp) hf, ← h2, List.flatMap_cons, encL_pt r hp, ← htk]
        constructor
        · intro he
          have := he.trans (List.take_append_drop (front (a :: t)) (a :: t)).symm
          exact List.append_cancel_left this
        · intro he
          rw [he, List.take_append_drop]
    · refine ⟨[], by rw [Conv.runesFrom, if_neg hi]; simp, ?_⟩
      rw [List.drop_of_length_le (by rw [Array.length_toList]; exact Nat.not_lt.1 hi), valid_nil]
      simp
theorem fold_enc (ns : List Nat) : ∀ b : ByteArray, bl ((ns.map (fun n : Nat => (n : Int))).foldl (fun r n => r ++ Utf8.encode n) b) = bl b ++ ns.flatMap encL := by
  induction ns with
  | nil => intro b; simp
  | cons n ns ih =>
    intro b
    rw [List.map_cons, List.foldl_cons, ih, List.flatMap_cons, bl_app, List.append_assoc]
    unfold encL
    exact rfl
/-- A text's runes, in a row: as many, and their bytes. -/
theorem runes_all (s : ByteArray) : ∃ ns : List Nat, Conv.runesFrom s s.size 0 #[] = (ns.map rv).toArray ∧ (Conv.runesFrom s s.size 0 #[]).size = ns.length ∧ (runesBytes (ns.map (fun n : Nat => (n : Int))) = s ↔ valid s.data.toList = true) := by
  obtain ⟨ns, h1, h2⟩ := runes_out s s.size 0 #[] (by omega)
  rw [List.drop_zero] at h2
  have h3 : Conv.runesFrom s s.size 0 #[] = (ns.map rv).toArray := by
    apply Array.toList_inj.1; rw [h1]; simp
  refine ⟨ns, h3, by rw [h3]; simp, ?_⟩
  rw [← h2]
  have h4 := fold_enc ns ByteArray.empty
  rw [show bl ByteArray.empty = [] from rfl, List.nil_append] at h4
  unfold runesBytes
  constructor
  · intro h; rw [h] at h4; exact h4.symm
  · intro h
    rw [h] at h4
    exact bl_inj h4
end Gl
end Go.Proofs.Ytfcpicejifolmaa
