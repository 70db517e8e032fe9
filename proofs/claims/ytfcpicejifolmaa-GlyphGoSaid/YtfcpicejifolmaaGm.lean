/-
  Texts of code points, quoted and not, over plain lists. No condition.
-/
import Derived.Test.YtfcpicejifolmaaMem
namespace Go.Proofs.Ytfcpicejifolmaa
open Go.ChangeShapes Go.WideShapes Go.ChangeAt Go.RowKit
namespace Gl
open Mem
set_option linter.unusedVariables false
set_option linter.unusedSimpArgs false
def isPt (r : Nat) : Bool := decide (r ≤ 1114111) && !(decide (r / 2048 = 27))
def glen (r : Nat) : Nat := if r < 128 then 1 else if r < 2048 then 2 else if r < 65536 then 3 else 4
def tailB (r : Nat) : UInt8 := UInt8.ofNat (128 + r % 64)
/-- A code point's bytes. -/
def gbytes (r : Nat) : List UInt8 :=
  if r < 128 then [UInt8.ofNat r] else if r < 2048 then [UInt8.ofNat (192 + r / 64), tailB r] else if r < 65536 then [UInt8.ofNat (224 + r / 4096), tailB (r / 64), tailB r]
  else [UInt8.ofNat (240 + r / 262144), tailB (r / 4096), tailB (r / 64), tailB r]
def gput (r : Nat) : List UInt8 := gbytes (if isPt r then r else 65533)
/-- How many bytes a first byte asks for, and its bits. -/
def lead (c : Nat) : Nat × Nat := if c < 128 then (1, c) else if c / 32 = 6 then (2, c % 32) else if c / 16 = 14 then (3, c % 16) else if c / 8 = 30 then (4, c % 8) else (0, 0)
/-- The bits of those that follow. -/
def follow : List UInt8 → Nat → Option Nat
  | [], r => some r
  | c :: l, r => if c.toNat / 64 = 2 then follow l (r * 64 + c.toNat % 64) else none
def front (l : List UInt8) : Nat := match l with
  | [] => 0
  | c :: _ => if l.length < (lead c.toNat).1 then 0 else match follow ((l.take (lead c.toNat).1).drop 1) (lead c.toNat).2 with
    | none => 0
    | some r => if (lead c.toNat).1 = 0 ∨ isPt r = false ∨ glen r ≠ (lead c.toNat).1 then 0 else (lead c.toNat).1
theorem front_le (l : List UInt8) : front l ≤ l.length := by
  unfold front
  split
  · omega
  · split
    · omega
    · rename_i h
      split
      · omega
      · split <;> omega
def valid (l : List UInt8) : Bool := if h : l = [] then true else if h2 : front l = 0 then false else valid (l.drop (front l))
termination_by l.length
decreasing_by
  have : 0 < l.length := List.length_pos_iff.2 h
  rw [List.length_drop]; omega
def hexv (c : Nat) : Option Nat := if 48 ≤ c ∧ c ≤ 57 then some (c - 48) else if 97 ≤ c ∧ c ≤ 102 then some (c - 97 + 10) else if 65 ≤ c ∧ c ≤ 70 then some (c - 65 + 10) else none
def hexs : List UInt8 → Nat → Option Nat
  | [], u => some u
  | c :: l, u => match hexv c.toNat with
    | none => none
    | some d => hexs l (u * 16 + d)
def gunit : List UInt8 → Option Nat
  | a :: b :: c :: d :: e :: f :: _ => if a.toNat = 92 ∧ b.toNat = 117 then hexs [c, d, e, f] 0 else none
  | _ => none
def byteOf (c : Nat) : Option Nat := if c = 34 ∨ c = 92 ∨ c = 47 then some c else if c = 98 then some 8 else if c = 102 then some 12 else if c = 110 then some 10 else if c = 114 then some 13 else if c = 116 then some 9 else none
def esc (l : List UInt8) : Option (List UInt8 × Nat) := match l with
  | _ :: d :: _ => if d.toNat ≠ 117 then (byteOf d.toNat).map fun c => ([UInt8.ofNat c], 2) else match gunit l with
    | none => none
    | some hi => if isPt hi then some (gput hi, 6) else match gunit (l.drop 6) with
      | none => none
      | some lo => if hi / 1024 = 54 ∧ lo / 1024 = 55 then some (gput (65536 + hi % 1024 * 1024 + lo % 1024), 12) else none
  | _ => none
def uq (l : List UInt8) (acc : List UInt8) (n : Nat) : Option (List UInt8 × Nat) := match l with
  | [] => none
  | c :: r => if c.toNat = 34 then (if valid acc then some (acc, n + 1) else none) else if c.toNat < 32 then none else if c.toNat = 92 then (match esc (c :: r) with
      | none => none
      | some (p, k) => if k = 0 then none else uq ((c :: r).drop k) (acc ++ p) (n + k)) else uq r (acc ++ [c]) (n + 1)
termination_by l.length
decreasing_by
  · simp; omega
  · simp
def unq (l : List UInt8) : Option (List UInt8 × Nat) := match l with
  | c :: r => if c.toNat = 34 then uq r [] 1 else none
  | [] => none
def letterOf (c : Nat) : Nat := if c = 34 ∨ c = 92 then c else if c = 8 then 98 else if c = 12 then 102 else if c = 10 then 110 else if c = 13 then 114 else if c = 9 then 116 else 0
def hexd (d : Nat) : UInt8 := if d < 10 then UInt8.ofNat (48 + d) else UInt8.ofNat (87 + d)
def qbyte (c : UInt8) : List UInt8 := if letterOf c.toNat ≠ 0 then [92, UInt8.ofNat (letterOf c.toNat)] else if c.toNat < 32 then [92, 117, 48, 48, hexd (c.toNat / 16), hexd (c.toNat % 16)] else [c]
def quote (l : List UInt8) : List UInt8 := 34 :: (l.flatMap qbyte ++ [34])
end Gl
end Go.Proofs.Ytfcpicejifolmaa
