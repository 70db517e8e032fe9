/-
  What the functions do: contracts, and their questions answered. No condition but what its theorems ask.
-/
import Derived.Test.YtabfjgbidbibgaaT4
namespace Go.Proofs.Ytabfjgbidbibgaa.Wd
open Go.Proofs.Ytabfjgbidbibgaa.Eng Go.Proofs.Ytabfjgbidbibgaa.Sen Go.RowKit
set_option linter.defProp false
set_option linter.unusedVariables false
set_option linter.unusedSimpArgs false
set_option maxRecDepth 1000000
noncomputable section
noncomputable section
variable (x0 : GJ × ByteArray) (x1 : List AT) (x2 : Int) (x3 : Int) (x4 : GJ) (x5 : ByteArray) (x6 : Int) (x7 : Nat) (x8 : FlS) (x9 : List AT × Int × GJ × ByteArray × Bool) (x10 : Int) (x11 : Int) (x12 : ByteArray) (x13 : Option Addr) (x14 : Nat) (x15 : Option Addr) (x16 : Nat) (x17 : Nat) (x18 : Nat) (x19 : Int) (x20 : Nat × Int) (x21 : GJ × ByteArray) (x22 : List AT × Int × GJ × ByteArray) (x23 : Option Addr) (x24 : Nat) (x25 : TmB) (x26 : Prop) (x27 : Nat → Option Obj) (x28 : FdB) (x29 : Bool) (x30 : Nat × Int)
 abbrev zbr32 := (if x28.2.1 = 0 then fldS x1 x2 x28.2.2.1 x28.2.2.2 else x1) ++ x28.1
 abbrev zbr16 := x2 = 0 ∧ (∀ (i0 : AT), i0 ∈ x28.1 → goodT (List.length (x1 ++ x28.1)) i0) ∧ (∀ (i1 : AF), i1 ∈ x28.2.2.2 → (0 ≤ AF.ty i1 ∧ AF.ty i1 < (↑(List.length (x1 ++ x28.1)) : Int)) ∧ GJ.wf (AF.df i1)) ∧ List.length x28.2.2.2 ≤ 30
 abbrev zbr38 := (List.length (x1 ++ x28.1) ≤ 60 ∧ (x28.2.1 = 0 → zbr16 x1 x2 x28))
 abbrev zbr28 := (∀ (i0 : AT), i0 ∈ x28.1 → AT.ok i0 x27) ∧ slP AF.cells x28.2.2.1 x28.2.2.2 x27 ∧ ∀ (i1 : AF), i1 ∈ x28.2.2.2 → AF.ok i1 x27
 abbrev zbr21 := ∃ (i0 : List AT), x6 = x6 ∧ List.length i0 = List.length x1 ∧ x2 = x2 ∧ rowsV AT.cells i0 = rowsV AT.cells x1 ∧ True ∧ ∃ (i1 : FdB), List.length (zbr32 x1 x3 i1) = List.length i0 ∧ i1.2.1 = faE x2 x6 ∧ rowsV AT.cells (zbr32 x1 x3 i1) = rowsV AT.cells i0 ∧ zbr38 x1 x2 i1 ∧ (∀ (i2 : Pub), True ∧ GJ.ok x4 i2 → zbr28 i2 i1) ∧ True
 abbrev zbr25 := Option.getD (getK x0.2 x0.1) zJ
 abbrev zbr41 := (↑(GJ.y (zbr25 x0)).2.1 : Int)
 abbrev zbr26 := GJ.k x4 = GJ.k x4 ∧ GJ.n x4 = GJ.n x4 ∧ GJ.s x4 = GJ.s x4 ∧ (GJ.y x4).1 = (GJ.y x4).1 ∧ (GJ.y x4).2.1 = (GJ.y x4).2.1 ∧ (GJ.y x4).2.2 = (GJ.y x4).2.2 ∧ (GJ.x x4).1 = (GJ.x x4).1 ∧ (GJ.x x4).2.1 = (GJ.x x4).2.1 ∧ (GJ.x x4).2.2 = (GJ.x x4).2.2 ∧ x26
 abbrev zbr10 := GJ.k (zbr25 x0) = GJ.k (zbr25 x0) ∧ GJ.n (zbr25 x0) = GJ.n (zbr25 x0) ∧ GJ.s (zbr25 x0) = GJ.s (zbr25 x0) ∧ (GJ.y (zbr25 x0)).1 = (GJ.y (zbr25 x0)).1 ∧ (GJ.y (zbr25 x0)).2.1 = (GJ.y (zbr25 x0)).2.1 ∧ (GJ.y (zbr25 x0)).2.2 = (GJ.y (zbr25 x0)).2.2 ∧ (GJ.x (zbr25 x0)).1 = (GJ.x (zbr25 x0)).1 ∧ (GJ.x (zbr25 x0)).2.1 = (GJ.x (zbr25 x0)).2.1 ∧ (GJ.x (zbr25 x0)).2.2 = (GJ.x (zbr25 x0)).2.2 ∧ x26
 abbrev zbr34 := (∀ (i0 : AT), i0 ∈ x8.2.2.1 → AT.ok i0 x27) ∧ ∀ (i1 : AF), i1 ∈ x8.2.2.2 → AF.ok i1 x27
 abbrev zbr15 := (True ∧ GJ.ok x4 x27) ∧ zbr34 x8 x27
 abbrev zbr27 := woR x9.2.2.1 x9.2.2.2.1 x9.2.2.2.2 x9.2.1
 abbrev zbr45 := (zbr27 x9).2 = 0
 abbrev zbr43 := List.length x8.2.2.2 = List.length x8.2.2.2
 abbrev zbr30 := (↑x8.1 : Int) = (↑x8.1 : Int) ∧ x2 = x2 ∧ x3 = x3 ∧ zbr43 x8 ∧ x26
 abbrev zbr50 := List.length x9.1 = List.length x9.1
 abbrev zbr44 := rowsV AT.cells x9.1 = rowsV AT.cells x9.1
 abbrev zbr37 := zbr50 x9 ∧ (zbr27 x9).2 = (zbr27 x9).2 ∧ zbr44 x9 ∧ x26
 abbrev zbr14 := x2 = x2 ∧ x3 = x3 ∧ x5 = x5 ∧ x13 = x13 ∧ x7 = x7 ∧ x14 = x14 ∧ x15 = x15 ∧ x16 = x16 ∧ x17 = x17 ∧ rowsV AF.cells x8.2.2.2 = rowsV AF.cells x8.2.2.2 ∧ zbr26 x4 ((zbr27 x9).1 = (zbr27 x9).1 ∧ x26)
 abbrev zbr33 := (∀ (i0 : Pub), (zbr15 x4 x8 i0) → zbr15 x4 x8 i0)
 abbrev zbr42 := (zbr27 x9).1 = (zbr27 x9).1 ∧ ByteArray.size (zbr27 x9).1 < 1000000 ∧ ∃ (i0 : Bool), x5 = x5 ∧ zbr30 x2 x3 x8 (i0 = !partF (zbr27 x9).1 ∧ zbr37 x9 (zbr14 x6 x10 x4 x12 x7 x8 x9 x13 x14 x15 x16 x17 (zbr10 x0 (zbr33 x4 x8 ∧ True ∧ True))))
 abbrev zbr20 := (x29 = true → ∃ (i0 : List AT), (6 : Int) = 6 ∧ List.length i0 = List.length x9.1 ∧ (zbr27 x9).2 = (zbr27 x9).2 ∧ rowsV AT.cells i0 = rowsV AT.cells x9.1 ∧ True ∧ x5 = x5 ∧ zbr30 x2 x3 x8 (List.length x9.1 = List.length i0 ∧ faE (zbr27 x9).2 (6 : Int) = faE (zbr27 x9).2 6 ∧ rowsV AT.cells x9.1 = rowsV AT.cells i0 ∧ zbr14 x6 x10 x4 x12 x7 x8 x9 x13 x14 x15 x16 x17 (zbr10 x0 (zbr33 x4 x8 ∧ (faE (zbr27 x9).2 (6 : Int) = 0 → zbr45 x9) ∧ True)))) ∧ (x29 = false → x5 = x5 ∧ zbr30 x2 x3 x8 (zbr37 x9 (zbr14 x6 x10 x4 x12 x7 x8 x9 x13 x14 x15 x16 x17 (zbr10 x0 (zbr33 x4 x8 ∧ ((zbr27 x9).2 = 0 → zbr45 x9) ∧ True)))))
 abbrev zbr49 := x20.2 = 0 → x2 = 0
 abbrev zbr46 := x2 = x2 ∧ List.length x1 = List.length x9.1 ∧ x20.2 = x20.2 ∧ rowsV AT.cells x1 = rowsV AT.cells x9.1 ∧ True ∧ x26
 abbrev zbr36 := ((-9223372036854775808 : Int) ≤ (↑x20.1 : Int) + 1 ∧ (↑x20.1 : Int) + 1 ≤ 9223372036854775807)
 abbrev zbr51 := (↑x20.1 : Int) = (↑x30.1 : Int) + 1
 abbrev zbr31 := zbr36 x20 ∧ ∃ (i0 : Nat × Int), x5 = x5 ∧ (↑x8.1 : Int) = (↑x8.1 : Int) ∧ x2 = x2 ∧ x3 = x3 ∧ zbr51 i0 x20 ∧ zbr43 x8 ∧ zbr50 x9 ∧ i0.2 = x20.2 ∧ zbr44 x9 ∧ zbr14 x6 x10 x4 x12 x7 x8 x9 x13 x14 x15 x16 x17 (zbr10 x0 (zbr33 x4 x8 ∧ (zbr49 x11 i0) ∧ (100 : Nat) - i0.1 < 100 - x20.1 ∧ True))
 abbrev zbr19 := (0 ≤ (↑x20.1 : Int) ∧ (↑x20.1 : Int) < (↑(List.length x8.2.2.2) : Int)) ∧ ∃ (i0 : ByteArray), (∀ (i1 : Nat) (i2 : Value), [Value.string i0][i1]? = some i2 → (rowsV AF.cells x8.2.2.2)[nat_lit 0 + Int.toNat (↑x20.1 : Int) * nat_lit 9 + 0 + i1]? = some i2) ∧ (decide (i0 = (zbr27 x9).1) = true → ∃ (i3 : List AT), zbr46 i3 5 x9 x20 (zbr36 x20 ∧ ∃ (i4 : Nat × Int), x5 = x5 ∧ (↑x8.1 : Int) = (↑x8.1 : Int) ∧ x2 = x2 ∧ x3 = x3 ∧ zbr51 i4 x20 ∧ zbr43 x8 ∧ List.length x9.1 = List.length i3 ∧ i4.2 = faE x20.2 5 ∧ rowsV AT.cells x9.1 = rowsV AT.cells i3 ∧ zbr14 x6 x10 x4 x12 x7 x8 x9 x13 x14 x15 x16 x17 (zbr10 x0 (zbr33 x4 x8 ∧ (zbr49 x11 i4) ∧ (100 : Nat) - i4.1 < 100 - x20.1 ∧ True)))) ∧ (decide (i0 = (zbr27 x9).1) = false → zbr31 x0 x2 x3 x4 x5 x6 x7 x8 x9 x10 x11 x12 x13 x14 x15 x16 x17 x20)
 abbrev zbr39 := GJ.k x0.1 = x2 ∧ GJ.n x0.1 = x3 ∧ GJ.s x0.1 = x5 ∧ (GJ.y x0.1).1 = x13 ∧ (GJ.y x0.1).2.1 = x7 ∧ (GJ.y x0.1).2.2 = x14 ∧ (GJ.x x0.1).1 = x15 ∧ (GJ.x x0.1).2.1 = x16 ∧ (GJ.x x0.1).2.2 = x17 ∧ x26
 abbrev zbr48 := (zbr15 x4 x8 x27) ∧ ∀ (i0 : AT), i0 ∈ x25.1 → AT.ok i0 x27
 abbrev zbr23 := (zbr48 x4 x8 x25 x27) ∧ slP txV (x13, x7, x14) (txsF x22.2.2.1 x22.2.2.2 x22.2.1).1 x27
 abbrev zbr40 := x20.2 = 0 → (txsF x22.2.2.1 x22.2.2.2 x22.2.1).2.2 = 0
 abbrev zbr35 := x13 = x13 ∧ x7 = x7 ∧ x14 = x14 ∧ x25.2.2 = x25.2.2 ∧ Option.isSome (getK x0.2 x0.1) = Option.isSome (getK x0.2 x0.1) ∧ zbr10 x0 (zbr10 x21 ((∀ (i0 : Pub), zbr23 x4 x7 x8 x13 x14 x22 x25 i0 → zbr23 x4 x7 x8 x13 x14 x22 x25 i0) ∧ (zbr40 x20 x22) ∧ (2000 : Nat) - x20.1 < 2000 - x30.1 ∧ True))
 abbrev zbr29 := zbr36 x20 ∧ ∃ (i0 : Nat × Int), x5 = x5 ∧ zbr51 i0 x20 ∧ zbr30 x2 x3 x8 (List.length x22.1 = List.length x22.1 ∧ i0.2 = x20.2 ∧ rowsV AT.cells x22.1 = rowsV AT.cells x22.1 ∧ zbr14 x6 x10 x4 x12 x7 x8 x9 x13 x14 x15 x16 x17 (zbr35 x0 x4 x18 x8 x23 x24 i0 x21 x22 x25 x20))
 abbrev zbr18 := (0 ≤ (↑x20.1 : Int) ∧ (↑x20.1 : Int) < (↑x7 : Int)) ∧ x13 ≠ noA ∧ ∃ (i0 : ByteArray), (∀ (i1 : Pub), zbr23 x4 x7 x8 x13 x14 x22 x25 i1 → cellsP i1 (adr x13 (Int.toNat (↑x20.1 : Int) * 1)) [Value.string i0]) ∧ i0 = i0 ∧ ByteArray.size i0 < 1000000 ∧ ((!partF i0) = true → ∃ (i3 : List AT), (6 : Int) = 6 ∧ List.length i3 = List.length x22.1 ∧ x20.2 = x20.2 ∧ rowsV AT.cells i3 = rowsV AT.cells x22.1 ∧ True ∧ zbr36 x20 ∧ ∃ (i4 : Nat × Int), x5 = x5 ∧ zbr51 i4 x20 ∧ zbr30 x2 x3 x8 (List.length x22.1 = List.length i3 ∧ i4.2 = faE x20.2 6 ∧ rowsV AT.cells x22.1 = rowsV AT.cells i3 ∧ zbr14 x6 x10 x4 x12 x16 x8 x9 x15 x17 x23 x18 x24 (zbr35 x0 x4 x7 x8 x13 x14 i4 x21 x22 x25 x20))) ∧ ((!partF i0) = false → zbr29 x0 x2 x3 x4 x5 x6 x16 x8 x9 x10 x12 x15 x17 x23 x18 x24 x7 x20 x21 x22 x13 x14 x25)
 abbrev zbr13 := List.length (rowsV AF.cells x8.2.2.2) = List.length x8.2.2.2 * 9 ∧ (List.length x8.2.2.2 + nat_lit 1) * 136 ≤ 140737488355328 ∧ ((-9223372036854775808 : Int) ≤ (↑x8.1 : Int) + 1 ∧ (↑x8.1 : Int) + 1 ≤ 9223372036854775807) ∧ ∃ (i0 : FlS), x5 = x5 ∧ (↑i0.1 : Int) = (↑x8.1 : Int) + 1 ∧ x2 = x2 ∧ x3 = x3 ∧ List.length i0.2.2.2 = List.length x8.2.2.2 + nat_lit 1 ∧ List.length (x1 ++ i0.2.2.1) = List.length x22.1 ∧ i0.2.1 = x20.2 ∧ rowsV AT.cells (x1 ++ i0.2.2.1) = rowsV AT.cells x22.1 ∧ rowsV AF.cells i0.2.2.2 = rowsV AF.cells x8.2.2.2 ++ [Value.string (zbr27 x9).1, Value.slice x13 x7 x14, Value.int IntKind.i64 x25.2.2, Value.bool (Option.isSome (getK x0.2 x0.1)), Value.int IntKind.i64 (GJ.k (zbr25 x0)), Value.int IntKind.i64 (GJ.n (zbr25 x0)), Value.string (GJ.s (zbr25 x0)), Value.slice (GJ.y (zbr25 x0)).1 (GJ.y (zbr25 x0)).2.1 (GJ.y (zbr25 x0)).2.2, Value.slice (GJ.x (zbr25 x0)).1 (GJ.x (zbr25 x0)).2.1 (GJ.x (zbr25 x0)).2.2] ∧ zbr26 x4 (zbr10 x21 ((∀ (i1 : Pub), zbr23 x4 x7 x8 x13 x14 x22 x25 i1 → True ∧ GJ.ok x4 i1) ∧ (∀ (i5 : Pub), zbr23 x4 x7 x8 x13 x14 x22 x25 i5 → zbr34 i0 i5) ∧ fdInv x1 x6 x4 i0 ∧ List.length (GJ.l (fdJ x4)) - i0.1 < List.length (GJ.l (fdJ x4)) - x8.1 ∧ True))
 abbrev zbr17 := (decide (x20.2 = 0) = true → zbr18 x0 x2 x3 x4 x5 x6 x7 x8 x9 x10 x12 x13 x14 x15 x16 x17 x18 x20 x21 x22 x23 x24 x25) ∧ (decide (x20.2 = 0) = false → zbr13 x0 x1 x2 x3 x4 x5 x11 x7 x8 x9 x13 x14 x20 x21 x22 x25)
 abbrev zbr11 := (decide ((↑x20.1 : Int) < (↑x7 : Int)) = true → zbr17 x0 x1 x2 x3 x4 x5 x6 x7 x8 x9 x10 x11 x12 x13 x14 x15 x16 x17 x18 x20 x21 x22 x23 x24 x25) ∧ (decide ((↑x20.1 : Int) < (↑x7 : Int)) = false → zbr13 x0 x1 x2 x3 x4 x5 x11 x7 x8 x9 x13 x14 x20 x21 x22 x25)
 abbrev zbr9 := (∃ (i0 : Nat × Int), x5 = x5 ∧ (↑i0.1 : Int) = 0 ∧ zbr30 x2 x3 x8 (List.length x22.1 = List.length x22.1 ∧ i0.2 = (txsF x22.2.2.1 x22.2.2.2 x22.2.1).2.2 ∧ rowsV AT.cells x22.1 = rowsV AT.cells x22.1 ∧ zbr14 x6 x10 x4 x12 x7 x8 x9 x13 x14 x15 x16 x17 (x23 = x23 ∧ x18 = x18 ∧ x24 = x24 ∧ x25.2.2 = x25.2.2 ∧ Option.isSome (getK x0.2 x0.1) = Option.isSome (getK x0.2 x0.1) ∧ zbr10 x0 (zbr10 x21 ((∀ (i1 : Pub), zbr23 x4 x18 x8 x23 x24 x22 x25 i1 → zbr23 x4 x18 x8 x23 x24 x22 x25 i1) ∧ (zbr40 i0 x22) ∧ True))))) ∧ ∀ (i8 : Nat × Int), (zbr40 i8 x22) → zbr11 x0 x1 x2 x3 x4 x5 x6 x18 x8 x9 x10 x11 x12 x23 x24 x13 x7 x14 x16 i8 x21 x22 x15 x17 x25
 abbrev zbr8 := ((-9223372036854775808 : Int) ≤ x2 + 1 ∧ x2 + 1 ≤ 9223372036854775807) ∧ ∃ (i0 : TmS), GJ.k i0.2.2.1 = GJ.k (zbr25 x0) ∧ GJ.n i0.2.2.1 = GJ.n (zbr25 x0) ∧ GJ.s i0.2.2.1 = GJ.s (zbr25 x0) ∧ (GJ.y i0.2.2.1).1 = (GJ.y (zbr25 x0)).1 ∧ (GJ.y i0.2.2.1).2.1 = (GJ.y (zbr25 x0)).2.1 ∧ (GJ.y i0.2.2.1).2.2 = (GJ.y (zbr25 x0)).2.2 ∧ (GJ.x i0.2.2.1).1 = (GJ.x (zbr25 x0)).1 ∧ (GJ.x i0.2.2.1).2.1 = (GJ.x (zbr25 x0)).2.1 ∧ (GJ.x i0.2.2.1).2.2 = (GJ.x (zbr25 x0)).2.2 ∧ i0.2.2.2.1 = x5 ∧ i0.2.2.2.2 = x2 + 1 ∧ List.length i0.1 = List.length x9.1 ∧ i0.2.1 = x3 ∧ rowsV AT.cells i0.1 = rowsV AT.cells x9.1 ∧ (muTm i0 < x7 ∧ tmPre i0) ∧ (∀ (i1 : Pub), (zbr15 x4 x8 i1) → GJ.ok i0.2.2.1 i1) ∧ ∀ (i4 : TmB), tmPost i0 i4 → (∃ (i5 : Pub), zbr48 x4 x8 i4 i5) → ∃ (i9 : GJ × ByteArray), zbr39 i9 x6 x10 x12 x14 x13 x16 x15 x17 x18 (i9.2 = mkS [100, 101, 102, 97, 117, 108, 116] ∧ GJ.wf i9.1 ∧ (∀ (i10 : Pub), (zbr48 x4 x8 i4 i10) → GJ.ok i9.1 i10) ∧ ∃ (i14 : List AT × Int × GJ × ByteArray), GJ.k i14.2.2.1 = x6 ∧ GJ.n i14.2.2.1 = x10 ∧ GJ.s i14.2.2.1 = x12 ∧ (GJ.y i14.2.2.1).1 = x13 ∧ (GJ.y i14.2.2.1).2.1 = x14 ∧ (GJ.y i14.2.2.1).2.2 = x16 ∧ (GJ.x i14.2.2.1).1 = x15 ∧ (GJ.x i14.2.2.1).2.1 = x17 ∧ (GJ.x i14.2.2.1).2.2 = x18 ∧ i14.2.2.2 = mkS [97, 108, 105, 97, 115, 101, 115] ∧ List.length i14.1 = List.length (i0.1 ++ i4.1) ∧ i14.2.1 = i4.2.1 ∧ rowsV AT.cells i14.1 = rowsV AT.cells (i0.1 ++ i4.1) ∧ GJ.wf i14.2.2.1 ∧ (∀ (i15 : Pub), (zbr48 x4 x8 i4 i15) → GJ.ok i14.2.2.1 i15) ∧ ∀ (i19 : Unit), True → ∀ (i20 : Option Addr) (i21 i22 : Nat), (∃ (i23 : Pub), zbr23 x4 i21 x8 i20 i22 i14 i4 i23) → zbr9 i9 x1 x11 x2 x4 x5 x6 x14 x8 x9 x10 x19 x12 x13 x16 x15 x17 x18 i21 x21 i14 i20 i22 i4)
 abbrev zbr7 := (decide ((↑x20.1 : Int) < (↑(List.length x8.2.2.2) : Int)) = true → zbr19 x0 x2 x3 x4 x5 x6 x7 x8 x9 x10 x11 x12 x13 x14 x15 x16 x17 x20) ∧ (decide ((↑x20.1 : Int) < (↑(List.length x8.2.2.2) : Int)) = false → ∃ (i16 : GJ × ByteArray), zbr39 i16 x6 x10 x12 x7 x13 x14 x15 x16 x17 (i16.2 = mkS [116, 121, 112, 101] ∧ GJ.wf i16.1 ∧ (∀ (i17 : Pub), (zbr15 x4 x8 i17) → GJ.ok i16.1 i17) ∧ (((!Option.isSome (getK i16.2 i16.1)) = true → ∃ (i20 : List AT), zbr46 i20 2 x9 x20 (x5 = x5 ∧ zbr30 x2 x3 x8 (List.length x9.1 = List.length i20 ∧ faE x20.2 (2 : Int) = faE x20.2 2 ∧ rowsV AT.cells x9.1 = rowsV AT.cells i20 ∧ zbr14 x6 x10 x4 x12 x7 x8 x9 x13 x14 x15 x16 x17 (zbr10 x0 (zbr10 i16 (zbr33 x4 x8 ∧ (faE x20.2 (2 : Int) = 0 → x20.2 = 0) ∧ True)))))) ∧ ((!Option.isSome (getK i16.2 i16.1)) = false → x5 = x5 ∧ zbr30 x2 x3 x8 (zbr50 x9 ∧ x20.2 = x20.2 ∧ zbr44 x9 ∧ zbr14 x6 x10 x4 x12 x7 x8 x9 x13 x14 x15 x16 x17 (zbr10 x0 (zbr10 i16 (zbr33 x4 x8 ∧ (x20.2 = 0 → x20.2 = 0) ∧ True)))))) ∧ ∀ (i31 : Int), (i31 = 0 → x20.2 = 0) → zbr8 i16 x1 x3 i31 x4 x5 x6 x18 x8 x9 x10 x2 x12 x13 x7 x15 x14 x16 x17 x19 x0))
 abbrev zbr6 := (∃ (i0 : Nat × Int), x5 = x5 ∧ (↑x8.1 : Int) = (↑x8.1 : Int) ∧ x2 = x2 ∧ x3 = x3 ∧ (↑i0.1 : Int) = 0 ∧ zbr43 x8 ∧ zbr50 x9 ∧ i0.2 = x6 ∧ zbr44 x9 ∧ zbr14 x10 x11 x4 x12 x7 x8 x9 x13 x14 x15 x16 x17 (zbr10 x0 (zbr33 x4 x8 ∧ (zbr49 x6 i0) ∧ True))) ∧ ∀ (i6 : Nat × Int), (zbr49 x6 i6) → zbr7 x0 x1 x2 x3 x4 x5 x10 x7 x8 x9 x11 x6 x12 x13 x14 x15 x16 x17 x18 x19 i6
 abbrev zbr5 := (0 ≤ (↑x8.1 : Int) ∧ (↑x8.1 : Int) < (zbr41 x0)) ∧ (GJ.y (zbr25 x0)).1 ≠ noA ∧ ∃ (i0 : Int), ∃ (i1 : Int), ∃ (i2 : ByteArray), ∃ (i3 : Option Addr), ∃ (i4 : Nat), ∃ (i5 : Nat), ∃ (i6 : Option Addr), ∃ (i7 : Nat), ∃ (i8 : Nat), (∀ (i9 : Pub), (zbr15 x4 x8 i9) → cellsP i9 (adr (GJ.y (zbr25 x0)).1 (Int.toNat (↑x8.1 : Int) * 5)) [Value.int IntKind.i64 i0, Value.int IntKind.i64 i1, Value.string i2, Value.slice i3 i4 i5, Value.slice i6 i7 i8]) ∧ ((!decide (i0 = 6)) = true → ∃ (i12 : List AT), (2 : Int) = 2 ∧ List.length i12 = List.length (x1 ++ x8.2.2.1) ∧ x8.2.1 = x8.2.1 ∧ rowsV AT.cells i12 = rowsV AT.cells (x1 ++ x8.2.2.1) ∧ True ∧ ∃ (i13 : FdB), List.length (zbr32 x1 x2 i13) = List.length i12 ∧ i13.2.1 = faE x8.2.1 2 ∧ rowsV AT.cells (zbr32 x1 x2 i13) = rowsV AT.cells i12 ∧ zbr38 x1 x3 i13 ∧ (∀ (i16 : Pub), (zbr15 x4 x8 i16) → zbr28 i16 i13) ∧ True) ∧ ((!decide (i0 = 6)) = false → ∃ (i21 : List AT × Int × GJ × ByteArray × Bool), GJ.k i21.2.2.1 = i0 ∧ GJ.n i21.2.2.1 = i1 ∧ GJ.s i21.2.2.1 = i2 ∧ (GJ.y i21.2.2.1).1 = i3 ∧ (GJ.y i21.2.2.1).2.1 = i4 ∧ (GJ.y i21.2.2.1).2.2 = i5 ∧ (GJ.x i21.2.2.1).1 = i6 ∧ (GJ.x i21.2.2.1).2.1 = i7 ∧ (GJ.x i21.2.2.1).2.2 = i8 ∧ i21.2.2.2.1 = mkS [110, 97, 109, 101] ∧ i21.2.2.2.2 = true ∧ List.length i21.1 = List.length (x1 ++ x8.2.2.1) ∧ i21.2.1 = x8.2.1 ∧ rowsV AT.cells i21.1 = rowsV AT.cells (x1 ++ x8.2.2.1) ∧ GJ.wf i21.2.2.1 ∧ (∀ (i22 : Pub), (zbr15 x4 x8 i22) → GJ.ok i21.2.2.1 i22) ∧ (((decide (zbr45 i21) = true → zbr42 x0 x2 x6 x4 x5 i0 i4 x8 i21 i1 i2 i3 i5 i6 i7 i8) ∧ (decide (zbr45 i21) = false → ∃ (i31 : Bool), x5 = x5 ∧ zbr30 x2 x6 x8 (i31 = false ∧ zbr37 i21 (zbr14 i0 i1 x4 i2 i4 x8 i21 i3 i5 i6 i7 i8 (zbr10 x0 (zbr33 x4 x8 ∧ True ∧ True)))))) ∧ ∀ (i37 : Bool), True → zbr20 x0 x2 x6 x4 x5 i0 i4 x8 i21 i1 i2 i3 i5 i6 i7 i8 i37) ∧ ∀ (i49 : Int), (i49 = 0 → zbr45 i21) → zbr6 x0 x1 x2 x6 x4 x5 i49 i4 x8 i21 i0 i1 i2 i3 i5 i6 i7 i8 x7 x3)
 abbrev zbr47 := (zbr15 x4 x8 x27) ∧ List.length x8.2.2.2 ≤ x7 ∧ rowP x27 x13 (List.take (List.length x8.2.2.2 * nat_lit 9) (rowsV AF.cells x8.2.2.2))
 abbrev zbr24 := nat_lit 0 + Int.toNat x2 * nat_lit 10 + 8 + List.length [Value.slice x13 (List.length x8.2.2.2) x7] ≤ List.length (rowsV AT.cells (x1 ++ x8.2.2.1)) ∧ ∃ (i0 : FdB), List.length (zbr32 x1 x2 i0) = List.length (x1 ++ x8.2.2.1) ∧ i0.2.1 = x8.2.1 ∧ rowsV AT.cells (zbr32 x1 x2 i0) = spl (rowsV AT.cells (x1 ++ x8.2.2.1)) (nat_lit 0 + Int.toNat x2 * nat_lit 10 + 8) [Value.slice x13 (List.length x8.2.2.2) x7] ∧ zbr38 x1 x3 i0 ∧ (∀ (i1 : Pub), zbr47 x4 x7 x8 x13 i1 → zbr28 i1 i0) ∧ True
 abbrev zbr22 := (0 ≤ x2 ∧ x2 < (↑(List.length (x1 ++ x8.2.2.1)) : Int)) ∧ ∀ (i0 i1 i2 : Nat) (i3 : Option Addr) (i4 i5 : Nat), (∃ (i6 : Pub), zbr47 x4 i5 x8 i3 i6) → zbr24 x1 x2 x3 x4 i5 x8 i3
 abbrev zbr12 := (decide (x8.2.1 = 0) = true → zbr22 x1 x2 x3 x4 x8) ∧ (decide (x8.2.1 = 0) = false → ∃ (i17 : FdB), List.length (zbr32 x1 x2 i17) = List.length (x1 ++ x8.2.2.1) ∧ i17.2.1 = x8.2.1 ∧ rowsV AT.cells (zbr32 x1 x2 i17) = rowsV AT.cells (x1 ++ x8.2.2.1) ∧ zbr38 x1 x3 i17 ∧ (∀ (i20 : Pub), (zbr15 x4 x8 i20) → zbr28 i20 i17) ∧ True)
 abbrev zbr4 := (decide (x8.2.1 = 0) = true → zbr5 x0 x1 x2 x3 x4 x5 x6 x7 x8) ∧ (decide (x8.2.1 = 0) = false → zbr12 x1 x2 x3 x4 x8)
 abbrev zbr3 := (decide ((↑x8.1 : Int) < (zbr41 x0)) = true → zbr4 x0 x1 x2 x3 x4 x5 x6 x7 x8) ∧ (decide ((↑x8.1 : Int) < (zbr41 x0)) = false → zbr12 x1 x2 x3 x4 x8)
 abbrev zbr2 := (∃ (i0 : FlS), x5 = x5 ∧ (↑i0.1 : Int) = 0 ∧ x2 = x2 ∧ x3 = x3 ∧ List.length i0.2.2.2 = 0 ∧ List.length (x1 ++ i0.2.2.1) = List.length x1 ∧ i0.2.1 = x6 ∧ rowsV AT.cells (x1 ++ i0.2.2.1) = rowsV AT.cells x1 ∧ zbr26 x4 (zbr10 x0 ((∀ (i1 : Pub), True ∧ GJ.ok x4 i1 → True ∧ GJ.ok x4 i1) ∧ (∀ (i2 : Pub), True ∧ GJ.ok x4 i2 → zbr34 i0 i2) ∧ fdInv x1 x6 x4 i0 ∧ True))) ∧ ∀ (i5 : FlS), fdInv x1 x6 x4 i5 → (∃ (i6 : Pub), zbr15 x4 i5 i6) → zbr3 x0 x1 x2 x6 x4 x5 x3 x7 i5
 abbrev zbr1 := (decide (30 < (zbr41 x0)) = true → zbr21 x1 x2 x3 x4 3) ∧ (decide (30 < (zbr41 x0)) = false → zbr2 x0 x1 x3 x6 x4 x5 x2 x7)
 abbrev zbr0 := ((!decide (GJ.k (zbr25 x0) = 5)) = true → zbr21 x1 x2 x3 x4 2) ∧ ((!decide (GJ.k (zbr25 x0) = 5)) = false → zbr1 x0 x1 x2 x3 x4 x5 x6 x7)
end
theorem fieldsM_eqz (n : Nat) (S : List AT) (e : Int) (g : GJ) (i : Int) (sp : ByteArray) (d : Int) : askR P (ctTab [(68, cGet6), (96, cWordM), (123, cPart), (99, cTexts), (65, cFailM)]) (rlTab [(45, cTreeM.below muTm n)]) Try.f100 (cFieldsM.below muFd (n + 1)) (wFieldsM) ⟨S, e, g, i, sp, d⟩ = (muFd (S, e, g, i, sp, d) < n + 1 ∧ List.length S ≤ 60 ∧ GJ.wf g ∧ 0 ≤ i ∧ (e = 0 → i < (↑(List.length S) : Int)) ∧ 1 ≤ d ∧ d ≤ 20 ∧ (↑(ByteArray.size sp) : Int) ≤ 1100 * (d + 1) → (∃ (p : Pub), True ∧ GJ.ok g p) → ∃ (s : GJ × ByteArray), GJ.k s.1 = GJ.k g ∧ GJ.n s.1 = GJ.n g ∧ GJ.s s.1 = GJ.s g ∧ (GJ.y s.1).1 = (GJ.y g).1 ∧ (GJ.y s.1).2.1 = (GJ.y g).2.1 ∧ (GJ.y s.1).2.2 = (GJ.y g).2.2 ∧ (GJ.x s.1).1 = (GJ.x g).1 ∧ (GJ.x s.1).2.1 = (GJ.x g).2.1 ∧ (GJ.x s.1).2.2 = (GJ.x g).2.2 ∧ s.2 = mkS [102, 105, 101, 108, 100, 115] ∧ GJ.wf s.1 ∧ (∀ (p : Pub), True ∧ GJ.ok g p → GJ.ok s.1 p) ∧ ((!Option.isSome (getK s.2 s.1)) = true → zbr21 S e i g 2) ∧ ((!Option.isSome (getK s.2 s.1)) = false → zbr0 s S e i g sp d n)) := by kernel_rfl
def fieldsM_eq (n : Nat) (S : List AT) (e : Int) (g : GJ) (i : Int) (sp : ByteArray) (d : Int) := Eq.trans (fieldsM_eqz n S e g i sp d) (by delta zbr32 zbr16 zbr38 zbr28 zbr21 zbr25 zbr41 zbr26 zbr10 zbr34 zbr15 zbr27 zbr45 zbr43 zbr30 zbr50 zbr44 zbr37 zbr14 zbr33 zbr42 zbr20 zbr49 zbr46 zbr36 zbr51 zbr31 zbr19 zbr39 zbr48 zbr23 zbr40 zbr35 zbr29 zbr18 zbr13 zbr17 zbr11 zbr9 zbr8 zbr7 zbr6 zbr5 zbr47 zbr24 zbr22 zbr12 zbr4 zbr3 zbr2 zbr1 zbr0; exact rfl)
theorem fld_rows (S : List AT) (k : Nat) (hk : k < S.length) (x : SV) (l : List AF) (B : List AT) : rowsV AT.cells (S.set k { S[k] with f := x, fs := l } ++ B) = spl (rowsV AT.cells (S ++ B)) (0 + k * 10 + 8) [svV x] := by
  rw [rows_app, rows_app, rows_mid S k hk]
  conv => rhs; rw [rows_self S k hk]
  rw [Nat.zero_add, ← take_rows S k hk]
  generalize rowsV AT.cells (S.take k) = A
  generalize rowsV AT.cells (S.drop (k + 1)) = C
  generalize rowsV AT.cells B = D
  show _ = ((A ++ ((S[k]).cells ++ C)) ++ D).set (A.length + 8) (svV x)
  rw [List.append_assoc A (S[k].cells ++ C) D, set_mid, List.append_assoc A]
  rfl
theorem af_sub {l : List AF} {i : Nat} (h : i < l.length) : ∀ (j : Nat) (v : Value), [Value.string l[i].nm][j]? = some v → (rowsV AF.cells l)[0 + i * 9 + 0 + j]? = some v := fun j v hj => by
  cases j with
  | zero => have := rows_at af_len l i h 0 (by decide); rw [Nat.add_zero] at this; rw [Nat.zero_add, Nat.add_zero, this]; exact hj
  | succ j => simp at hj
theorem woR_sz {g : GJ} (hg : g.wf) (s : ByteArray) (b : Bool) (e : Int) : (woR g s b e).1.size < 1000 := by
  have h := (getK_wf s hg).1
  unfold woR
  cases hk : getK s g with
  | none =>
    simp only
    split <;> exact Nat.zero_lt_succ _
  | some t =>
    rw [hk] at h
    simp only
    split
    · have h : t.wf := h
      rw [GJ.wf_eq] at h; exact h.1
    · exact Nat.zero_lt_succ _
theorem fieldsM_ok (n : Nat) (ht : CtROK P 45 (cTreeM.below muTm n)) : CtROK P 100 (cFieldsM.below muFd (n + 1)) := by
  refine ask_okR mixed (ctTab_ok (forall_tab get6_ok (forall_tab wordM_ok (forall_tab part_ok (forall_tab texts_ok (forall_tab failM_ok nil_tab)))))) (rlTab_ok (forall_rel ht nil_rel)) (W := wFieldsM) Try.func100 (by kernel_rfl) (show 1 ≤ 4 by decide) (show 4 ≤ 6 by decide) (fun s => by kernel_rfl) fun ⟨S, (e : Int), g, (i : Int), sp, (d : Int)⟩ => (fieldsM_eq n S e g i sp d).mpr ?_
  rintro ⟨hmu, hS, hg, hi0, hi1, hd1, hd2, hsp⟩ ⟨p, _, hp⟩
  have hmu : (25 - d).toNat < n + 1 := hmu
  simp only [decide_eq_true_eq, decide_eq_false_iff_not, Bool.not_eq_true', Bool.not_eq_false', true_and, and_true, eq_self, imp_self, implies_true, exists_const, forall_const, Int.toNat_natCast]
  have bad : ∀ (T : List AT) (e1 k : Int), k ≠ 0 → (S ++ T).length ≤ 60 → (∀ q, g.ok q → ∀ a ∈ T, a.ok q) → True := fun _ _ _ _ _ _ => trivial
  have z : ∀ (T : List AT) (k : Int) (x : SV) (fs : List AF), k ≠ 0 → ((if k = 0 then fldS S i x fs else S) ++ T) = S ++ T := fun T k x fs hk => by rw [if_neg hk]
  obtain ⟨lw, lok⟩ := getK_wf (mkS [102, 105, 101, 108, 100, 115]) hg
  refine ⟨⟨g, mkS [102, 105, 101, 108, 100, 115]⟩, rfl, rfl, rfl, rfl, rfl, rfl, rfl, rfl, rfl, rfl, hg, fun q hq => hq, fun hno => ⟨S, rfl, rfl, ⟨[], faE e 2, (none, 0, 0), []⟩, by show (_ ++ []).length = _; rw [z _ _ _ _ (faE_ne (by decide)), List.append_nil], rfl, by show rowsV AT.cells (_ ++ []) = _; rw [z _ _ _ _ (faE_ne (by decide)), List.append_nil], ⟨by show (S ++ []).length ≤ 60; rw [List.append_nil]; exact hS, fun h => absurd h (faE_ne (by decide))⟩, fun q hq => ⟨fun a ha => (by cases ha), slP_nil, fun f hf => (by cases hf)⟩⟩, fun hyes => ⟨fun hk => ⟨S, rfl, rfl, ⟨[], faE e 2, (none, 0, 0), []⟩, by show (_ ++ []).length = _; rw [z _ _ _ _ (faE_ne (by decide)), List.append_nil], rfl, by show rowsV AT.cells (_ ++ []) = _; rw [z _ _ _ _ (faE_ne (by decide)), List.append_nil], ⟨by show (S ++ []).length ≤ 60; rw [List.append_nil]; exact hS, fun h => absurd h (faE_ne (by decide))⟩, fun q hq => ⟨fun a ha => (by cases ha), slP_nil, fun f hf => (by cases hf)⟩⟩, fun hk => ⟨fun h30 => ⟨S, rfl, rfl, ⟨[], faE e 3, (none, 0, 0), []⟩, by show (_ ++ []).length = _; rw [z _ _ _ _ (faE_ne (by decide)), List.append_nil], rfl, by show rowsV AT.cells (_ ++ []) = _; rw [z _ _ _ _ (faE_ne (by decide)), List.append_nil], ⟨by show (S ++ []).length ≤ 60; rw [List.append_nil]; exact hS, fun h => absurd h (faE_ne (by decide))⟩, fun q hq => ⟨fun a ha => (by cases ha), slP_nil, fun f hf => (by cases hf)⟩⟩, fun h30 => ?_⟩⟩⟩
  have hfd : fdJ g = (getK (mkS [102, 105, 101, 108, 100, 115]) g).getD zJ := rfl
  simp only at *
  generalize (getK (mkS [102, 105, 101, 108, 100, 115]) g).getD zJ = t at *
  have hy := fun q (hq : g.ok q) => (show slP GJ.cells t.y t.l q by have := lok q hq; rw [GJ.ok_eq] at this; exact this.1)
  have tl : t.y.2.1 = t.l.length := (hy p hp).1
  have lww := lw
  rw [GJ.wf_eq] at lww
  refine ⟨⟨⟨0, e, [], []⟩, rfl, rfl, by show (S ++ []).length = _; rw [List.append_nil], rfl, by show rowsV AT.cells (S ++ []) = _; rw [List.append_nil], fun q hq => ⟨fun a ha => (by cases ha), fun f hf => (by cases hf)⟩, ⟨Nat.zero_le _, Nat.zero_le _, by show (S ++ []).length ≤ 60; rw [List.append_nil]; exact hS, fun h => ⟨h, fun a ha => (by cases ha), fun f hf => (by cases hf)⟩⟩⟩, ?_⟩
  rintro ⟨j, e1, T, fs⟩ ⟨hj, hfl, hST, hinv⟩ ⟨p1, hp1, hT1, hf1⟩
  simp only [hfd] at hj ⊢
  have fin0 : e1 ≠ 0 → ∃ b : FdB, ((if b.snd.fst = 0 then fldS S i b.snd.snd.fst b.snd.snd.snd else S) ++ b.fst).length = (S ++ T).length ∧ b.snd.fst = e1 ∧ rowsV AT.cells ((if b.snd.fst = 0 then fldS S i b.snd.snd.fst b.snd.snd.snd else S) ++ b.fst) = rowsV AT.cells (S ++ T) ∧ ((S ++ b.fst).length ≤ 60 ∧ (b.snd.fst = 0 → e = 0 ∧ (∀ (a : AT), a ∈ b.fst → goodT (S ++ b.fst).length a) ∧ (∀ (f : AF), f ∈ b.snd.snd.snd → (0 ≤ f.ty ∧ f.ty < ↑(S ++ b.fst).length) ∧ f.df.wf) ∧ b.snd.snd.snd.length ≤ 30)) ∧ ∀ (p : Nat → Option Obj), (g.ok p ∧ (∀ (a : AT), a ∈ T → a.ok p) ∧ ∀ (f : AF), f ∈ fs → f.ok p) → (∀ (a : AT), a ∈ b.fst → a.ok p) ∧ slP AF.cells b.snd.snd.fst b.snd.snd.snd p ∧ ∀ (f : AF), f ∈ b.snd.snd.snd → f.ok p := fun he => ⟨⟨T, e1, (none, 0, 0), []⟩, by show (_ ++ T).length = _; rw [z _ _ _ _ he], rfl, by show rowsV AT.cells (_ ++ T) = _; rw [z _ _ _ _ he], ⟨hST, fun h => absurd h he⟩, fun q hq => ⟨hq.2.1, slP_nil, fun f hf => (by cases hf)⟩⟩
  have fin1 : e1 = 0 → (0 ≤ i ∧ i < ((S ++ T).length : Int)) ∧ ∀ (a : Option Addr) (c : Nat), (∃ p, (g.ok p ∧ (∀ (a : AT), a ∈ T → a.ok p) ∧ ∀ (f : AF), f ∈ fs → f.ok p) ∧ fs.length ≤ c ∧ rowP p a (List.take (fs.length * 9) (rowsV AF.cells fs))) → 0 + i.toNat * 10 + 8 + [Value.slice a fs.length c].length ≤ (rowsV AT.cells (S ++ T)).length ∧ ∃ b : FdB, ((if b.snd.fst = 0 then fldS S i b.snd.snd.fst b.snd.snd.snd else S) ++ b.fst).length = (S ++ T).length ∧ b.snd.fst = e1 ∧ rowsV AT.cells ((if b.snd.fst = 0 then fldS S i b.snd.snd.fst b.snd.snd.snd else S) ++ b.fst) = spl (rowsV AT.cells (S ++ T)) (0 + i.toNat * 10 + 8) [Value.slice a fs.length c] ∧ ((S ++ b.fst).length ≤ 60 ∧ (b.snd.fst = 0 → e = 0 ∧ (∀ (a : AT), a ∈ b.fst → goodT (S ++ b.fst).length a) ∧ (∀ (f : AF), f ∈ b.snd.snd.snd → (0 ≤ f.ty ∧ f.ty < ↑(S ++ b.fst).length) ∧ f.df.wf) ∧ b.snd.snd.snd.length ≤ 30)) ∧ ∀ (p : Nat → Option Obj), (g.ok p ∧ (∀ (a : AT), a ∈ T → a.ok p) ∧ ∀ (f : AF), f ∈ fs → f.ok p) ∧ fs.length ≤ c ∧ rowP p a (List.take (fs.length * 9) (rowsV AF.cells fs)) → (∀ (a : AT), a ∈ b.fst → a.ok p) ∧ slP AF.cells b.snd.snd.fst b.snd.snd.snd p ∧ ∀ (f : AF), f ∈ b.snd.snd.snd → f.ok p := fun he => by
    obtain ⟨i0, iT, iF⟩ := hinv he
    have hi := hi1 i0
    obtain ⟨m, rfl⟩ := Int.eq_ofNat_of_zero_le hi0
    have hm : m < S.length := by omega
    have es : ∀ x, fldS S (m : Int) x fs = S.set m { S[m] with f := x, fs := fs } := fun x => by
      unfold fldS; rw [Int.toNat_natCast, List.getElem?_eq_getElem hm]
    have hl : (S ++ T).length = S.length + T.length := List.length_append
    refine ⟨⟨hi0, by omega⟩, fun a c _ => ⟨by rw [rows_len at_len, hl, Int.toNat_natCast]; show 0 + m * 10 + 8 + 1 ≤ _; omega, ⟨T, e1, (a, fs.length, c), fs⟩, ?_, rfl, ?_, ⟨hST, fun _ => ⟨i0, iT, iF, by show fs.length ≤ 30; omega⟩⟩, fun q hq => ⟨hq.1.2.1, ?_, hq.1.2.2⟩⟩⟩
    · show ((if e1 = 0 then fldS S (m : Int) (a, fs.length, c) fs else S) ++ T).length = _
      rw [if_pos he, es, List.length_append, List.length_set, hl]
    · show rowsV AT.cells ((if e1 = 0 then fldS S (m : Int) (a, fs.length, c) fs else S) ++ T) = _
      rw [if_pos he, es]
      exact fld_rows S m hm _ _ T
    · refine ⟨rfl, hq.2.1, ?_⟩
      have := hq.2.2
      rw [List.take_of_length_le (by rw [rows_len af_len]; exact Nat.le_refl _)] at this
      exact this
  refine ⟨fun hlt => ⟨fun he0 => ?_, fun he0 => ⟨fun h => fin1 h, fun h => fin0 h⟩⟩, fun hge => ⟨fun h => fin1 h, fun h => fin0 h⟩⟩
  have hjl : j < t.l.length := by omega
  have hat := fun q (hq : g.ok q) => slP_at gj_len (by decide) (hy q hq) hjl
  have cw : t.l[j].wf := GJ.wfs_at lww.2.2.2.2.2.2 hjl
  have cok : ∀ q, g.ok q → t.l[j].ok q := fun q hq => by have := lok q hq; rw [GJ.ok_eq] at this; exact GJ.oks_at this.2.2 hjl
  refine ⟨⟨by omega, by omega⟩, (hat p1 hp1).1, t.l[j].k, t.l[j].n, t.l[j].s, t.l[j].y.1, t.l[j].y.2.1, t.l[j].y.2.2, t.l[j].x.1, t.l[j].x.2.1, t.l[j].x.2.2, fun q hq => (hat q hq.1).2, fun h6 => ⟨S ++ T, rfl, rfl, ⟨T, faE e1 2, (none, 0, 0), []⟩, by show (_ ++ T).length = _; rw [z _ _ _ _ (faE_ne (by decide))], rfl, by show rowsV AT.cells (_ ++ T) = _; rw [z _ _ _ _ (faE_ne (by decide))], ⟨hST, fun h => absurd h (faE_ne (by decide))⟩, fun q hq => ⟨hq.2.1, slP_nil, fun f hf => (by cases hf)⟩⟩, fun h6 => ?_⟩
  obtain ⟨e00, hTg, hfg⟩ := hinv he0
  clear fin0 fin1 z bad
  refine ⟨⟨S ++ T, e1, t.l[j], mkS [110, 97, 109, 101], true⟩, rfl, rfl, rfl, rfl, rfl, rfl, rfl, rfl, rfl, rfl, rfl, rfl, rfl, rfl, cw, fun q hq => cok q hq.1, ?_⟩
  simp only
  have hnm := woR_sz cw (mkS [110, 97, 109, 101]) true e1
  have hwe : (woR t.l[j] (mkS [110, 97, 109, 101]) true e1).2 = 0 → e1 = 0 := woR_e
  generalize woR t.l[j] (mkS [110, 97, 109, 101]) true e1 = W at *
  refine ⟨⟨⟨fun _ => ⟨by omega, _, rfl⟩, fun _ => ⟨false, rfl⟩⟩, fun _ _ => ⟨S ++ T, rfl, rfl, rfl, rfl, fun h => (faE_z (by decide) h).elim⟩⟩, ?_⟩
  intro e4 h4
  refine ⟨⟨⟨0, e4⟩, rfl, rfl, fun h => h⟩, ?_⟩
  rintro ⟨k, e5⟩ h5
  simp only at h5 ⊢
  have hST' := hST
  refine ⟨fun hkl => ⟨⟨by omega, by omega⟩, fs[k]'(by omega) |>.nm, af_sub (by omega), fun _ => ⟨S ++ T, rfl, rfl, ⟨by omega, by omega⟩, ⟨k + 1, faE e5 5⟩, by show ((k + 1 : Nat) : Int) = _; omega, rfl, rfl, rfl, fun h => (faE_z (by decide) h).elim, by show 100 - (k + 1) < 100 - k; omega⟩, fun _ => ⟨⟨by omega, by omega⟩, ⟨k + 1, e5⟩, by show ((k + 1 : Nat) : Int) = _; omega, rfl, h5, by show 100 - (k + 1) < 100 - k; omega⟩⟩, fun hkl => ?_⟩
  obtain ⟨tw, tok⟩ := getK_wf (mkS [116, 121, 112, 101]) cw
  refine ⟨⟨t.l[j], mkS [116, 121, 112, 101]⟩, rfl, rfl, rfl, rfl, rfl, rfl, rfl, rfl, rfl, rfl, cw, fun q hq => cok q hq.1, ?_⟩
  simp only
  generalize (getK (mkS [116, 121, 112, 101]) t.l[j]).getD zJ = ty at *
  refine ⟨fun _ => ⟨S ++ T, rfl, rfl, rfl, rfl, fun h => (faE_z (by decide) h).elim⟩, ?_⟩
  intro e7 h7
  refine ⟨⟨by omega, by omega⟩, ⟨S ++ T, e7, ty, sp, d + 1⟩, rfl, rfl, rfl, rfl, rfl, rfl, rfl, rfl, rfl, rfl, rfl, rfl, rfl, rfl, ⟨by show (25 - (d + 1)).toNat < n; omega, hST, tw, by omega, by omega, hsp⟩, fun q hq => tok q (cok q hq.1), ?_⟩
  rintro ⟨U, e8, r⟩ ⟨⟨hU, hU2⟩, hr⟩ ⟨p2, hp2, hU3⟩
  simp only at hU hU2 hr hU3 ⊢
  obtain ⟨dw, dok⟩ := getK_wf (mkS [100, 101, 102, 97, 117, 108, 116]) cw
  refine ⟨⟨t.l[j], mkS [100, 101, 102, 97, 117, 108, 116]⟩, rfl, rfl, rfl, rfl, rfl, rfl, rfl, rfl, rfl, rfl, cw, fun q hq => cok q hq.1.1, ⟨S ++ T ++ U, e8, t.l[j], mkS [97, 108, 105, 97, 115, 101, 115]⟩, rfl, rfl, rfl, rfl, rfl, rfl, rfl, rfl, rfl, rfl, rfl, rfl, rfl, cw, fun q hq => cok q hq.1.1, ?_⟩
  have hsz : ∀ x ∈ (txsF t.l[j] (mkS [97, 108, 105, 97, 115, 101, 115]) e8).1, x.size < 1000 := txsF_mem cw
  have hLl : (txsF t.l[j] (mkS [97, 108, 105, 97, 115, 101, 115]) e8).1.length < 1000 := txsF_len cw
  have hE : (txsF t.l[j] (mkS [97, 108, 105, 97, 115, 101, 115]) e8).2.2 = 0 → e8 = 0 := txsF_e
  simp only
  generalize txsF t.l[j] (mkS [97, 108, 105, 97, 115, 101, 115]) e8 = F at *
  generalize hdj : (getK (mkS [100, 101, 102, 97, 117, 108, 116]) t.l[j]).getD zJ = df at *
  rintro a m c ⟨p3, hp3, hl3⟩
  have hm : m = F.1.length := hl3.1
  subst hm
  have hat2 := fun (k : Nat) (hk : k < F.1.length) (q : Pub) (hq : slP txV (a, F.1.length, c) F.1 q) => (show a ≠ noA ∧ cellsP q (adr a (k * 1)) [.string F.1[k]] from slP_at tx_len (by decide) hq hk)
  refine ⟨⟨⟨0, F.2.2⟩, rfl, rfl, fun h => h⟩, ?_⟩
  rintro ⟨x, e9⟩ h9
  simp only at h9 ⊢
  have hlen : (S ++ (T ++ U)).length = (S ++ T).length + U.length := by rw [← List.append_assoc]; exact List.length_append
  refine ⟨fun hx => ⟨fun h0 => ⟨⟨by omega, by omega⟩, (hat2 x (by omega) p3 hl3).1, F.1[x]'(by omega), fun q hq => (hat2 x (by omega) q hq.2).2, by have := hsz _ (List.getElem_mem (show x < F.1.length by omega)); omega, fun _ => ⟨S ++ T ++ U, rfl, rfl, ⟨by omega, by omega⟩, ⟨x + 1, faE e9 6⟩, by show ((x + 1 : Nat) : Int) = _; omega, rfl, rfl, rfl, fun h => (faE_z (by decide) h).elim, by show 2000 - (x + 1) < 2000 - x; omega⟩, fun _ => ⟨⟨by omega, by omega⟩, ⟨x + 1, e9⟩, by show ((x + 1 : Nat) : Int) = _; omega, rfl, h9, by show 2000 - (x + 1) < 2000 - x; omega⟩⟩, fun h0 => ?xa⟩, fun hx => ?xb⟩
  case xa | xb =>
    refine ⟨rows_len af_len fs, by omega, ⟨by omega, by omega⟩, ⟨j + 1, e9, T ++ U, fs ++ [⟨W.1, (a, F.1.length, c), F.1, r, (getK (mkS [100, 101, 102, 97, 117, 108, 116]) t.l[j]).isSome, df⟩]⟩, by show ((j + 1 : Nat) : Int) = _; omega, by simp, by rw [List.append_assoc], rfl, by rw [List.append_assoc], by rw [rows_app]; rfl, fun q hq => hq.1.1.1, fun q hq => ⟨fun y hy => (List.mem_append.1 hy).elim (hq.1.1.2.1 y) (hq.1.2 y), fun f hf => (List.mem_append.1 hf).elim (hq.1.1.2.2 f) fun h => ?_⟩, ⟨by show j + 1 ≤ (fdJ g).l.length; rw [hfd]; omega, by show (fs ++ [_]).length ≤ j + 1; simp; omega, by show (S ++ (T ++ U)).length ≤ 60; rw [← List.append_assoc]; exact hU, fun h => ⟨e00, fun y hy => ?_, fun f hf => ?_⟩⟩, by show _ - (j + 1) < _; omega⟩
    · simp at h; subst h; exact ⟨hq.2, dok q (cok q hq.1.1.1)⟩
    · show goodT (S ++ (T ++ U)).length y
      obtain ⟨u1, u2⟩ := hU2 (hE (h9 h))
      rcases List.mem_append.1 hy with hy | hy
      · exact goodT_mono (by omega) (hTg y hy)
      · have := u2 y hy; rw [List.append_assoc] at this; exact this
    · show (0 ≤ f.ty ∧ f.ty < ((S ++ (T ++ U)).length : Int)) ∧ f.df.wf
      obtain ⟨r0, r1⟩ := hr (hE (h9 h))
      rw [List.append_assoc] at r1
      rcases List.mem_append.1 hf with hf | hf
      · have := hfg f hf; exact ⟨by omega, this.2⟩
      · simp at hf; subst hf; exact ⟨⟨r0, r1⟩, dw⟩
/-! A schema out of a tree: named types. -/
def nmT (k : Int) (W : ByteArray) (r n : Nat) (num : Nat) : AO := .cells 57 (some 0) false [.sv (.int .i64 k), .sv (.string W), .ssl r 0 n 1 num, .int .i64 0, .nsl, .bool false, .str [], .int .i64 0, .nsl, .nsl]
abbrev NlS := Nat × Int × List ByteArray
def wNamedM : NmS → WayF := fun ⟨S, e, g, k, sp, d⟩ => {
  cut := fun r _ _ => match r with
    | 7 => some { σ := Int × ByteArray, pre := fun ⟨e', s⟩ => (e' = 0 → e = 0) ∧ (s.size : Int) ≤ 1100 * d, find := some fun t h => (match mkE h 1 with
        | some e' => match slS t 3 with
          | some s => some (e', s)
          | none => none
        | none => none), t := fun ⟨e', s⟩ => [(3, .sv (.string s))], h := fun ⟨e', s⟩ => [mkC S e' 2 3], more := 0, μ := fun _ => 0, keep := [0, 2, 4, 6, 11] }
    | 19 => some { σ := Int, pre := fun e' => e' = 0 → e = 0, find := some fun _ h => mkE h 1, t := fun _ => [], h := fun e' => [mkC S e' 2 3], more := 0, μ := fun _ => 0, keep := [0, 2, 3, 4, 6, 14] }
    | _ => none
  ann := fun id t h => match h.get 15 with
    | some (.cells _ _ _ (_ :: .sv (.string W) :: _)) => some { σ := NlS, pre := fun ⟨j, e', acc⟩ => (j : Int) ≤ 1000 ∧ acc.length ≤ j ∧ (e' = 0 → e = 0), t := fun ⟨j, e', acc⟩ => [(17, .sv (.int .i64 (j : Int)))], h := fun ⟨j, e', acc⟩ => [mkC S e' 2 3, (15, nmT k W 22 acc.length 23), (22, .row 9 0 (rowsV txV acc))], more := 2, μ := fun ⟨j, e', acc⟩ => 1000 - j, keep := [0, 2, 3, 4, 6, 14, 15] }
    | _ => none
  pub := fun i k => match i, k with
    | 21, 2 => [107]
    | _, _ => [] }
noncomputable section
variable (x0 : Int × ByteArray) (x1 : List AT) (x2 : List AT × Int × GJ × ByteArray × Bool) (x3 : Int) (x4 : GJ) (x5 : ByteArray) (x6 : Int) (x7 : Int) (x8 : Nat) (x9 : Option Addr) (x10 : Nat) (x11 : List AT × Int × GJ × ByteArray) (x12 : Nat) (x13 : NlS) (x14 : List AT) (x15 : Int) (x16 : List AT × Int × AT) (x17 : Option Addr) (x18 : GJ × ByteArray) (x19 : Prop) (x20 : Nat → Option Obj) (x21 : FdS) (x22 : FdB) (x23 : TmB) (x24 : AF) (x25 : List AT × Int × GJ × Int) (x26 : SyB)
 abbrev zbs22 := GJ.k x18.1 = GJ.k x4 ∧ GJ.n x18.1 = GJ.n x4 ∧ GJ.s x18.1 = GJ.s x4 ∧ (GJ.y x18.1).1 = (GJ.y x4).1 ∧ (GJ.y x18.1).2.1 = (GJ.y x4).2.1 ∧ (GJ.y x18.1).2.2 = (GJ.y x4).2.2 ∧ (GJ.x x18.1).1 = (GJ.x x4).1 ∧ (GJ.x x18.1).2.1 = (GJ.x x4).2.1 ∧ (GJ.x x18.1).2.2 = (GJ.x x4).2.2 ∧ x19
 abbrev zbs25 := Option.getD (getK x18.2 x18.1) zJ
 abbrev zbs39 := !decide (GJ.k (zbs25 x18) = x3)
 abbrev zbs14 := woR x2.2.2.1 x2.2.2.2.1 x2.2.2.2.2 x2.2.1
 abbrev zbs34 := List.length x1 = List.length x14
 abbrev zbs12 := GJ.k x4 = GJ.k x4 ∧ GJ.n x4 = GJ.n x4 ∧ GJ.s x4 = GJ.s x4 ∧ (GJ.y x4).1 = (GJ.y x4).1 ∧ (GJ.y x4).2.1 = (GJ.y x4).2.1 ∧ (GJ.y x4).2.2 = (GJ.y x4).2.2 ∧ (GJ.x x4).1 = (GJ.x x4).1 ∧ (GJ.x x4).2.1 = (GJ.x x4).2.1 ∧ (GJ.x x4).2.2 = (GJ.x x4).2.2 ∧ x19
 abbrev zbs33 := (∀ (i0 : Pub), True ∧ GJ.ok x4 i0 → True ∧ GJ.ok x4 i0)
 abbrev zbs30 := (zbs14 x2).1 = (zbs14 x2).1 ∧ x3 = x3 ∧ x6 = x6 ∧ List.length x1 = List.length x2.1 ∧ (zbs14 x2).2 = (zbs14 x2).2 ∧ rowsV AT.cells x2.1 = rowsV AT.cells x2.1 ∧ x19
 abbrev zbs21 := GJ.s (zbs25 x18) = GJ.s (zbs25 x18) ∧ zbs30 x1 x2 x3 x6 (zbs12 x4 (zbs33 x4 ∧ (((zbs14 x2).2 = 0 → x7 = 0) ∧ (↑(ByteArray.size (GJ.s (zbs25 x18))) : Int) ≤ 1100 * x6) ∧ True))
 abbrev zbs11 := ((zbs39 4 x18) = true → ∃ (i0 : List AT), (2 : Int) = 2 ∧ List.length i0 = List.length x2.1 ∧ (zbs14 x2).2 = (zbs14 x2).2 ∧ rowsV AT.cells i0 = rowsV AT.cells x2.1 ∧ True ∧ GJ.s (zbs25 x18) = GJ.s (zbs25 x18) ∧ (zbs14 x2).1 = (zbs14 x2).1 ∧ x3 = x3 ∧ x6 = x6 ∧ zbs34 x1 i0 ∧ faE (zbs14 x2).2 (2 : Int) = faE (zbs14 x2).2 2 ∧ rowsV AT.cells x2.1 = rowsV AT.cells i0 ∧ zbs12 x4 (zbs33 x4 ∧ ((faE (zbs14 x2).2 (2 : Int) = 0 → x7 = 0) ∧ (↑(ByteArray.size (GJ.s (zbs25 x18))) : Int) ≤ 1100 * x6) ∧ True)) ∧ ((zbs39 4 x18) = false → zbs21 x1 x2 x3 x4 x6 x7 x18)
 abbrev zbs24 := x5 = x5 ∧ zbs30 x1 x2 x3 x6 (zbs12 x4 (zbs33 x4 ∧ (((zbs14 x2).2 = 0 → x7 = 0) ∧ (↑(ByteArray.size x5) : Int) ≤ 1100 * x6) ∧ True))
 abbrev zbs32 := ∀ (i0 : AT), i0 ∈ x23.1 → AT.ok i0 x20
 abbrev zbs27 := wholeF (zbs14 x2).1 x0.2 = wholeF (zbs14 x2).1 x0.2
 abbrev zbs28 := wholeF (zbs14 x2).1 x0.2
 abbrev zbs18 := (True ∧ GJ.ok x4 x20) ∧ slP txV (x9, x8, x10) (txsF x11.2.2.1 x11.2.2.2 x11.2.1).1 x20
 abbrev zbs19 := befF (zbs28 x0 x2) (ByteArray.size (zbs28 x0 x2)) = befF (zbs28 x0 x2) (ByteArray.size (zbs28 x0 x2))
 abbrev zbs31 := (∀ (i0 : Pub), zbs18 x4 x8 x9 x10 x11 i0 → zbs18 x4 x8 x9 x10 x11 i0)
 abbrev zbs29 := (↑x13.1 : Int) ≤ 1000 ∧ List.length x13.2.2 ≤ x13.1 ∧ (x13.2.1 = 0 → x3 = 0)
 abbrev zbs9 := (0 ≤ (↑x13.1 : Int) ∧ (↑x13.1 : Int) < (↑x8 : Int)) ∧ x9 ≠ noA ∧ ∃ (i0 : ByteArray), (∀ (i1 : Pub), zbs18 x4 x8 x9 x10 x11 i1 → cellsP i1 (adr x9 (Int.toNat (↑x13.1 : Int) * 1)) [Value.string i0]) ∧ ∃ (i2 : List AT), i0 = i0 ∧ zbs19 x0 x2 ∧ zbs34 i2 x1 ∧ x13.2.1 = x13.2.1 ∧ rowsV AT.cells i2 = rowsV AT.cells x11.1 ∧ (ByteArray.size i0 < 10000 ∧ ByteArray.size (befF (zbs28 x0 x2) (ByteArray.size (zbs28 x0 x2))) < 50000) ∧ List.length (rowsV txV x13.2.2) = List.length x13.2.2 * 1 ∧ (List.length x13.2.2 + nat_lit 1) * 16 ≤ 140737488355328 ∧ AV.ssl (nat_lit 22) (nat_lit 0) (List.length x13.2.2) (nat_lit 1) (nat_lit 23) = AV.ssl (nat_lit 22) (nat_lit 0) (List.length x13.2.2) (nat_lit 1) (nat_lit 23) ∧ ((-9223372036854775808 : Int) ≤ (↑x13.1 : Int) + 1 ∧ (↑x13.1 : Int) + 1 ≤ 9223372036854775807) ∧ ∃ (i3 : NlS), zbs19 x0 x2 ∧ x9 = x9 ∧ x8 = x8 ∧ x10 = x10 ∧ (↑i3.1 : Int) = (↑x13.1 : Int) + 1 ∧ x3 = x3 ∧ x6 = x6 ∧ zbs34 x1 i2 ∧ i3.2.1 = whE i0 (befF (zbs28 x0 x2) (ByteArray.size (zbs28 x0 x2))) x13.2.1 ∧ x3 = x3 ∧ zbs27 x0 x2 ∧ List.length i3.2.2 = List.length x13.2.2 + nat_lit 1 ∧ rowsV AT.cells x11.1 = rowsV AT.cells i2 ∧ zbs12 x4 (rowsV txV i3.2.2 = rowsV txV x13.2.2 ++ [Value.string (wholeF i0 (befF (zbs28 x0 x2) (ByteArray.size (zbs28 x0 x2))))] ∧ zbs31 x4 x8 x9 x10 x11 ∧ (zbs29 x7 i3) ∧ (1000 : Nat) - i3.1 < 1000 - x13.1 ∧ True)
 abbrev zbs6 := zbs19 x0 x2 ∧ x3 = x3 ∧ x6 = x6 ∧ zbs34 x1 x14 ∧ x13.2.1 = x13.2.1 ∧ x3 = x3 ∧ zbs27 x0 x2 ∧ List.length x13.2.2 = List.length x13.2.2 ∧ rowsV AT.cells x14 = rowsV AT.cells x14 ∧ zbs12 x4 (rowsV txV x13.2.2 = rowsV txV x13.2.2 ∧ zbs31 x4 x8 x9 x10 x11 ∧ (x13.2.1 = 0 → x7 = 0) ∧ True)
 abbrev zbs4 := (Option.isSome (findF (zbs28 x0 x2) x1 0) = true → ∃ (i0 : List AT), (5 : Int) = 5 ∧ zbs34 i0 x1 ∧ x13.2.1 = x13.2.1 ∧ rowsV AT.cells i0 = rowsV AT.cells x1 ∧ True ∧ zbs19 x0 x2 ∧ x3 = x3 ∧ x6 = x6 ∧ zbs34 x14 i0 ∧ faE x13.2.1 (5 : Int) = faE x13.2.1 5 ∧ x3 = x3 ∧ zbs27 x0 x2 ∧ List.length x13.2.2 = List.length x13.2.2 ∧ rowsV AT.cells x1 = rowsV AT.cells i0 ∧ zbs12 x4 (rowsV txV x13.2.2 = rowsV txV x13.2.2 ∧ zbs31 x4 x8 x9 x10 x11 ∧ (faE x13.2.1 (5 : Int) = 0 → x7 = 0) ∧ True)) ∧ (Option.isSome (findF (zbs28 x0 x2) x1 0) = false → zbs6 x0 x14 x2 x3 x4 x6 x7 x8 x9 x10 x11 x13 x1)
 abbrev zbs15 := (zbs18 x4 x8 x9 x10 x11 x20) ∧ List.length x13.2.2 ≤ x12 ∧ rowP x20 x17 (List.take (List.length x13.2.2 * nat_lit 1) (rowsV txV x13.2.2))
 abbrev zbs36 := (0 ≤ AF.ty x24 ∧ AF.ty x24 < (↑(List.length (x21.1 ++ x22.1)) : Int)) ∧ GJ.wf (AF.df x24)
 abbrev zbs26 := x21.2.1 = 0 ∧ (∀ (i0 : AT), i0 ∈ x22.1 → goodT (List.length (x21.1 ++ x22.1)) i0) ∧ (∀ (i1 : AF), i1 ∈ x22.2.2.2 → zbs36 x21 x22 i1) ∧ List.length x22.2.2.2 ≤ 30
 abbrev zbs35 := (∀ (i0 : AT), i0 ∈ x22.1 → AT.ok i0 x20) ∧ slP AF.cells x22.2.2.1 x22.2.2.2 x20 ∧ ∀ (i1 : AF), i1 ∈ x22.2.2.2 → AF.ok i1 x20
 abbrev zbs37 := x25.2.1 = 0 ∧ x26.2.2.1 ≠ [] ∧ List.length x26.2.2.1 ≤ 30
 abbrev zbs38 := if x26.1 = 0 then symS x25.1 x25.2.2.2 x26.2.1 x26.2.2.1 x26.2.2.2.1 x26.2.2.2.2 else x25.1
 abbrev zbs16 := ∃ (i0 : List AT), x7 = x7 ∧ List.length i0 = List.length (adS x16.1 x16.2.2) ∧ adE x16.1 x16.2.1 = adE x16.1 x16.2.1 ∧ rowsV AT.cells i0 = rowsV AT.cells (adS x16.1 x16.2.2) ∧ True ∧ ∃ (i1 : TmB), i1.2.2 = 0 ∧ List.length (x1 ++ i1.1) = List.length i0 ∧ i1.2.1 = faE (adE x16.1 x16.2.1) x7 ∧ rowsV AT.cells (x1 ++ i1.1) = rowsV AT.cells i0 ∧ tmPost (x1, x3, x4, x5, x6) i1 ∧ (∀ (i2 : Pub), zbs15 x4 x8 x9 x10 x11 x12 x13 x17 i2 → zbs32 i2 i1) ∧ True
 abbrev zbs40 := x23.2.2 = adR x16.1 ∧ List.length (x1 ++ x23.1) = List.length (adS x16.1 x16.2.2) ∧ x23.2.1 = adE x16.1 x16.2.1 ∧ x19
 abbrev zbs20 := (0 ≤ adR x16.1 ∧ adR x16.1 < (↑(List.length (adS x16.1 x16.2.2)) : Int)) ∧ nat_lit 0 + Int.toNat (adR x16.1) * nat_lit 10 + 7 + List.length [Value.int IntKind.i64 (GJ.n (zbs25 x18))] ≤ List.length (rowsV AT.cells (adS x16.1 x16.2.2)) ∧ ∃ (i0 : TmB), zbs40 x1 x16 (rowsV AT.cells (x1 ++ i0.1) = spl (rowsV AT.cells (adS x16.1 x16.2.2)) (nat_lit 0 + Int.toNat (adR x16.1) * nat_lit 10 + 7) [Value.int IntKind.i64 (GJ.n (zbs25 x18))] ∧ tmPost (x1, x3, x4, x5, x6) i0 ∧ (∀ (i1 : Pub), zbs15 x4 x8 x9 x10 x11 x12 x13 x17 i1 → zbs32 i1 i0) ∧ True) i0
 abbrev zbs17 := (decide (adE x16.1 x16.2.1 = 0) = true → zbs20 x1 x3 x4 x5 x6 x8 x9 x10 x11 x12 x13 x16 x17 x18) ∧ (decide (adE x16.1 x16.2.1 = 0) = false → ∃ (i3 : TmB), zbs40 x1 x16 (rowsV AT.cells (x1 ++ i3.1) = rowsV AT.cells (adS x16.1 x16.2.2) ∧ tmPost (x1, x3, x4, x5, x6) i3 ∧ (∀ (i4 : Pub), zbs15 x4 x8 x9 x10 x11 x12 x13 x17 i4 → zbs32 i4 i3) ∧ True) i3)
 abbrev zbs13 := (decide (5000 < GJ.n (zbs25 x18)) = true → zbs16 x1 x3 x4 x5 x6 6 x8 x9 x10 x11 x12 x13 x16 x17) ∧ (decide (5000 < GJ.n (zbs25 x18)) = false → zbs17 x1 x3 x4 x5 x6 x8 x9 x10 x11 x12 x13 x16 x17 x18)
 abbrev zbs10 := (decide (GJ.n (zbs25 x18) < 0) = true → zbs16 x1 x3 x4 x5 x6 6 x8 x9 x10 x11 x12 x13 x16 x17) ∧ (decide (GJ.n (zbs25 x18) < 0) = false → zbs13 x1 x3 x4 x5 x6 x8 x9 x10 x11 x12 x13 x16 x17 x18)
 abbrev zbs7 := ((zbs39 3 x18) = true → zbs16 x1 x3 x4 x5 x6 2 x8 x9 x10 x11 x12 x13 x16 x17) ∧ ((zbs39 3 x18) = false → zbs10 x1 x3 x4 x5 x6 x8 x9 x10 x11 x12 x13 x16 x17 x18)
 abbrev zbs5 := (decide (x3 = 10) = true → ∃ (i0 : List AT × Int × GJ × Int), GJ.k i0.2.2.1 = GJ.k x4 ∧ GJ.n i0.2.2.1 = GJ.n x4 ∧ GJ.s i0.2.2.1 = GJ.s x4 ∧ (GJ.y i0.2.2.1).1 = (GJ.y x4).1 ∧ (GJ.y i0.2.2.1).2.1 = (GJ.y x4).2.1 ∧ (GJ.y i0.2.2.1).2.2 = (GJ.y x4).2.2 ∧ (GJ.x i0.2.2.1).1 = (GJ.x x4).1 ∧ (GJ.x i0.2.2.1).2.1 = (GJ.x x4).2.1 ∧ (GJ.x i0.2.2.1).2.2 = (GJ.x x4).2.2 ∧ i0.2.2.2 = adR x16.1 ∧ List.length i0.1 = List.length (adS x16.1 x16.2.2) ∧ i0.2.1 = adE x16.1 x16.2.1 ∧ rowsV AT.cells i0.1 = rowsV AT.cells (adS x16.1 x16.2.2) ∧ (List.length i0.1 ≤ 60 ∧ GJ.wf i0.2.2.1 ∧ 0 ≤ i0.2.2.2 ∧ (i0.2.1 = 0 → i0.2.2.2 < (↑(List.length i0.1) : Int))) ∧ (∀ (i1 : Pub), zbs15 x4 x8 x9 x10 x11 x12 x13 x17 i1 → GJ.ok i0.2.2.1 i1) ∧ ∀ (i2 : SyB), (i2.1 = 0 → zbs37 i0 i2) → (∃ (i3 : Pub), (zbs15 x4 x8 x9 x10 x11 x12 x13 x17 i3) ∧ slP txV i2.2.1 i2.2.2.1 i3) → ∃ (i4 : TmB), i4.2.2 = adR x16.1 ∧ List.length (x1 ++ i4.1) = List.length (zbs38 i0 i2) ∧ i4.2.1 = i2.1 ∧ rowsV AT.cells (x1 ++ i4.1) = rowsV AT.cells (zbs38 i0 i2) ∧ tmPost (x1, x6, x4, x5, x7) i4 ∧ (∀ (i5 : Pub), (zbs15 x4 x8 x9 x10 x11 x12 x13 x17 i5) ∧ slP txV i2.2.1 i2.2.2.1 i5 → zbs32 i5 i4) ∧ True) ∧ (decide (x3 = 10) = false → ∃ (i7 : GJ × ByteArray), zbs22 x4 i7 (i7.2 = mkS [115, 105, 122, 101] ∧ GJ.wf i7.1 ∧ (∀ (i8 : Pub), zbs15 x4 x8 x9 x10 x11 x12 x13 x17 i8 → GJ.ok i7.1 i8) ∧ ((!Option.isSome (getK i7.2 i7.1)) = true → zbs16 x1 x6 x4 x5 x7 2 x8 x9 x10 x11 x12 x13 x16 x17) ∧ ((!Option.isSome (getK i7.2 i7.1)) = false → zbs7 x1 x6 x4 x5 x7 x8 x9 x10 x11 x12 x13 x16 x17 i7)))
 abbrev zbs3 := ((!decide (x3 = 0)) = true → ∃ (i0 : TmB), i0.2.2 = 0 ∧ List.length (x1 ++ i0.1) = List.length x1 ∧ i0.2.1 = x3 ∧ rowsV AT.cells (x1 ++ i0.1) = rowsV AT.cells x14 ∧ tmPost (x1, x6, x4, x5, x7) i0 ∧ (∀ (i1 : Pub), zbs18 x4 x8 x9 x10 x11 i1 → zbs32 i1 i0) ∧ True) ∧ ((!decide (x3 = 0)) = false → ∀ (i3 i4 i5 : Nat) (i6 : Option Addr) (i7 i8 : Nat), (∃ (i9 : Pub), zbs15 x4 x8 x9 x10 x11 i8 x13 i6 i9) → ∃ (i10 : List AT × Int × AT), AT.k i10.2.2 = x15 ∧ AT.nm i10.2.2 = wholeF (zbs14 x2).1 x0.2 ∧ (AT.al i10.2.2).1 = i6 ∧ (AT.al i10.2.2).2.1 = List.length x13.2.2 ∧ (AT.al i10.2.2).2.2 = i8 ∧ AT.it i10.2.2 = 0 ∧ (AT.sy i10.2.2).1 = noA ∧ (AT.sy i10.2.2).2.1 = 0 ∧ (AT.sy i10.2.2).2.2 = 0 ∧ AT.hd i10.2.2 = false ∧ AT.df i10.2.2 = mkS [] ∧ AT.sz i10.2.2 = 0 ∧ (AT.f i10.2.2).1 = noA ∧ (AT.f i10.2.2).2.1 = 0 ∧ (AT.f i10.2.2).2.2 = 0 ∧ (AT.br i10.2.2).1 = noA ∧ (AT.br i10.2.2).2.1 = 0 ∧ (AT.br i10.2.2).2.2 = 0 ∧ List.length i10.1 = List.length x1 ∧ i10.2.1 = x3 ∧ rowsV AT.cells i10.1 = rowsV AT.cells x14 ∧ True ∧ (decide (x15 = 9) = true → ∃ (i11 : FdS), GJ.k i11.2.2.1 = GJ.k x4 ∧ GJ.n i11.2.2.1 = GJ.n x4 ∧ GJ.s i11.2.2.1 = GJ.s x4 ∧ (GJ.y i11.2.2.1).1 = (GJ.y x4).1 ∧ (GJ.y i11.2.2.1).2.1 = (GJ.y x4).2.1 ∧ (GJ.y i11.2.2.1).2.2 = (GJ.y x4).2.2 ∧ (GJ.x i11.2.2.1).1 = (GJ.x x4).1 ∧ (GJ.x i11.2.2.1).2.1 = (GJ.x x4).2.1 ∧ (GJ.x i11.2.2.1).2.2 = (GJ.x x4).2.2 ∧ i11.2.2.2.1 = adR i10.1 ∧ i11.2.2.2.2.1 = befF (zbs28 x0 x2) (ByteArray.size (zbs28 x0 x2)) ∧ i11.2.2.2.2.2 = x7 ∧ List.length i11.1 = List.length (adS i10.1 i10.2.2) ∧ i11.2.1 = adE i10.1 i10.2.1 ∧ rowsV AT.cells i11.1 = rowsV AT.cells (adS i10.1 i10.2.2) ∧ (muFd i11 < x12 + 1 ∧ List.length i11.1 ≤ 60 ∧ GJ.wf i11.2.2.1 ∧ 0 ≤ i11.2.2.2.1 ∧ (i11.2.1 = 0 → i11.2.2.2.1 < (↑(List.length i11.1) : Int)) ∧ 1 ≤ i11.2.2.2.2.2 ∧ i11.2.2.2.2.2 ≤ 20 ∧ (↑(ByteArray.size i11.2.2.2.2.1) : Int) ≤ 1100 * (i11.2.2.2.2.2 + 1)) ∧ (∀ (i12 : Pub), zbs15 x4 x8 x9 x10 x11 i8 x13 i6 i12 → GJ.ok i11.2.2.1 i12) ∧ ∀ (i13 : FdB), List.length (i11.1 ++ i13.1) ≤ 60 ∧ (i13.2.1 = 0 → zbs26 i11 i13) → (∃ (i16 : Pub), (zbs15 x4 x8 x9 x10 x11 i8 x13 i6 i16) ∧ zbs35 i16 i13) → ∃ (i19 : TmB), i19.2.2 = adR i10.1 ∧ List.length (x1 ++ i19.1) = List.length ((if i13.2.1 = 0 then fldS i11.1 i11.2.2.2.1 i13.2.2.1 i13.2.2.2 else i11.1) ++ i13.1) ∧ i19.2.1 = i13.2.1 ∧ rowsV AT.cells (x1 ++ i19.1) = rowsV AT.cells ((if i13.2.1 = 0 then fldS i11.1 i11.2.2.2.1 i13.2.2.1 i13.2.2.2 else i11.1) ++ i13.1) ∧ tmPost (x1, x6, x4, x5, x7) i19 ∧ (∀ (i20 : Pub), ((zbs15 x4 x8 x9 x10 x11 i8 x13 i6 i20) ∧ zbs35 i20 i13) → zbs32 i20 i19) ∧ True) ∧ (decide (x15 = 9) = false → zbs5 x1 x15 x4 x5 x6 x7 x8 x9 x10 x11 i8 x13 i10 i6))
 abbrev zbs23 := ∃ (i0 : List AT), zbs27 x0 x2 ∧ zbs34 i0 x1 ∧ x13.2.1 = x13.2.1 ∧ rowsV AT.cells i0 = rowsV AT.cells x11.1 ∧ List.length i0 < 1000 ∧ ((decide (x13.2.1 = 0) = true → zbs4 x0 i0 x2 x3 x4 x6 x7 x8 x9 x10 x11 x13 x1) ∧ (decide (x13.2.1 = 0) = false → zbs6 x0 x1 x2 x3 x4 x6 x7 x8 x9 x10 x11 x13 i0)) ∧ ∀ (i1 : Int), (i1 = 0 → x7 = 0) → zbs3 x0 x1 x2 i1 x4 x5 x7 x6 x8 x9 x10 x11 x12 x13 i0 x3
 abbrev zbs8 := (decide (x13.2.1 = 0) = true → zbs9 x0 x1 x2 x3 x4 x6 x7 x8 x9 x10 x11 x13) ∧ (decide (x13.2.1 = 0) = false → zbs23 x0 x1 x2 x3 x4 x5 x6 x7 x8 x9 x10 x11 x12 x13)
 abbrev zbs2 := (decide ((↑x13.1 : Int) < (↑x8 : Int)) = true → zbs8 x0 x1 x2 x3 x4 x5 x6 x7 x8 x9 x10 x11 x12 x13) ∧ (decide ((↑x13.1 : Int) < (↑x8 : Int)) = false → zbs23 x0 x1 x2 x3 x4 x5 x6 x7 x8 x9 x10 x11 x12 x13)
 abbrev zbs1 := (∃ (i0 : NlS), zbs19 x0 x2 ∧ x9 = x9 ∧ x8 = x8 ∧ x10 = x10 ∧ (↑i0.1 : Int) = 0 ∧ x3 = x3 ∧ x6 = x6 ∧ List.length x1 = List.length x11.1 ∧ i0.2.1 = (txsF x11.2.2.1 x11.2.2.2 x11.2.1).2.2 ∧ x3 = x3 ∧ zbs27 x0 x2 ∧ List.length i0.2.2 = 0 ∧ rowsV AT.cells x11.1 = rowsV AT.cells x11.1 ∧ zbs12 x4 (zbs31 x4 x8 x9 x10 x11 ∧ (zbs29 x7 i0) ∧ True)) ∧ ∀ (i2 : NlS), zbs29 x7 i2 → zbs2 x0 x1 x2 x3 x4 x5 x6 x7 x8 x9 x10 x11 x12 i2
 abbrev zbs0 := ((!decide (x0.1 = 0)) = true → ∃ (i0 : TmB), i0.2.2 = 0 ∧ List.length (x1 ++ i0.1) = List.length x1 ∧ i0.2.1 = x0.1 ∧ rowsV AT.cells (x1 ++ i0.1) = rowsV AT.cells x2.1 ∧ tmPost (x1, x3, x4, x5, x6) i0 ∧ (∀ (i1 : Pub), True ∧ GJ.ok x4 i1 → zbs32 i1 i0) ∧ True) ∧ ((!decide (x0.1 = 0)) = false → ∃ (i3 : List AT), (zbs14 x2).1 = (zbs14 x2).1 ∧ x0.2 = x0.2 ∧ zbs34 i3 x1 ∧ x0.1 = x0.1 ∧ rowsV AT.cells i3 = rowsV AT.cells x2.1 ∧ (ByteArray.size (zbs14 x2).1 < 10000 ∧ ByteArray.size x0.2 < 50000) ∧ zbs27 x0 x2 ∧ ByteArray.size (zbs28 x0 x2) < 1000000 ∧ ∃ (i4 : List AT × Int × GJ × ByteArray), GJ.k i4.2.2.1 = GJ.k x4 ∧ GJ.n i4.2.2.1 = GJ.n x4 ∧ GJ.s i4.2.2.1 = GJ.s x4 ∧ (GJ.y i4.2.2.1).1 = (GJ.y x4).1 ∧ (GJ.y i4.2.2.1).2.1 = (GJ.y x4).2.1 ∧ (GJ.y i4.2.2.1).2.2 = (GJ.y x4).2.2 ∧ (GJ.x i4.2.2.1).1 = (GJ.x x4).1 ∧ (GJ.x i4.2.2.1).2.1 = (GJ.x x4).2.1 ∧ (GJ.x i4.2.2.1).2.2 = (GJ.x x4).2.2 ∧ i4.2.2.2 = mkS [97, 108, 105, 97, 115, 101, 115] ∧ List.length i4.1 = List.length i3 ∧ i4.2.1 = whE (zbs14 x2).1 x0.2 x0.1 ∧ rowsV AT.cells i4.1 = rowsV AT.cells i3 ∧ GJ.wf i4.2.2.1 ∧ (∀ (i5 : Pub), True ∧ GJ.ok x4 i5 → GJ.ok i4.2.2.1 i5) ∧ ∀ (i6 : Unit), True → ∀ (i7 : Option Addr) (i8 i9 : Nat), (∃ (i10 : Pub), zbs18 x4 i8 i7 i9 i4 i10) → zbs1 x0 x1 x2 x7 x4 x5 x6 x3 i8 i7 i9 i4 x8)
end
theorem namedM_eqz (n : Nat) (S : List AT) (e : Int) (g : GJ) (k : Int) (sp : ByteArray) (d : Int) : askR P (ctTab [(68, cGet6), (96, cWordM), (97, cWholeM), (98, cBefore), (99, cTexts), (93, cFind), (71, cAdd), (65, cFailM)]) (rlTab [(100, cFieldsM.below muFd (n + 1)), (101, cSymM)]) Try.f69 (cNamedM.below muNm (n + 1)) (wNamedM) ⟨S, e, g, k, sp, d⟩ = (muNm (S, e, g, k, sp, d) < n + 1 ∧ tmPre (S, e, g, sp, d) ∧ d ≤ 20 ∧ (k = 9 ∨ k = 10 ∨ k = 11) → (∃ (p : Pub), True ∧ GJ.ok g p) → ∃ (s : List AT × Int × GJ × ByteArray × Bool), GJ.k s.2.2.1 = GJ.k g ∧ GJ.n s.2.2.1 = GJ.n g ∧ GJ.s s.2.2.1 = GJ.s g ∧ (GJ.y s.2.2.1).1 = (GJ.y g).1 ∧ (GJ.y s.2.2.1).2.1 = (GJ.y g).2.1 ∧ (GJ.y s.2.2.1).2.2 = (GJ.y g).2.2 ∧ (GJ.x s.2.2.1).1 = (GJ.x g).1 ∧ (GJ.x s.2.2.1).2.1 = (GJ.x g).2.1 ∧ (GJ.x s.2.2.1).2.2 = (GJ.x g).2.2 ∧ s.2.2.2.1 = mkS [110, 97, 109, 101] ∧ s.2.2.2.2 = true ∧ List.length s.1 = List.length S ∧ s.2.1 = e ∧ rowsV AT.cells s.1 = rowsV AT.cells S ∧ GJ.wf s.2.2.1 ∧ (∀ (p : Pub), True ∧ GJ.ok g p → GJ.ok s.2.2.1 p) ∧ ∃ (s_1 : GJ × ByteArray), zbs22 g s_1 (s_1.2 = mkS [110, 97, 109, 101, 115, 112, 97, 99, 101] ∧ GJ.wf s_1.1 ∧ (∀ (p : Pub), True ∧ GJ.ok g p → GJ.ok s_1.1 p) ∧ ((Option.isSome (getK s_1.2 s_1.1) = true → zbs11 S s k g d e s_1) ∧ (Option.isSome (getK s_1.2 s_1.1) = false → zbs24 S s k g sp d e)) ∧ ∀ (s_2 : Int × ByteArray), (s_2.1 = 0 → e = 0) ∧ (↑(ByteArray.size s_2.2) : Int) ≤ 1100 * d → zbs0 s_2 S s e g sp d k n)) := by kernel_rfl
def namedM_eq (n : Nat) (S : List AT) (e : Int) (g : GJ) (k : Int) (sp : ByteArray) (d : Int) := Eq.trans (namedM_eqz n S e g k sp d) (by delta zbs22 zbs25 zbs39 zbs14 zbs34 zbs12 zbs33 zbs30 zbs21 zbs11 zbs24 zbs32 zbs27 zbs28 zbs18 zbs19 zbs31 zbs29 zbs9 zbs6 zbs4 zbs15 zbs36 zbs26 zbs35 zbs37 zbs38 zbs16 zbs40 zbs20 zbs17 zbs13 zbs10 zbs7 zbs5 zbs3 zbs23 zbs8 zbs2 zbs1 zbs0; exact rfl)
def nmAT (k : Int) (W : ByteArray) (al : SV) (als : List ByteArray) : AT := ⟨k, W, al, als, 0, (none, 0, 0), [], false, mkS [], 0, (none, 0, 0), [], (none, 0, 0), []⟩
theorem nmAT_ok {k : Int} {W : ByteArray} {al : SV} {als : List ByteArray} {p : Pub} (h : slP txV al als p) : (nmAT k W al als).ok p := ⟨h, slP_nil, slP_nil, slP_nil, fun f hf => (by cases hf)⟩
theorem set_last (S : List AT) (t u : AT) : (S ++ [t]).set S.length u = S ++ [u] := by
  induction S with
  | nil => rfl
  | cons a S ih => rw [List.cons_append, List.length_cons, List.set_cons_succ, ih]; rfl
theorem get_last (S : List AT) (t : AT) : (S ++ [t])[S.length]? = some t := by
  rw [List.getElem?_append_right (Nat.le_refl _), Nat.sub_self]; rfl
theorem fldS_last (S : List AT) (t : AT) (x : SV) (l : List AF) : fldS (S ++ [t]) (S.length : Int) x l = S ++ [{ t with f := x, fs := l }] := by
  unfold fldS; rw [Int.toNat_natCast, get_last]; exact set_last _ _ _
theorem symS_last (S : List AT) (t : AT) (y : SV) (l : List ByteArray) (hd : Bool) (df : ByteArray) : symS (S ++ [t]) (S.length : Int) y l hd df = S ++ [{ t with sy := y, sys := l, hd := hd, df := df }] := by
  unfold symS; rw [Int.toNat_natCast, get_last]; exact set_last _ _ _
theorem spl_sz (S : List AT) (t : AT) (r : Int) : rowsV AT.cells (S ++ [{ t with sz := r }]) = spl (rowsV AT.cells (S ++ [t])) (0 + S.length * 10 + 7) [.int .i64 r] := by
  rw [rows_app, rows_app, rows_cons, rows_cons, Nat.zero_add, ← rows_len at_len S]
  show _ = (rowsV AT.cells S ++ (t.cells ++ rowsV AT.cells [])).set ((rowsV AT.cells S).length + 7) (.int .i64 r)
  rw [set_mid]
  rfl
theorem befF_size {s : ByteArray} : ∀ i, i ≤ s.size → (befF s i).size ≤ s.size
  | 0, _ => Nat.zero_le _
  | i + 1, h => by
    rw [befF]
    split
    · rw [ByteArray.size_extract]; omega
    · exact befF_size i (by omega)
theorem whE_e {a b : ByteArray} {e : Int} : whE a b e = 0 → e = 0 := by
  unfold whE
  split
  · exact fun h => (faE_z (by decide) h).elim
  · exact fun h => h
theorem namedM_ok (n : Nat) (hf : CtROK P 100 (cFieldsM.below muFd (n + 1))) : CtROK P 69 (cNamedM.below muNm (n + 1)) := by
  refine ask_okR mixed (ctTab_ok (forall_tab get6_ok (forall_tab wordM_ok (forall_tab wholeM_ok (forall_tab before_ok (forall_tab texts_ok (forall_tab findM_ok (forall_tab addM_ok (forall_tab failM_ok nil_tab))))))))) (rlTab_ok (forall_rel hf (forall_rel symM_ok nil_rel))) (W := wNamedM) Try.func69 (by kernel_rfl) (show 1 ≤ 4 by decide) (show 4 ≤ 6 by decide) (fun s => by kernel_rfl) fun ⟨S, (e : Int), g, (k : Int), sp, (d : Int)⟩ => (namedM_eq n S e g k sp d).mpr ?_
  rintro ⟨hmu, ⟨hS, hg, hd1, hd2, hsp⟩, hd3, hk⟩ ⟨p, _, hp⟩
  have hmu : (25 - d).toNat < n + 1 := hmu
  simp only [decide_eq_true_eq, decide_eq_false_iff_not, Bool.not_eq_true', Bool.not_eq_false', true_and, and_true, eq_self, imp_self, implies_true, exists_const, forall_const, Int.toNat_natCast]
  have hnm := woR_sz hg (mkS [110, 97, 109, 101]) true e
  have hwe : (woR g (mkS [110, 97, 109, 101]) true e).2 = 0 → e = 0 := woR_e
  obtain ⟨oww, _⟩ := getK_wf (mkS [110, 97, 109, 101, 115, 112, 97, 99, 101]) hg
  have osz : ((getK (mkS [110, 97, 109, 101, 115, 112, 97, 99, 101]) g).getD zJ).s.size < 1000 := by rw [GJ.wf_eq] at oww; exact oww.1
  have bad0 : ∀ k : Int, k ≠ 0 → tmPost (S, e, g, sp, d) ([], k, 0) := fun k hk => ⟨⟨by rw [List.append_nil]; exact hS, fun h => absurd h hk⟩, fun h => absurd h hk⟩
  refine ⟨⟨S, e, g, mkS [110, 97, 109, 101], true⟩, rfl, rfl, rfl, rfl, rfl, rfl, rfl, rfl, rfl, rfl, rfl, rfl, rfl, rfl, hg, fun q hq => hq, ⟨g, mkS [110, 97, 109, 101, 115, 112, 97, 99, 101]⟩, rfl, rfl, rfl, rfl, rfl, rfl, rfl, rfl, rfl, rfl, hg, fun q hq => hq, ?_⟩
  simp only
  clear oww
  generalize (getK (mkS [110, 97, 109, 101, 115, 112, 97, 99, 101]) g).getD zJ = ow at *
  generalize woR g (mkS [110, 97, 109, 101]) true e = W at *
  refine ⟨⟨fun _ => ⟨fun _ => ⟨S, rfl, rfl, rfl, rfl, fun h => (faE_z (by decide) h).elim, by omega⟩, fun _ => ⟨trivial, hwe, by omega⟩⟩, fun _ => ⟨trivial, hwe, hsp⟩⟩, ?_⟩
  rintro ⟨e2, sp2⟩ ⟨h2, hsp2⟩
  simp only at h2 hsp2 ⊢
  refine ⟨fun hne => ⟨⟨[], e2, 0⟩, rfl, by rw [List.append_nil], rfl, by rw [List.append_nil], bad0 _ hne, fun q _ a ha => (by cases ha)⟩, fun he2 => ?_⟩
  have hws := wholeF_size (a := W.1) (b := sp2)
  have hbs := befF_size (s := wholeF W.1 sp2) _ (Nat.le_refl _)
  refine ⟨S, rfl, rfl, ⟨by omega, by omega⟩, by omega, ⟨S, whE W.1 sp2 e2, g, mkS [97, 108, 105, 97, 115, 101, 115]⟩, rfl, rfl, rfl, rfl, rfl, rfl, rfl, rfl, rfl, rfl, rfl, rfl, rfl, hg, fun q hq => hq, ?_⟩
  have hsz : ∀ x ∈ (txsF g (mkS [97, 108, 105, 97, 115, 101, 115]) (whE W.1 sp2 e2)).1, x.size < 1000 := txsF_mem hg
  have hLl : (txsF g (mkS [97, 108, 105, 97, 115, 101, 115]) (whE W.1 sp2 e2)).1.length < 1000 := txsF_len hg
  have hE : (txsF g (mkS [97, 108, 105, 97, 115, 101, 115]) (whE W.1 sp2 e2)).2.2 = 0 → e = 0 := fun h => h2 (whE_e (txsF_e h))
  simp only
  generalize txsF g (mkS [97, 108, 105, 97, 115, 101, 115]) (whE W.1 sp2 e2) = F at *
  generalize wholeF W.1 sp2 = N at *
  generalize befF N N.size = sp3 at *
  rintro a m c ⟨p1, hp1, hl1⟩
  have hm : m = F.1.length := hl1.1
  subst hm
  have hat2 := fun (k : Nat) (hk : k < F.1.length) (q : Pub) (hq : slP txV (a, F.1.length, c) F.1 q) => (show a ≠ noA ∧ cellsP q (adr a (k * 1)) [.string F.1[k]] from slP_at tx_len (by decide) hq hk)
  refine ⟨⟨⟨0, F.2.2, []⟩, rfl, trivial, rfl, rfl, by show ((0 : Nat) : Int) ≤ 1000; omega, Nat.le_refl _, hE⟩, ?_⟩
  rintro ⟨x, e4, acc⟩ ⟨hx0, hacc, h4⟩
  simp only at hx0 hacc h4 ⊢
  refine ⟨fun hx => ⟨fun h0 => ⟨⟨by omega, by omega⟩, (hat2 x (by omega) p1 hl1).1, F.1[x]'(by omega), fun q hq => (hat2 x (by omega) q hq.2).2, S, rfl, rfl, ⟨by have := hsz _ (List.getElem_mem (show x < F.1.length by omega)); omega, by omega⟩, rows_len tx_len acc, by omega, ⟨by omega, by omega⟩, ⟨x + 1, whE (F.1[x]'(by omega)) sp3 e4, acc ++ [wholeF (F.1[x]'(by omega)) sp3]⟩, by show ((x + 1 : Nat) : Int) = _; omega, rfl, rfl, by simp, rfl, by rw [rows_app]; rfl, ⟨by show ((x + 1 : Nat) : Int) ≤ 1000; omega, by show (acc ++ [_]).length ≤ x + 1; simp; omega, fun h => h4 (whE_e h)⟩, by show 1000 - (x + 1) < 1000 - x; omega⟩, fun h0 => ?xa⟩, fun hx => ?xb⟩
  case xa | xb =>
    refine ⟨S, rfl, rfl, by omega, ⟨⟨fun _ => ⟨fun _ => ⟨S, rfl, rfl, rfl, rfl, fun h => (faE_z (by decide) h).elim⟩, fun _ => ⟨rfl, h4⟩⟩, fun _ => ⟨rfl, h4⟩⟩, ?_⟩⟩
    intro e5 h5
    refine ⟨fun hne => ⟨⟨[], e5, 0⟩, rfl, by rw [List.append_nil], rfl, by rw [List.append_nil], bad0 _ hne, fun q _ a ha => (by cases ha)⟩, fun he5 => ?_⟩
    intro a7 c1 _
    have e0 := h5 he5
    have hal : ∀ q, (acc.length ≤ c1 ∧ rowP q a7 (List.take (acc.length * 1) (rowsV txV acc))) → slP txV (a7, acc.length, c1) acc q := fun q hq => by
      refine ⟨rfl, hq.1, ?_⟩
      have := hq.2
      rw [List.take_of_length_le (by rw [rows_len tx_len]; exact Nat.le_refl _)] at this
      exact this
    refine ⟨⟨S, e5, nmAT k N (a7, acc.length, c1) acc⟩, rfl, rfl, rfl, rfl, rfl, rfl, rfl, rfl, rfl, rfl, rfl, rfl, rfl, rfl, rfl, rfl, rfl, rfl, rfl, rfl, rfl, ?_⟩
    have hto : ∀ q, slP txV (a7, acc.length, c1) acc q → (nmAT k N (a7, acc.length, c1) acc).ok q := fun q h => nmAT_ok h
    have htk : (nmAT k N (a7, acc.length, c1) acc).k = k := rfl
    have hte : nmAT k N (a7, acc.length, c1) acc = ⟨k, N, (a7, acc.length, c1), acc, 0, (none, 0, 0), [], false, mkS [], 0, (none, 0, 0), [], (none, 0, 0), []⟩ := rfl
    simp only
    generalize nmAT k N (a7, acc.length, c1) acc = t at *
    have adl := adT_len S t hS
    have adok : ∀ q, slP txV (a7, acc.length, c1) acc q → ∀ a ∈ adT S t, a.ok q := fun q hq a ha => by
      unfold adT at ha
      split at ha
      · cases ha
      · simp at ha; subst ha; exact hto q hq
    have hR0 : 0 ≤ adR S := by unfold adR; split <;> omega
    have hgood : adE S e5 = 0 → S.length < 60 ∧ adS S t = S ++ [t] ∧ adR S = S.length := fun h => by
      have hl : S.length < 60 := by
        by_cases hl : 60 ≤ S.length
        · exact absurd h (adE_ne hl)
        · omega
      exact ⟨hl, by unfold adS; rw [if_neg (by omega)], by unfold adR; rw [if_neg (by omega)]⟩
    have hbad : ∀ e6 : Int, e6 ≠ 0 → tmPost (S, e, g, sp, d) (adT S t, e6, 0) := fun e6 h6 => ⟨⟨adl, fun h => absurd h h6⟩, fun h => absurd h h6⟩
    refine ⟨fun h9 => ?_, fun h9 => ⟨fun h10 => ?_, fun h10 => ?_⟩⟩
    · refine ⟨⟨adS S t, adE S e5, g, adR S, sp3, d⟩, rfl, rfl, rfl, rfl, rfl, rfl, rfl, rfl, rfl, rfl, rfl, rfl, rfl, rfl, rfl, ⟨hmu, by rw [adS_eq]; exact adl, hg, hR0, fun h => ?_, hd1, hd3, by show (sp3.size : Int) ≤ 1100 * (d + 1); omega⟩, fun q hq => hq.1.1, ?_⟩
      · obtain ⟨hl, q2, q3⟩ := hgood h
        show adR S < ((adS S t).length : Int)
        rw [q2, q3]; simp; omega
      · rintro ⟨T, e6, x, fs⟩ ⟨hT, hT2⟩ ⟨p3, _, hTok, hsl, hfok⟩
        simp only at hT hT2 hTok hsl hfok ⊢
        by_cases h6 : e6 = 0
        · obtain ⟨ha0, hTg, hfg, hf30⟩ := hT2 h6
          obtain ⟨hl, q2, q3⟩ := hgood ha0
          rw [q2] at hT hTg hfg
          rw [if_pos h6, q2, q3, fldS_last, List.append_assoc]
          have hlen : ∀ u : AT, (S ++ (u :: T)).length = S.length + T.length + 1 := fun u => by simp; omega
          have hlen2 : (S ++ [t] ++ T).length = S.length + T.length + 1 := by simp; omega
          refine ⟨⟨{ t with f := x, fs := fs } :: T, e6, S.length⟩, rfl, rfl, rfl, rfl, ⟨⟨by rw [hlen]; omega, fun _ => ⟨e0, fun y hy => ?_⟩⟩, fun _ => ⟨by show 0 ≤ (S.length : Int); omega, by show (S.length : Int) < ((S ++ _ :: T).length : Int); rw [hlen]; omega⟩⟩, fun q hq y hy => ?_⟩
          · rw [hlen]
            rw [hlen2] at hTg hfg
            rcases List.mem_cons.1 hy with rfl | hy
            · subst hte
              exact ⟨by show 1 ≤ k ∧ k ≤ 14; omega, fun h => (by have h : k = 12 ∨ k = 13 := h; omega), fun b hb => (by cases hb), fun h => (by have h : k = 14 := h; omega), hfg, fun h => (by have h : k = 10 := h; omega), fun h => (by have h : k = 11 := h; omega), hf30, Nat.zero_le _, Nat.zero_le _⟩
            · exact hTg y hy
          · rcases List.mem_cons.1 hy with rfl | hy
            · have ho := hto q (hal q hq.1.2)
              exact ⟨ho.1, ho.2.1, hq.2.2.1, ho.2.2.2.1, hq.2.2.2⟩
            · exact hq.2.1 y hy
        · rw [if_neg h6]
          refine ⟨⟨adT S t ++ T, e6, adR S⟩, rfl, by rw [adS_eq, List.append_assoc], rfl, by rw [adS_eq, List.append_assoc], ⟨⟨by rw [← List.append_assoc, ← adS_eq]; exact hT, fun h => absurd h h6⟩, fun h => absurd h h6⟩, fun q hq y hy => (List.mem_append.1 hy).elim (adok q (hal q hq.1.2) y) (hq.2.1 y)⟩
    · refine ⟨⟨adS S t, adE S e5, g, adR S⟩, rfl, rfl, rfl, rfl, rfl, rfl, rfl, rfl, rfl, rfl, rfl, rfl, rfl, ⟨by rw [adS_eq]; exact adl, hg, hR0, fun h => ?_⟩, fun q hq => hq.1.1, ?_⟩
      · obtain ⟨hl, q2, q3⟩ := hgood h
        show adR S < ((adS S t).length : Int)
        rw [q2, q3]; simp; omega
      · rintro ⟨e6, y, l, hd, df⟩ hT2 ⟨p3, _, hsl⟩
        simp only at hT2 hsl ⊢
        by_cases h6 : e6 = 0
        · obtain ⟨ha0, hl0, hl30⟩ := hT2 h6
          obtain ⟨hl, q2, q3⟩ := hgood ha0
          rw [if_pos h6, q2, q3, symS_last]
          refine ⟨⟨[{ t with sy := y, sys := l, hd := hd, df := df }], e6, S.length⟩, rfl, rfl, rfl, rfl, ⟨⟨by simp; omega, fun _ => ⟨e0, fun z hz => ?_⟩⟩, fun _ => ⟨by show 0 ≤ (S.length : Int); omega, by simp; omega⟩⟩, fun q hq z hz => ?_⟩
          · simp at hz; subst hz; subst hte
            exact ⟨by show 1 ≤ k ∧ k ≤ 14; omega, fun h => (by have h : k = 12 ∨ k = 13 := h; omega), fun b hb => (by cases hb), fun h => (by have h : k = 14 := h; omega), fun f hf => (by cases hf), fun _ => hl0, fun h => (by have h : k = 11 := h; omega), Nat.zero_le _, Nat.zero_le _, hl30⟩
          · simp at hz; subst hz
            have ho := hto q (hal q hq.1.2)
            exact ⟨ho.1, hq.2, ho.2.2.1, ho.2.2.2.1, ho.2.2.2.2⟩
        · rw [if_neg h6]
          refine ⟨⟨adT S t, e6, adR S⟩, rfl, by rw [adS_eq], rfl, by rw [adS_eq], ⟨⟨adl, fun h => absurd h h6⟩, fun h => absurd h h6⟩, fun q hq y hy => adok q (hal q hq.1.2) y hy⟩
    · obtain ⟨zw, _⟩ := getK_wf (mkS [115, 105, 122, 101]) hg
      refine ⟨⟨g, mkS [115, 105, 122, 101]⟩, rfl, rfl, rfl, rfl, rfl, rfl, rfl, rfl, rfl, rfl, hg, fun q hq => hq.1.1, ?_⟩
      simp only
      have hbd : ∀ k : Int, k ≠ 0 → ∃ b : List AT, b.length = (adS S t).length ∧ rowsV AT.cells b = rowsV AT.cells (adS S t) ∧ ∃ b_2 : TmB, b_2.2.2 = 0 ∧ (S ++ b_2.1).length = b.length ∧ b_2.2.1 = faE (adE S e5) k ∧ rowsV AT.cells (S ++ b_2.1) = rowsV AT.cells b ∧ tmPost (S, e, g, sp, d) b_2 ∧ ∀ q, ((g.ok q ∧ slP txV (a, F.1.length, c) F.1 q) ∧ acc.length ≤ c1 ∧ rowP q a7 (List.take (acc.length * 1) (rowsV txV acc))) → ∀ y ∈ b_2.1, y.ok q := fun k hk => ⟨adS S t, rfl, rfl, ⟨adT S t, faE (adE S e5) k, 0⟩, rfl, by rw [adS_eq], rfl, by rw [adS_eq], hbad _ (faE_ne hk), fun q hq => adok q (hal q hq.2)⟩
      generalize (getK (mkS [115, 105, 122, 101]) g).getD zJ = zs at *
      refine ⟨fun _ => hbd 2 (by decide), fun _ => ⟨fun _ => hbd 2 (by decide), fun _ => ⟨fun _ => hbd 6 (by decide), fun z0 => ⟨fun _ => hbd 6 (by decide), fun z1 => ⟨fun ha0 => ?_, fun ha0 => ⟨⟨adT S t, adE S e5, adR S⟩, rfl, by rw [adS_eq], rfl, by rw [adS_eq], ⟨⟨adl, fun h => absurd h ha0⟩, fun h => absurd h ha0⟩, fun q hq => adok q (hal q hq.2)⟩⟩⟩⟩⟩⟩
      clear hbd
      obtain ⟨hl, q2, q3⟩ := hgood ha0
      rw [q2, q3, Int.toNat_natCast]
      have hlen : ∀ u : AT, (S ++ [u]).length = S.length + 1 := fun u => by simp
      refine ⟨⟨by omega, by rw [hlen]; omega⟩, by rw [rows_len at_len, hlen]; show 0 + S.length * 10 + 7 + 1 ≤ _; omega, ⟨[{ t with sz := zs.n }], adE S e5, S.length⟩, rfl, by show (S ++ [_]).length = _; rw [hlen, hlen], rfl, spl_sz S t zs.n, ⟨⟨by rw [hlen]; omega, fun _ => ⟨e0, fun z hz => ?_⟩⟩, fun _ => ⟨by show 0 ≤ (S.length : Int); omega, by rw [hlen]; show (S.length : Int) < _; omega⟩⟩, fun q hq z hz => ?_⟩
      · simp at hz; subst hz; subst hte
        exact ⟨by show 1 ≤ k ∧ k ≤ 14; omega, fun h => (by have h : k = 12 ∨ k = 13 := h; omega), fun b hb => (by cases hb), fun h => (by have h : k = 14 := h; omega), fun f hf => (by cases hf), fun h => (by have h : k = 10 := h; omega), fun _ => ⟨by show 0 ≤ zs.n; omega, by show zs.n ≤ 5000; omega⟩, Nat.zero_le _, Nat.zero_le _, Nat.zero_le _⟩
      · simp at hz; subst hz
        have ho := hto q (hal q hq.2)
        exact ⟨ho.1, ho.2.1, ho.2.2.1, ho.2.2.2.1, ho.2.2.2.2⟩
/-! A schema out of a tree: all of it. -/
theorem maker_all : ∀ n, CtROK P 45 (cTreeM.below muTm n)
  | 0 => CtR.below_zero (by decide) (by decide) (Sen.enters_of Try.func45 (by kernel_rfl)) fun s => rfl
  | n + 1 => treeM_ok n (maker_all n) (unionM_ok n (maker_all n)) (namedM_ok n (fieldsM_ok n (maker_all n)))
theorem treeM_fin : CtROK P 45 cTreeM := CtR.of_below maker_all
def goodS (S : List AT) : Prop := S.length ≤ 60 ∧ ∀ a ∈ S, goodT S.length a
def cFromM : CtR where
  σ := GJ
  args := fun g => [g.av]
  h := fun _ => []
  m := 1
  pre := fun g => g.wf
  mem := gM
  β := fun _ => List AT × SV × Int
  post := fun g ⟨S, x, e⟩ => goodS S ∧ (e = 0 → S ≠ [])
  pm := fun _ ⟨S, x, e⟩ => ⟨true, schP S x, fun _ _ h e => schP_mono h e⟩
  r := fun _ ⟨S, x, e⟩ => .tup [scA x, .sv (.int .i64 e)]
  h' := fun _ _ => []
  m' := 1
def wFromM : GJ → WayF := fun g => { pubE := [23] }
noncomputable section
variable (x0 : TmB) (x1 : GJ) (x2 : TmS) (x3 : Nat → Option Obj) (x4 : Nat) (x5 : Option Addr)
 abbrev zbt1 := AV.sv (Value.int IntKind.i64 x0.2.1) = AV.sv (Value.int IntKind.i64 x0.2.1) ∧ ∃ (i0 : List AT × (Option Addr × Nat × Nat) × Int), i0.2.1.1 = noA ∧ i0.2.1.2.1 = 0 ∧ i0.2.1.2.2 = 0 ∧ i0.2.2 = x0.2.1 ∧ (goodS i0.1 ∧ (i0.2.2 = 0 → i0.1 ≠ [])) ∧ (∀ (i1 : Pub), ((True ∧ GJ.ok x1 i1) ∧ ∀ (i2 : AT), i2 ∈ x0.1 → AT.ok i2 i1) → schP i0.1 i0.2.1 i1) ∧ True
 abbrev zbt2 := ((True ∧ GJ.ok x1 x3) ∧ ∀ (i0 : AT), i0 ∈ x0.1 → AT.ok i0 x3) ∧ List.length (x2.1 ++ x0.1) ≤ x4 ∧ rowP x3 x5 (List.take (List.length (x2.1 ++ x0.1) * nat_lit 10) (rowsV AT.cells (x2.1 ++ x0.1)))
 abbrev zbt0 := ((!decide (x0.2.1 = 0)) = true → zbt1 x0 x1) ∧ ((!decide (x0.2.1 = 0)) = false → ∀ (i3 i4 i5 : Nat) (i6 : Option Addr) (i7 i8 : Nat), (∃ (i9 : Pub), zbt2 x0 x1 x2 i9 i8 i6) → ∃ (i11 : List AT × (Option Addr × Nat × Nat) × Int), i11.2.1.1 = i6 ∧ i11.2.1.2.1 = List.length (x2.1 ++ x0.1) ∧ i11.2.1.2.2 = i8 ∧ i11.2.2 = 0 ∧ (goodS i11.1 ∧ (i11.2.2 = 0 → i11.1 ≠ [])) ∧ (∀ (i12 : Pub), zbt2 x0 x1 x2 i12 i8 i6 → schP i11.1 i11.2.1 i12) ∧ True)
end
theorem fromM_eqz (g : GJ) : askR P (ctTab []) (rlTab [(45, cTreeM)]) Try.f26 cFromM (wFromM) g = (GJ.wf g → (∃ (p : Pub), True ∧ GJ.ok g p) → ∃ (s : TmS), GJ.k s.2.2.1 = GJ.k g ∧ GJ.n s.2.2.1 = GJ.n g ∧ GJ.s s.2.2.1 = GJ.s g ∧ (GJ.y s.2.2.1).1 = (GJ.y g).1 ∧ (GJ.y s.2.2.1).2.1 = (GJ.y g).2.1 ∧ (GJ.y s.2.2.1).2.2 = (GJ.y g).2.2 ∧ (GJ.x s.2.2.1).1 = (GJ.x g).1 ∧ (GJ.x s.2.2.1).2.1 = (GJ.x g).2.1 ∧ (GJ.x s.2.2.1).2.2 = (GJ.x g).2.2 ∧ s.2.2.2.1 = mkS [] ∧ s.2.2.2.2 = 1 ∧ List.length s.1 = 0 ∧ s.2.1 = 0 ∧ tmPre s ∧ (∀ (p : Pub), True ∧ GJ.ok g p → GJ.ok s.2.2.1 p) ∧ ∀ (b : TmB), tmPost s b → (∃ (p : Pub), (True ∧ GJ.ok g p) ∧ ∀ (a : AT), a ∈ b.1 → AT.ok a p) → zbt0 b g s) := by kernel_rfl
def fromM_eq (g : GJ) := Eq.trans (fromM_eqz g) (by delta zbt1 zbt2 zbt0; exact rfl)
theorem fromM_ok : CtROK P 26 cFromM := by
  refine ask_okR mixed (ctTab_ok nil_tab) (rlTab_ok (forall_rel treeM_fin nil_rel)) (W := wFromM) Try.func26 (by kernel_rfl) (show 1 ≤ 1 by decide) (show 1 ≤ 1 by decide) (fun s => by kernel_rfl) fun g => (fromM_eq g).mpr ?_
  rintro hg ⟨p, _, hp⟩
  simp only [decide_eq_true_eq, decide_eq_false_iff_not, Bool.not_eq_true', Bool.not_eq_false', true_and, and_true, eq_self, imp_self, implies_true, exists_const, forall_const, Int.toNat_natCast]
  refine ⟨⟨[], 0, g, mkS [], 1⟩, rfl, rfl, rfl, rfl, rfl, rfl, rfl, rfl, rfl, rfl, rfl, rfl, rfl, ⟨Nat.zero_le _, hg, by decide, by decide, by show ((0 : Nat) : Int) ≤ _; decide⟩, fun q hq => hq, ?_⟩
  rintro ⟨T, e, r⟩ ⟨⟨hT, hT2⟩, hr⟩ _
  simp only at hT hT2 hr ⊢
  rw [List.nil_append] at hT hT2 hr
  refine ⟨fun hne => ⟨⟨[], (none, 0, 0), e⟩, rfl, rfl, rfl, rfl, ⟨⟨Nat.zero_le _, fun a ha => (by cases ha)⟩, fun h => absurd h hne⟩, fun q hq => ⟨slP_nil, fun a ha => (by cases ha)⟩⟩, fun he => ?_⟩
  intro a c _
  obtain ⟨_, hg2⟩ := hT2 he
  refine ⟨⟨T, (a, T.length, c), 0⟩, rfl, rfl, rfl, rfl, ⟨⟨hT, hg2⟩, fun _ h => ?_⟩, fun q hq => ⟨⟨rfl, hq.2.1, ?_⟩, hq.1.2⟩⟩
  · have h : T = [] := h
    subst h; have := hr he; simp at this; omega
  · have := hq.2.2
    rw [List.nil_append, List.take_of_length_le (by rw [rows_len at_len]; exact Nat.le_refl _)] at this
    exact this
/-! What defaults may come to: that it is a value, no more. -/
def ctN (σ : Type) (args : σ → List AV) (pre : σ → Prop) (mem : σ → PF) (β : Type) (post : σ → β → Prop) (pm : σ → β → PF) (r : σ → β → AV) : CtR where
  σ := σ
  args := args
  h := fun _ => []
  m := 1
  pre := pre
  mem := mem
  β := fun _ => β
  post := post
  pm := pm
  r := r
  h' := fun _ _ => []
  m' := 1
def u64P (n : Int) : Prop := 0 ≤ n ∧ n < 18446744073709551616
def cNear : CtR := ctN (Int × Int × Int) (fun ⟨v, f, b⟩ => [.sv (.int .u64 v), .sv (.int .i64 f), .sv (.int .i64 b)]) (fun ⟨v, f, b⟩ => u64P v ∧ 1 ≤ f ∧ f ≤ 62 ∧ 0 ≤ b ∧ b ≤ 2000) (fun _ => {}) Int (fun _ r => u64P r) (fun _ _ => {}) fun _ r => .sv (.int .u64 r)
def wNear : cNear.σ → WayF := fun ⟨v, f, b⟩ => {
  ann := fun _ _ _ => some { σ := Nat, pre := fun e => e ≤ 63, t := fun e => [(7, .sv (.int .i64 (e : Int)))], h := fun _ => [], more := 0, μ := fun e => e, keep := [0, 1, 2, 6] }
  cut := fun i _ _ => match i with
    | 7 => some { σ := Nat, pre := fun e => e ≤ 63, t := fun e => [(7, .sv (.int .i64 (e : Int)))], h := fun _ => [], more := 0, μ := fun _ => 0, keep := [0, 1, 2, 6, 8] }
    | 15 => some { σ := Int × Int, t := fun ⟨e, m⟩ => [(7, .sv (.int .i64 e)), (8, .sv (.int .u64 m))], pre := fun ⟨e, m⟩ => 0 ≤ e ∧ e ≤ 63, h := fun _ => [], more := 0, μ := fun _ => 0, keep := [1, 2, 6] }
    | _ => none }
def i64P (n : Int) : Prop := -9223372036854775808 ≤ n ∧ n < 9223372036854775808
def cFloat : CtR := ctN Int (fun v => [.sv (.int .i64 v)]) i64P (fun _ => {}) Int (fun _ r => 0 ≤ r ∧ r < 4294967296) (fun _ _ => {}) fun _ r => .sv (.int .u32 r)
def cDouble : CtR := ctN Int (fun v => [.sv (.int .i64 v)]) i64P (fun _ => {}) Int (fun _ r => u64P r) (fun _ _ => {}) fun _ r => .sv (.int .u64 r)
def cRaw : CtR := ctN ByteArray (fun s => [.sv (.string s)]) (fun s => s.size < 1000000) (fun _ => {}) (ByteArray × Bool) (fun s ⟨r, b⟩ => r.size ≤ s.size) (fun _ _ => {}) fun _ ⟨r, b⟩ => .tup [.sv (.string r), .sv (.bool b)]
def wRaw : cRaw.σ → WayF := fun s => {
  ann := fun _ _ _ => some { σ := ByteArray × ByteArray, pre := fun ⟨q, u⟩ => q.size + u.size ≤ s.size, t := fun ⟨q, u⟩ => [(4, .sv (.string q)), (0, .sv (.string u))], h := fun _ => [], more := 0, μ := fun ⟨q, u⟩ => u.size, keep := [] } }
/-! Put. -/
def kIx (k : ByteArray) : List ByteArray → Nat
  | [] => 0
  | a :: l => if sLess a k = true then kIx k l + 1 else 0
def putHas (k : ByteArray) (ks : List ByteArray) : Bool := decide (ks[kIx k ks]? = some k)
def putV (k : ByteArray) (ks : List ByteArray) (l : List PV) (w : PV) : List PV := if putHas k ks = true then l.set (kIx k ks) w else l.take (kIx k ks) ++ w :: l.drop (kIx k ks)
def putS (k : ByteArray) (ks : List ByteArray) : List ByteArray := if putHas k ks = true then ks else ks.take (kIx k ks) ++ k :: ks.drop (kIx k ks)
def cPut : CtR := ctN (GV × ByteArray × GV) (fun ⟨v, k, w⟩ => [v.av, .sv (.string k), w.av]) (fun ⟨v, k, w⟩ => v.ks.length = v.l.length ∧ v.l.length < 1000000) (fun ⟨v, k, w⟩ => ⟨true, fun p => v.ok p ∧ w.ok p, fun _ _ h e => ⟨GV.ok_mono h e.1, GV.ok_mono h e.2⟩⟩) GV (fun ⟨v, k, w⟩ u => u.pv = .mk v.n v.s (putV k v.ks (GV.pvs v.l) w.pv) (putS k v.ks) v.b) (fun _ u => vM u) fun _ u => u.av
def wPut : cPut.σ → WayF := fun ⟨v, k, w⟩ => {
  ann := fun _ _ _ => some { σ := Nat, pre := fun j => j ≤ v.ks.length ∧ j + kIx k (v.ks.drop j) = kIx k v.ks, t := fun j => [(7, .sv (.int .i64 (j : Int)))], h := fun _ => [], more := 0, μ := fun j => v.ks.length - j, keep := [1, 3, 5, 6] }
  cut := fun i _ _ => match i with
    | 4 => some { σ := Nat, pre := fun j => j = kIx k v.ks ∧ j ≤ v.ks.length, t := fun j => [(7, .sv (.int .i64 (j : Int)))], h := fun _ => [], more := 0, μ := fun _ => 0, keep := [1, 3, 5, 6] }
    | 8 => some { σ := Unit, pre := fun j => putHas k v.ks = false, t := fun j => [], h := fun _ => [], more := 0, μ := fun _ => 0, keep := [1, 3, 5, 6, 7] }
    | _ => none
  pub := fun i k => match i, k with
    | 7, 1 => [48]
    | 10, 1 => [79]
    | _, _ => [] }
noncomputable section
variable (x0 : Int) (x1 : Int) (x2 : Int) (x3 : Nat) (x4 : Int × Int)
 abbrev zbu11 := ((-9223372036854775808 : Int) ≤ (↑x3 : Int) - 1 ∧ (↑x3 : Int) - 1 ≤ 9223372036854775807) ∧ ∃ (i0 : Nat), x0 = x0 ∧ x1 = x1 ∧ (↑i0 : Int) = (↑x3 : Int) - 1 ∧ x2 = x2 ∧ i0 ≤ 63 ∧ i0 < x3 ∧ True
 abbrev zbu10 := 0 ≤ x4.1 ∧ x4.1 ≤ 63
 abbrev zbu9 := ((-9223372036854775808 : Int) ≤ x0 - (↑x3 : Int) ∧ x0 - (↑x3 : Int) ≤ 9223372036854775807) ∧ 0 ≤ x0 - (↑x3 : Int) ∧ ∃ (i0 : Int × Int), x0 = x0 ∧ i0.1 = (↑x3 : Int) ∧ x1 = x1 ∧ i0.2 = shP BinOp.shl IntKind.u64 x2 (x0 - (↑x3 : Int)) ∧ (zbu10 i0) ∧ True
 abbrev zbu13 := shP BinOp.shl IntKind.u64 1 ((↑x3 : Int) - x0)
 abbrev zbu12 := ∃ (i0 : Int × Int), x0 = x0 ∧ i0.1 = (↑x3 : Int) ∧ x1 = x1 ∧ i0.2 = IntKind.wrap IntKind.u64 (shP BinOp.shr IntKind.u64 x2 ((↑x3 : Int) - x0) + 1) ∧ (zbu10 i0) ∧ True
 abbrev zbu14 := ∃ (i0 : Int × Int), x0 = x0 ∧ i0.1 = (↑x3 : Int) ∧ x1 = x1 ∧ i0.2 = shP BinOp.shr IntKind.u64 x2 ((↑x3 : Int) - x0) ∧ (zbu10 i0) ∧ True
 abbrev zbu7 := (2 : Int) ≠ 0 ∧ (decide (Int.tmod (shP BinOp.shr IntKind.u64 x0 ((↑x3 : Int) - x1)) (2 : Int) = 1) = true → zbu12 x1 x2 x0 x3) ∧ (decide (Int.tmod (shP BinOp.shr IntKind.u64 x0 ((↑x3 : Int) - x1)) (2 : Int) = 1) = false → zbu14 x1 x2 x0 x3)
 abbrev zbu6 := (decide (Int.tmod x0 (zbu13 x1 x3) = shP BinOp.shl IntKind.u64 1 ((↑x3 : Int) - x1 - 1)) = true → zbu7 x0 x1 x2 x3) ∧ (decide (Int.tmod x0 (zbu13 x1 x3) = shP BinOp.shl IntKind.u64 1 ((↑x3 : Int) - x1 - 1)) = false → zbu14 x1 x2 x0 x3)
 abbrev zbu5 := ((-9223372036854775808 : Int) ≤ (↑x3 : Int) - x0 ∧ (↑x3 : Int) - x0 ≤ 9223372036854775807) ∧ ((-9223372036854775808 : Int) ≤ (↑x3 : Int) - x0 - 1 ∧ (↑x3 : Int) - x0 - 1 ≤ 9223372036854775807) ∧ 0 ≤ (↑x3 : Int) - x0 - 1 ∧ 0 ≤ (↑x3 : Int) - x0 ∧ shP BinOp.shl IntKind.u64 1 ((↑x3 : Int) - x0) ≠ 0 ∧ 0 ≤ (↑x3 : Int) - x0 ∧ (decide (shP BinOp.shl IntKind.u64 1 ((↑x3 : Int) - x0 - 1) < Int.tmod x1 (zbu13 x0 x3)) = true → zbu12 x0 x2 x1 x3) ∧ (decide (shP BinOp.shl IntKind.u64 1 ((↑x3 : Int) - x0 - 1) < Int.tmod x1 (zbu13 x0 x3)) = false → zbu6 x1 x0 x2 x3)
 abbrev zbu8 := ((-9223372036854775808 : Int) ≤ x4.1 + x0 ∧ x4.1 + x0 ≤ 9223372036854775807) ∧ 0 ≤ x1 ∧ 0 ≤ x1 ∧ ∃ (i0 : Int), i0 = IntKind.wrap IntKind.u64 (shP BinOp.shl IntKind.u64 (IntKind.wrap IntKind.u64 (x4.1 + x0)) x1 + IntKind.wrap IntKind.u64 (x4.2 - shP BinOp.shl IntKind.u64 1 x1)) ∧ u64P i0 ∧ True
 abbrev zbu4 := ((decide ((↑x3 : Int) ≤ x0) = true → zbu9 x0 x1 x2 x3) ∧ (decide ((↑x3 : Int) ≤ x0) = false → zbu5 x0 x2 x1 x3)) ∧ ∀ (i5 : Int × Int), zbu10 i5 → zbu8 x1 x0 i5
 abbrev zbu3 := (∃ (i0 : Nat), x0 = x0 ∧ x1 = x1 ∧ (↑i0 : Int) = (↑x3 : Int) ∧ x2 = x2 ∧ i0 ≤ 63 ∧ True) ∧ ∀ (i1 : Nat), i1 ≤ 63 → zbu4 x1 x2 x0 i1
 abbrev zbu2 := 0 ≤ (↑x3 : Int) ∧ (decide (shP BinOp.shr IntKind.u64 x0 (↑x3 : Int) = 0) = true → zbu11 x0 x1 x2 x3) ∧ (decide (shP BinOp.shr IntKind.u64 x0 (↑x3 : Int) = 0) = false → zbu3 x0 x1 x2 x3)
 abbrev zbu1 := (∃ (i0 : Nat), x0 = x0 ∧ x1 = x1 ∧ (↑i0 : Int) = 63 ∧ x2 = x2 ∧ i0 ≤ 63 ∧ True) ∧ ∀ (i1 : Nat), i1 ≤ 63 → zbu2 x0 x1 x2 i1
 abbrev zbu0 := (decide (x0 = 0) = true → ∃ (i0 : Int), i0 = 0 ∧ u64P i0 ∧ True) ∧ (decide (x0 = 0) = false → zbu1 x0 x1 x2)
end
theorem near_eqz (v f b : Int) : askR P (ctTab []) (rlTab []) Try.f124 cNear (wNear) ⟨v, f, b⟩ = (u64P v ∧ 1 ≤ f ∧ f ≤ 62 ∧ 0 ≤ b ∧ b ≤ 2000 → zbu0 v f b) := by kernel_rfl
def near_eq (v f b : Int) := Eq.trans (near_eqz v f b) (by delta zbu11 zbu10 zbu9 zbu13 zbu12 zbu14 zbu7 zbu6 zbu5 zbu8 zbu4 zbu3 zbu2 zbu1 zbu0; exact rfl)
noncomputable section
variable (x0 : Int) (x1 : Int × Int × Int) (x2 : Prop)
 abbrev zbv2 := x1.2.1 = 23 ∧ x1.2.2 = 127 ∧ (u64P x1.1 ∧ 1 ≤ x1.2.1 ∧ x1.2.1 ≤ 62 ∧ 0 ≤ x1.2.2 ∧ x1.2.2 ≤ 2000) ∧ x2
 abbrev zbv1 := ((-9223372036854775808 : Int) ≤ x0 + 1 ∧ x0 + 1 ≤ 9223372036854775807) ∧ ((-9223372036854775808 : Int) ≤ 0 - (x0 + 1) ∧ (0 : Int) - (x0 + 1) ≤ 9223372036854775807) ∧ ∃ (i0 : Int × Int × Int), i0.1 = IntKind.wrap IntKind.u64 (IntKind.wrap IntKind.u64 ((0 : Int) - (x0 + 1)) + 1) ∧ zbv2 i0 (∀ (i1 : Int), u64P i1 → ∃ (i2 : Int), i2 = bitsP BinOp.or IntKind.u32 2147483648 (IntKind.wrap IntKind.u32 i1) ∧ (0 ≤ i2 ∧ i2 < 4294967296) ∧ True)
 abbrev zbv0 := (decide (x0 < 0) = true → zbv1 x0) ∧ (decide (x0 < 0) = false → ∃ (i3 : Int × Int × Int), i3.1 = IntKind.wrap IntKind.u64 x0 ∧ zbv2 i3 (∀ (i4 : Int), u64P i4 → ∃ (i5 : Int), i5 = IntKind.wrap IntKind.u32 i4 ∧ (0 ≤ i5 ∧ i5 < 4294967296) ∧ True))
end
theorem float_eqz (v : Int) : askR P (ctTab []) (rlTab [(124, cNear)]) Try.f104 cFloat (fun _ => {}) v = (i64P v → zbv0 v) := by kernel_rfl
def float_eq (v : Int) := Eq.trans (float_eqz v) (by delta zbv2 zbv1 zbv0; exact rfl)
noncomputable section
variable (x0 : Int) (x1 : Int × Int × Int) (x2 : Prop)
 abbrev zbw2 := x1.2.1 = 52 ∧ x1.2.2 = 1023 ∧ (u64P x1.1 ∧ 1 ≤ x1.2.1 ∧ x1.2.1 ≤ 62 ∧ 0 ≤ x1.2.2 ∧ x1.2.2 ≤ 2000) ∧ x2
 abbrev zbw1 := ((-9223372036854775808 : Int) ≤ x0 + 1 ∧ x0 + 1 ≤ 9223372036854775807) ∧ ((-9223372036854775808 : Int) ≤ 0 - (x0 + 1) ∧ (0 : Int) - (x0 + 1) ≤ 9223372036854775807) ∧ ∃ (i0 : Int × Int × Int), i0.1 = IntKind.wrap IntKind.u64 (IntKind.wrap IntKind.u64 ((0 : Int) - (x0 + 1)) + 1) ∧ zbw2 i0 (∀ (i1 : Int), u64P i1 → ∃ (i2 : Int), i2 = bitsP BinOp.or IntKind.u64 9223372036854775808 i1 ∧ u64P i2 ∧ True)
 abbrev zbw0 := (decide (x0 < 0) = true → zbw1 x0) ∧ (decide (x0 < 0) = false → ∃ (i3 : Int × Int × Int), i3.1 = IntKind.wrap IntKind.u64 x0 ∧ zbw2 i3 (∀ (i4 : Int), u64P i4 → ∃ (i5 : Int), i5 = i4 ∧ u64P i5 ∧ True))
end
theorem double_eqz (v : Int) : askR P (ctTab []) (rlTab [(124, cNear)]) Try.f105 cDouble (fun _ => {}) v = (i64P v → zbw0 v) := by kernel_rfl
def double_eq (v : Int) := Eq.trans (double_eqz v) (by delta zbw2 zbw1 zbw0; exact rfl)
theorem pointC_eq (s : ByteArray) : askF P (ctTab [(50, cPoint)]) Try.f125 cPoint (fun _ => {}) s = (ByteArray.size s < (9223372036854775808 : Nat) → s = s ∧ ByteArray.size s < (9223372036854775808 : Nat) ∧ (↑(ptV s) : Int) = (↑(ptV s) : Int) ∧ (↑(frt s) : Int) = (↑(frt s) : Int) ∧ True) := by kernel_rfl
noncomputable section
variable (x0 : ByteArray) (x1 : ByteArray × ByteArray)
 abbrev zbx4 := ∃ (i0 : ByteArray × Bool), i0.1 = mkS [] ∧ i0.2 = false ∧ ByteArray.size i0.1 ≤ ByteArray.size x0 ∧ True
 abbrev zbx3 := (decide (255 < (↑(ptV x1.2) : Int)) = true → zbx4 x0) ∧ (decide (255 < (↑(ptV x1.2) : Int)) = false → ∃ (i1 : ByteArray), ByteArray.size i1 = 1 ∧ subL [Value.int IntKind.u8 (IntKind.wrap IntKind.u8 (↑(ptV x1.2) : Int))] 0 (bcells i1) ∧ ByteArray.size x1.1 + ByteArray.size i1 ≤ 9223372036854775807 ∧ (0 ≤ (↑(frt x1.2) : Int) ∧ (↑(frt x1.2) : Int) ≤ (↑(ByteArray.size x1.2) : Int)) ∧ ∃ (i2 : ByteArray × ByteArray), i2.2 = ByteArray.extract x1.2 (Int.toNat (↑(frt x1.2) : Int)) (ByteArray.size x1.2) ∧ i2.1 = x1.1 ++ i1 ∧ ByteArray.size i2.1 + ByteArray.size i2.2 ≤ ByteArray.size x0 ∧ ByteArray.size i2.2 < ByteArray.size x1.2 ∧ True)
 abbrev zbx2 := x1.2 = x1.2 ∧ ByteArray.size x1.2 < 9223372036854775808 ∧ (decide ((↑(frt x1.2) : Int) = 0) = true → zbx4 x0) ∧ (decide ((↑(frt x1.2) : Int) = 0) = false → zbx3 x0 x1)
 abbrev zbx1 := (decide (0 < (↑(ByteArray.size x1.2) : Int)) = true → zbx2 x0 x1) ∧ (decide (0 < (↑(ByteArray.size x1.2) : Int)) = false → ∃ (i4 : ByteArray × Bool), i4.1 = x1.1 ∧ i4.2 = true ∧ ByteArray.size i4.1 ≤ ByteArray.size x0 ∧ True)
 abbrev zbx0 := (∃ (i0 : ByteArray × ByteArray), i0.2 = x0 ∧ i0.1 = mkS [] ∧ ByteArray.size i0.1 + ByteArray.size i0.2 ≤ ByteArray.size x0 ∧ True) ∧ ∀ (i1 : ByteArray × ByteArray), ByteArray.size i1.1 + ByteArray.size i1.2 ≤ ByteArray.size x0 → zbx1 x0 i1
end
theorem raw_eqz (s : ByteArray) : askR P (ctTab [(125, cPoint)]) (rlTab []) Try.f106 cRaw (wRaw) s = (ByteArray.size s < 1000000 → zbx0 s) := by kernel_rfl
def raw_eq (s : ByteArray) := Eq.trans (raw_eqz s) (by delta zbx4 zbx3 zbx2 zbx1 zbx0; exact rfl)
noncomputable section
variable (x0 : ByteArray) (x1 : GV) (x2 : GV) (x3 : Nat) (x4 : Prop) (x5 : Nat → Option Obj) (x6 : Nat) (x7 : Option Addr) (x8 : List Value) (x9 : List Value) (x10 : GV)
 abbrev zby15 := True ∧ GV.ok x1 x5 ∧ GV.ok x2 x5
 abbrev zby11 := GV.n x1 = GV.n x1 ∧ GV.s x1 = GV.s x1 ∧ (GV.x x1).1 = (GV.x x1).1 ∧ (GV.x x1).2.1 = (GV.x x1).2.1 ∧ (GV.x x1).2.2 = (GV.x x1).2.2 ∧ (GV.y x1).1 = (GV.y x1).1 ∧ (GV.y x1).2.1 = (GV.y x1).2.1 ∧ (GV.y x1).2.2 = (GV.y x1).2.2 ∧ GV.b x1 = GV.b x1 ∧ x4
 abbrev zby3 := zby11 x1 (zby11 x2 ((∀ (i0 : Pub), zby15 x1 x2 i0 → zby15 x1 x2 i0) ∧ x4))
 abbrev zby16 := x3 ≤ List.length (GV.ks x1) ∧ x3 + kIx x0 (List.drop x3 (GV.ks x1)) = kIx x0 (GV.ks x1)
 abbrev zby13 := (GV.y x1).2.1
 abbrev zby24 := (↑x3 : Int) < (↑(zby13 x1) : Int)
 abbrev zby20 := (∀ (i0 : Pub), zby15 x1 x2 i0 → cellsP i0 (adr (GV.y x1).1 (Int.toNat (↑x3 : Int) * 1)) [Value.string x0])
 abbrev zby12 := ((-9223372036854775808 : Int) ≤ (↑x3 : Int) + 1 ∧ (↑x3 : Int) + 1 ≤ 9223372036854775807) ∧ ∃ (i0 : Nat), x0 = x0 ∧ (↑i0 : Int) = (↑x3 : Int) + 1 ∧ zby3 x1 x2 ((zby16 x0 x1 i0) ∧ List.length (GV.ks x1) - i0 < List.length (GV.ks x1) - x3 ∧ True)
 abbrev zby23 := ∃ (i0 : Nat), x0 = x0 ∧ (↑i0 : Int) = (↑x3 : Int) ∧ zby3 x1 x2 ((i0 = kIx x0 (GV.ks x1) ∧ i0 ≤ List.length (GV.ks x1)) ∧ True)
 abbrev zby7 := (0 ≤ (↑x3 : Int) ∧ zby24 x1 x3) ∧ (GV.y x1).1 ≠ noA ∧ ∃ (i0 : ByteArray), zby20 i0 x1 x2 x3 ∧ (sLess i0 x0 = true → zby12 x0 x1 x2 x3) ∧ (sLess i0 x0 = false → zby23 x0 x1 x2 x3)
 abbrev zby5 := (decide (zby24 x1 x3) = true → zby7 x0 x1 x2 x3) ∧ (decide (zby24 x1 x3) = false → zby23 x0 x1 x2 x3)
 abbrev zby21 := (GV.x x1).2.1
 abbrev zby18 := (GV.x x1).2.2
 abbrev zby17 := (GV.y x1).2.2
 abbrev zby8 := (zby15 x1 x2 x5) ∧ (0 : Nat) + (GV.x x1).2.1 ≤ x3 ∧ rowP x5 x7 (List.take (((0 : Nat) + (GV.x x1).2.1) * nat_lit 5) (spl ([] ++ x8) ((0 : Nat) + Int.toNat (↑x6 : Int) * 5) [Value.int IntKind.u64 (GV.n x2), Value.string (GV.s x2), Value.slice (GV.x x2).1 (zby21 x2) (zby18 x2), Value.slice (GV.y x2).1 (zby13 x2) (zby17 x2), Value.int IntKind.i64 (GV.b x2)]))
 abbrev zby19 := GV.b x1 = GV.b x2 ∧ GV.pv x1 = PV.mk (GV.n x2) (GV.s x2) (putV x0 (GV.ks x2) (GV.pvs (GV.l x2)) (GV.pv x10)) (putS x0 (GV.ks x2)) (GV.b x2) ∧ x4
 abbrev zby4 := (0 ≤ (↑x3 : Int) ∧ zby24 x1 x3) ∧ (GV.y x1).1 ≠ noA ∧ ∃ (i0 : ByteArray), zby20 i0 x1 x2 x3 ∧ (decide (i0 = x0) = true → ∃ (i2 : List Value), List.length i2 = (GV.x x1).2.1 * 5 ∧ (∀ (i3 : Pub), zby15 x1 x2 i3 → rowP i3 (GV.x x1).1 i2) ∧ oneP i2 ∧ ((0 : Nat) + (GV.x x1).2.1) * 80 ≤ 140737488355328 ∧ (0 ≤ (↑x3 : Int) ∧ (↑x3 : Int) < (↑((0 : Nat) + (GV.x x1).2.1) : Int)) ∧ (0 : Nat) + Int.toNat (↑x3 : Int) * 5 + List.length [Value.int IntKind.u64 (GV.n x2), Value.string (GV.s x2), Value.slice (GV.x x2).1 (zby21 x2) (zby18 x2), Value.slice (GV.y x2).1 (zby13 x2) (zby17 x2), Value.int IntKind.i64 (GV.b x2)] ≤ List.length ([] ++ i2) ∧ ∀ (i4 i5 i6 : Nat) (i7 : Option Addr) (i8 i9 : Nat), (∃ (i10 : Pub), zby8 x1 x2 i9 i10 x3 i7 i2) → ∃ (i11 : GV), GV.n i11 = GV.n x1 ∧ GV.s i11 = GV.s x1 ∧ (GV.x i11).1 = i7 ∧ (GV.x i11).2.1 = 0 + (GV.x x1).2.1 ∧ (GV.x i11).2.2 = i9 ∧ (GV.y i11).1 = (GV.y x1).1 ∧ (GV.y i11).2.1 = (GV.y x1).2.1 ∧ (GV.y i11).2.2 = (GV.y x1).2.2 ∧ zby19 x0 i11 x1 ((∀ (i12 : Pub), zby8 x1 x2 i9 i12 x3 i7 i2 → GV.ok i11 i12) ∧ True) x2) ∧ (decide (i0 = x0) = false → ∃ (i13 : Unit), x0 = x0 ∧ (↑x3 : Int) = (↑x3 : Int) ∧ zby3 x1 x2 (putHas x0 (GV.ks x1) = false ∧ True))
 abbrev zby22 := nat_lit 0 + (x3 - nat_lit 0) + nat_lit 1
 abbrev zby9 := Value.slice (GV.y x1).1 (zby13 x1) (zby17 x1)
 abbrev zby10 := Value.slice (GV.x x1).1 (zby21 x1) (zby18 x1)
 abbrev zby6 := (zby15 x1 x2 x5) ∧ nat_lit 0 + (x3 - nat_lit 0) + nat_lit 1 + ((GV.x x1).2.1 - x3) ≤ x6 ∧ rowP x5 x7 (List.take ((nat_lit 0 + (x3 - nat_lit 0) + nat_lit 1 + ((GV.x x1).2.1 - x3)) * nat_lit 5) ([] ++ x8 ++ [Value.int IntKind.u64 (GV.n x2), Value.string (GV.s x2), Value.slice (GV.x x2).1 (zby21 x2) (zby18 x2), Value.slice (GV.y x2).1 (zby13 x2) (zby17 x2), Value.int IntKind.i64 (GV.b x2)] ++ x9))
 abbrev zby14 := nat_lit 0 + (x3 - nat_lit 0) + nat_lit 1 + ((GV.y x1).2.1 - x3) ≤ x6 ∧ rowP x5 x7 (List.take ((nat_lit 0 + (x3 - nat_lit 0) + nat_lit 1 + ((GV.y x1).2.1 - x3)) * nat_lit 1) ([] ++ x8 ++ [Value.string x0] ++ x9))
 abbrev zby2 := (GV.y x1).2.1 ≤ (GV.y x1).2.2 ∧ (0 ≤ (↑x3 : Int) ∧ (↑x3 : Int) ≤ (↑(zby17 x1) : Int)) ∧ ∃ (i0 : List Value), List.length i0 = (x3 - nat_lit 0) * 1 ∧ (∀ (i1 : Pub), zby15 x1 x2 i1 → rowP i1 (slA (GV.y x1).1 (zby17 x1) (nat_lit 0) 1) i0) ∧ oneP i0 ∧ (nat_lit 0 + (x3 - nat_lit 0)) * 16 ≤ 140737488355328 ∧ List.length ([] ++ i0) = (nat_lit 0 + (x3 - nat_lit 0)) * 1 ∧ (zby22 x3) * 16 ≤ 140737488355328 ∧ (GV.y x1).2.1 ≤ (GV.y x1).2.2 ∧ (0 ≤ (↑x3 : Int) ∧ (↑x3 : Int) ≤ (↑(zby13 x1) : Int)) ∧ List.length ([] ++ i0 ++ [Value.string x0]) = (zby22 x3) * 1 ∧ ∃ (i2 : List Value), List.length i2 = ((GV.y x1).2.1 - x3) * 1 ∧ (∀ (i3 : Pub), zby15 x1 x2 i3 → rowP i3 (slA (GV.y x1).1 (zby17 x1) x3 1) i2) ∧ oneP i2 ∧ (nat_lit 0 + (x3 - nat_lit 0) + nat_lit 1 + ((GV.y x1).2.1 - x3)) * 16 ≤ 140737488355328 ∧ AV.sv (zby9 x1) = AV.sv (zby9 x1) ∧ AV.sv (zby9 x1) = AV.sv (zby9 x1) ∧ (GV.x x1).2.1 ≤ (GV.x x1).2.2 ∧ (0 ≤ (↑x3 : Int) ∧ (↑x3 : Int) ≤ (↑(zby18 x1) : Int)) ∧ ∃ (i4 : List Value), List.length i4 = (x3 - nat_lit 0) * 5 ∧ (∀ (i5 : Pub), zby15 x1 x2 i5 → rowP i5 (slA (GV.x x1).1 (zby18 x1) (nat_lit 0) 5) i4) ∧ oneP i4 ∧ (nat_lit 0 + (x3 - nat_lit 0)) * 80 ≤ 140737488355328 ∧ List.length ([] ++ i4) = (nat_lit 0 + (x3 - nat_lit 0)) * 5 ∧ (zby22 x3) * 80 ≤ 140737488355328 ∧ (GV.x x1).2.1 ≤ (GV.x x1).2.2 ∧ (0 ≤ (↑x3 : Int) ∧ (↑x3 : Int) ≤ (↑(zby21 x1) : Int)) ∧ List.length ([] ++ i4 ++ [Value.int IntKind.u64 (GV.n x2), Value.string (GV.s x2), Value.slice (GV.x x2).1 (zby21 x2) (zby18 x2), Value.slice (GV.y x2).1 (zby13 x2) (zby17 x2), Value.int IntKind.i64 (GV.b x2)]) = (zby22 x3) * 5 ∧ ∃ (i6 : List Value), List.length i6 = ((GV.x x1).2.1 - x3) * 5 ∧ (∀ (i7 : Pub), zby15 x1 x2 i7 → rowP i7 (slA (GV.x x1).1 (zby18 x1) x3 5) i6) ∧ oneP i6 ∧ (nat_lit 0 + (x3 - nat_lit 0) + nat_lit 1 + ((GV.x x1).2.1 - x3)) * 80 ≤ 140737488355328 ∧ AV.agg [AV.sv (Value.int IntKind.u64 (GV.n x2)), AV.sv (Value.string (GV.s x2)), AV.sv (zby10 x2), AV.sv (zby9 x2), AV.sv (Value.int IntKind.i64 (GV.b x2))] = AV.agg [AV.sv (Value.int IntKind.u64 (GV.n x2)), AV.sv (Value.string (GV.s x2)), AV.sv (zby10 x2), AV.sv (zby9 x2), AV.sv (Value.int IntKind.i64 (GV.b x2))] ∧ AV.sv (zby10 x1) = AV.sv (zby10 x1) ∧ AV.sv (zby10 x1) = AV.sv (zby10 x1) ∧ ∀ (i8 i9 i10 : Nat) (i11 : Option Addr) (i12 i13 : Nat), (∃ (i14 : Pub), zby6 x1 x2 x3 i14 i13 i11 i4 i6) → ∀ (i15 i16 i17 : Nat) (i18 : Option Addr) (i19 i20 : Nat), (∃ (i21 : Pub), (zby6 x1 x2 x3 i21 i13 i11 i4 i6) ∧ zby14 x0 x1 x3 i21 i20 i18 i0 i2) → ∃ (i22 : GV), GV.n i22 = GV.n x1 ∧ GV.s i22 = GV.s x1 ∧ (GV.x i22).1 = i11 ∧ (GV.x i22).2.1 = nat_lit 0 + (x3 - nat_lit 0) + nat_lit 1 + ((GV.x x1).2.1 - x3) ∧ (GV.x i22).2.2 = i13 ∧ (GV.y i22).1 = i18 ∧ (GV.y i22).2.1 = nat_lit 0 + (x3 - nat_lit 0) + nat_lit 1 + ((GV.y x1).2.1 - x3) ∧ (GV.y i22).2.2 = i20 ∧ zby19 x0 i22 x1 ((∀ (i23 : Pub), (zby6 x1 x2 x3 i23 i13 i11 i4 i6) ∧ zby14 x0 x1 x3 i23 i20 i18 i0 i2 → GV.ok i22 i23) ∧ True) x2
 abbrev zby1 := ((decide (zby24 x1 x3) = true → zby4 x0 x1 x2 x3) ∧ (decide (zby24 x1 x3) = false → ∃ (i15 : Unit), x0 = x0 ∧ (↑x3 : Int) = (↑x3 : Int) ∧ zby3 x1 x2 (putHas x0 (GV.ks x1) = false ∧ True))) ∧ ∀ (i17 : Unit), putHas x0 (GV.ks x1) = false → zby2 x0 x1 x2 x3
 abbrev zby0 := ((∃ (i0 : Nat), x0 = x0 ∧ (↑i0 : Int) = 0 ∧ zby3 x1 x2 ((zby16 x0 x1 i0) ∧ True)) ∧ ∀ (i2 : Nat), zby16 x0 x1 i2 → zby5 x0 x1 x2 i2) ∧ ∀ (i11 : Nat), i11 = kIx x0 (GV.ks x1) ∧ i11 ≤ List.length (GV.ks x1) → zby1 x0 x1 x2 i11
end
theorem put_eqz (v : GV) (k : ByteArray) (w : GV) : askR P (ctTab []) (rlTab []) Try.f41 cPut (wPut) ⟨v, k, w⟩ = (List.length (GV.ks v) = List.length (GV.l v) ∧ List.length (GV.l v) < 1000000 → (∃ (p : Pub), zby15 v w p) → zby0 k v w) := by kernel_rfl
def put_eq (v : GV) (k : ByteArray) (w : GV) := Eq.trans (put_eqz v k w) (by delta zby15 zby11 zby3 zby16 zby13 zby24 zby20 zby12 zby23 zby7 zby5 zby21 zby18 zby17 zby8 zby19 zby4 zby22 zby9 zby10 zby6 zby14 zby2 zby1 zby0; exact rfl)
theorem wrapU (x : Int) : IntKind.u64.wrap x = x % 18446744073709551616 := by
  unfold IntKind.wrap; simp [IntKind.bits, IntKind.signed]
theorem wrapU32 (x : Int) : IntKind.u32.wrap x = x % 4294967296 := by
  unfold IntKind.wrap; simp [IntKind.bits, IntKind.signed]
theorem u64_wrap (x : Int) : u64P (IntKind.u64.wrap x) := by
  rw [wrapU]; unfold u64P; omega
theorem shl1_ne : ∀ k : Nat, k < 64 → shP .shl .u64 1 (k : Int) ≠ 0 := by decide +kernel
theorem shr0 (v : Int) : shP .shr .u64 v 0 = v := by
  show v.fdiv (2 ^ min (0 : Int).toNat IntKind.u64.bits) = v
  rw [show min (0 : Int).toNat IntKind.u64.bits = 0 from rfl]
  show v.fdiv 1 = v
  exact Int.fdiv_one v
theorem bc_1 (c : Nat) (h : c < 256) : bcells (mkS [c]) = [.int .u8 (c : Nat)] := by
  simp [bcells, mkS]
  omega
theorem near_ok : CtROK P 124 cNear := by
  refine ask_okR mixed (ctTab_ok nil_tab) (rlTab_ok nil_rel) (W := wNear) Try.func124 (by kernel_rfl) (show 1 ≤ 1 by decide) (show 1 ≤ 1 by decide) (fun s => by kernel_rfl) fun ⟨(v : Int), (f : Int), (b : Int)⟩ => (near_eq v f b).mpr ?_
  rintro ⟨hv, hf1, hf2, hb1, hb2⟩
  simp only [decide_eq_true_eq, decide_eq_false_iff_not, Bool.not_eq_true', Bool.not_eq_false', true_and, and_true, eq_self, imp_self, implies_true, exists_const, forall_const, Int.toNat_natCast]
  have nz : ∀ e : Nat, ¬ v = 0 → shP .shr .u64 v (e : Int) = 0 → e ≠ 0 := fun e h0 hs h => by
    subst h; rw [show ((0 : Nat) : Int) = 0 from rfl, shr0] at hs; exact h0 hs
  refine ⟨fun h0 => ⟨0, rfl, by unfold u64P; omega⟩, fun h0 => ⟨⟨63, rfl, by omega⟩, fun e he => ⟨by omega, fun hs => ?_, fun hs => ⟨⟨e, rfl, he⟩, fun k hk => ?_⟩⟩⟩⟩
  · have := nz e h0 hs
    exact ⟨⟨by omega, by omega⟩, e - 1, by omega, by omega, by omega⟩
  · clear nz
    have hk0 : (0 : Int) ≤ k := by omega
    refine ⟨⟨fun hle => ⟨⟨by omega, by omega⟩, by omega, ⟨k, _⟩, rfl, rfl, hk0, by omega⟩, fun hgt => ⟨⟨by omega, by omega⟩, ⟨by omega, by omega⟩, by omega, by omega, ?_, by omega, fun _ => ⟨⟨k, _⟩, rfl, rfl, hk0, by omega⟩, fun _ => ⟨fun _ => ⟨by decide, fun _ => ⟨⟨k, _⟩, rfl, rfl, hk0, by omega⟩, fun _ => ⟨⟨k, _⟩, rfl, rfl, hk0, by omega⟩⟩, fun _ => ⟨⟨k, _⟩, rfl, rfl, hk0, by omega⟩⟩⟩⟩, ?_⟩
    · obtain ⟨m, hm⟩ := Int.eq_ofNat_of_zero_le (show 0 ≤ (k : Int) - f by omega)
      rw [hm]; exact shl1_ne m (by omega)
    · rintro ⟨a, m⟩ ⟨ha1, ha2⟩
      simp only at ha1 ha2 ⊢
      exact ⟨⟨by omega, by omega⟩, by omega, by omega, _, rfl, u64_wrap _⟩
theorem float_ok : CtROK P 104 cFloat := by
  refine ask_okR mixed (ctTab_ok nil_tab) (rlTab_ok (forall_rel near_ok nil_rel)) (W := fun _ => {}) Try.func104 (by kernel_rfl) (show 1 ≤ 1 by decide) (show 1 ≤ 1 by decide) (fun s => by kernel_rfl) fun (v : Int) => (float_eq v).mpr ?_
  rintro ⟨hv1, hv2⟩
  simp only [decide_eq_true_eq, decide_eq_false_iff_not, Bool.not_eq_true', Bool.not_eq_false', true_and, and_true, eq_self, imp_self, implies_true, exists_const, forall_const, Int.toNat_natCast]
  refine ⟨fun h => ⟨⟨by omega, by omega⟩, ⟨by omega, by omega⟩, ⟨_, 23, 127⟩, rfl, rfl, rfl, ⟨u64_wrap _, (by show (1 : Int) ≤ 23; decide), (by show (23 : Int) ≤ 62; decide), (by show (0 : Int) ≤ 127; decide), (by show (127 : Int) ≤ 2000; decide)⟩, fun b hb => ⟨_, rfl, ?_⟩⟩, fun h => ⟨⟨_, 23, 127⟩, rfl, rfl, rfl, ⟨u64_wrap _, (by show (1 : Int) ≤ 23; decide), (by show (23 : Int) ≤ 62; decide), (by show (0 : Int) ≤ 127; decide), (by show (127 : Int) ≤ 2000; decide)⟩, fun b hb => ⟨_, rfl, ?_⟩⟩⟩
  · show 0 ≤ IntKind.u32.wrap _ ∧ IntKind.u32.wrap _ < 4294967296
    rw [wrapU32]; omega
  · rw [wrapU32]; omega
theorem double_ok : CtROK P 105 cDouble := by
  refine ask_okR mixed (ctTab_ok nil_tab) (rlTab_ok (forall_rel near_ok nil_rel)) (W := fun _ => {}) Try.func105 (by kernel_rfl) (show 1 ≤ 1 by decide) (show 1 ≤ 1 by decide) (fun s => by kernel_rfl) fun (v : Int) => (double_eq v).mpr ?_
  rintro ⟨hv1, hv2⟩
  simp only [decide_eq_true_eq, decide_eq_false_iff_not, Bool.not_eq_true', Bool.not_eq_false', true_and, and_true, eq_self, imp_self, implies_true, exists_const, forall_const, Int.toNat_natCast]
  refine ⟨fun h => ⟨⟨by omega, by omega⟩, ⟨by omega, by omega⟩, ⟨_, 52, 1023⟩, rfl, rfl, rfl, ⟨u64_wrap _, (by show (1 : Int) ≤ 52; decide), (by show (52 : Int) ≤ 62; decide), (by show (0 : Int) ≤ 1023; decide), (by show (1023 : Int) ≤ 2000; decide)⟩, fun b hb => ⟨_, rfl, ?_⟩⟩, fun h => ⟨⟨_, 52, 1023⟩, rfl, rfl, rfl, ⟨u64_wrap _, (by show (1 : Int) ≤ 52; decide), (by show (52 : Int) ≤ 62; decide), (by show (0 : Int) ≤ 1023; decide), (by show (1023 : Int) ≤ 2000; decide)⟩, fun b hb => ⟨b, rfl, hb⟩⟩⟩
  exact u64_wrap _
theorem pointC_ok : CtOK P 125 cPoint := by
  refine ask_ok mixed (ctTab_ok (forall_tab point_ok nil_tab)) (W := fun _ => {}) Try.func125 (by kernel_rfl) (by decide) (by decide) (fun s => by kernel_rfl) fun (s : ByteArray) => (pointC_eq s).mpr ?_
  intro h
  exact ⟨rfl, h, rfl, rfl, trivial⟩
theorem raw_ok : CtROK P 106 cRaw := by
  refine ask_okR mixed (ctTab_ok (forall_tab pointC_ok nil_tab)) (rlTab_ok nil_rel) (W := wRaw) Try.func106 (by kernel_rfl) (show 1 ≤ 1 by decide) (show 1 ≤ 1 by decide) (fun s => by kernel_rfl) fun (s : ByteArray) => (raw_eq s).mpr ?_
  intro hs
  simp only [decide_eq_true_eq, decide_eq_false_iff_not, Bool.not_eq_true', Bool.not_eq_false', true_and, and_true, eq_self, imp_self, implies_true, exists_const, forall_const, Int.toNat_natCast]
  refine ⟨⟨⟨mkS [], s⟩, rfl, rfl, by show 0 + s.size ≤ _; omega⟩, ?_⟩
  rintro ⟨q, u⟩ hq
  simp only at hq ⊢
  refine ⟨fun h => ⟨by omega, fun h0 => ⟨⟨mkS [], false⟩, rfl, rfl, Nat.zero_le _⟩, fun h0 => ⟨fun hp => ⟨⟨mkS [], false⟩, rfl, rfl, Nat.zero_le _⟩, fun hp => ?_⟩⟩, fun h => ⟨⟨q, true⟩, rfl, rfl, by show q.size ≤ _; omega⟩⟩
  have hf := frt_le u
  have hc : IntKind.u8.wrap (ptV u : Int) = ((ptV u : Nat) : Int) := by rw [wrap8]; omega
  rw [hc]
  have hz : (mkS [ptV u]).size = 1 := rfl
  refine ⟨mkS [ptV u], rfl, ?_, by omega, ⟨by omega, by omega⟩, ⟨q ++ mkS [ptV u], u.extract (frt u) u.size⟩, rfl, rfl, ?_, ?_⟩
  · intro j w hj
    rw [bc_1 _ (by omega)] at hj; rw [Nat.zero_add]; exact hj
  · show (q ++ mkS [ptV u]).size + (u.extract (frt u) u.size).size ≤ s.size
    rw [ByteArray.size_append, ByteArray.size_extract, hz]; omega
  · show (u.extract (frt u) u.size).size < u.size
    rw [ByteArray.size_extract]; omega
end
end Go.Proofs.Ytabfjgbidbibgaa.Wd
