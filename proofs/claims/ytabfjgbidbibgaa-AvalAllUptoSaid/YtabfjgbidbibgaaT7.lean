/-
  What the functions do: contracts, and their questions answered. No condition but what its theorems ask.
-/
import Derived.Test.YtabfjgbidbibgaaT6
namespace Go.Proofs.Ytabfjgbidbibgaa.Wd
open Go.Proofs.Ytabfjgbidbibgaa.Eng Go.Proofs.Ytabfjgbidbibgaa.Sen Go.RowKit
set_option linter.defProp false
set_option linter.unusedVariables false
set_option linter.unusedSimpArgs false
set_option maxRecDepth 1000000
noncomputable section
theorem is11_eq (x : SV) (t : Int) : askF P (fun _ => none) Try.f33 cIsT (fun _ => {}) ⟨x, t⟩ = (True → (decide ((0 : Int) ≤ t) = true → (decide ((0 : Int) ≤ t) && decide (t < (↑(Prod.fst (Prod.snd x)) : Int))) = decide (t < (↑(Prod.fst (Prod.snd x)) : Int)) ∧ True) ∧ (decide ((0 : Int) ≤ t) = false → (decide ((0 : Int) ≤ t) && decide (t < (↑(Prod.fst (Prod.snd x)) : Int))) = false ∧ True)) := by kernel_rfl
noncomputable section
variable (x0 : Int) (x1 : SV) (x2 : List AT) (x3 : GV) (x4 : Nat) (x5 : Int) (x6 : ByteArray) (x7 : Option Addr) (x8 : Nat) (x9 : Int) (x10 : Option Addr) (x11 : Nat) (x12 : Nat) (x13 : Bool) (x14 : ByteArray) (x15 : Int) (x16 : Option Addr) (x17 : Nat) (x18 : Nat) (x19 : Option Addr) (x20 : Nat) (x21 : Nat) (x22 : Nat) (x23 : Prop) (x24 : (Option Addr × Nat × Nat) × Int)
 abbrev zcd30 := !(decide (0 ≤ x24.2) && decide (x24.2 < (↑x24.1.2.1 : Int)))
 abbrev zcd25 := PV.fits x2 x0 (GV.pv x3) = false ∧ True
 abbrev zcd3 := x1.1 = x1.1 ∧ x1.2.1 = x1.2.1 ∧ x1.2.2 = x1.2.2 ∧ GV.n x3 = GV.n x3 ∧ GV.s x3 = GV.s x3 ∧ (GV.x x3).1 = (GV.x x3).1 ∧ (GV.x x3).2.1 = (GV.x x3).2.1 ∧ (GV.x x3).2.2 = (GV.x x3).2.2 ∧ (GV.y x3).1 = (GV.y x3).1 ∧ (GV.y x3).2.1 = (GV.y x3).2.1 ∧ (GV.y x3).2.2 = (GV.y x3).2.2 ∧ GV.b x3 = GV.b x3 ∧ x0 = x0 ∧ x6 = x6 ∧ x7 = x7 ∧ x4 = x4 ∧ x8 = x8 ∧ x5 = x5 ∧ x10 = x10 ∧ x11 = x11 ∧ x12 = x12 ∧ x13 = x13 ∧ x14 = x14 ∧ x9 = x9 ∧ x16 = x16 ∧ x17 = x17 ∧ x18 = x18 ∧ x19 = x19 ∧ x20 = x20 ∧ x21 = x21 ∧ (∀ (i0 : Pub), True ∧ schP x2 x1 i0 ∧ GV.ok x3 i0 → True ∧ schP x2 x1 i0 ∧ GV.ok x3 i0) ∧ True ∧ True
 abbrev zcd18 := isT (AT.k (atS x2 x0)) = false ∧ nB (AT.k (atS x2 x0)) = true ∧ isQ (AT.k (atS x2 x0)) = false ∧ x23
 abbrev zcd16 := (-2147483648 : Int) ≤ IntKind.wrap IntKind.i64 (GV.n x3)
 abbrev zcd27 := decide (zcd16 x3) = decide (zcd16 x3)
 abbrev zcd15 := zcd27 x3 ∧ zcd27 x3 ∧ zcd27 x3 ∧ (decide (zcd16 x3) = true → ∃ (i0 : Unit), okAll x2 (atS x2 x0) x3 = decide (IntKind.wrap IntKind.i64 (GV.n x3) < 2147483648) ∧ zcd18 x0 x2 (zcd3 x5 x1 x2 x3 x4 x9 x6 x7 x8 x15 x10 x11 x12 x13 x14 x16 x17 x18 x19 x20 x21)) ∧ (decide (zcd16 x3) = false → ∃ (i1 : Unit), okAll x2 (atS x2 x0) x3 = false ∧ zcd18 x0 x2 (zcd3 x5 x1 x2 x3 x4 x9 x6 x7 x8 x15 x10 x11 x12 x13 x14 x16 x17 x18 x19 x20 x21))
 abbrev zcd13 := (decide (zcd16 x3) = true → zcd15 x0 x1 x2 x3 x4 x5 x6 x7 x8 x9 x10 x11 x12 x13 x14 x15 x16 x17 x18 x19 x20 x21) ∧ (decide (zcd16 x3) = false → zcd27 x3 ∧ zcd27 x3 ∧ zcd27 x3 ∧ (decide (zcd16 x3) = true → ∃ (i2 : Unit), False) ∧ (decide (zcd16 x3) = false → ∃ (i3 : Unit), okAll x2 (atS x2 x0) x3 = false ∧ zcd18 x0 x2 (zcd3 x5 x1 x2 x3 x4 x9 x6 x7 x8 x15 x10 x11 x12 x13 x14 x16 x17 x18 x19 x20 x21)))
 abbrev zcd24 := (decide (AT.k (atS x2 x0) = 4) = true → ∃ (i0 : Unit), x5 = x5 ∧ b46 (AT.k (atS x2 x0)) = decide (AT.k (atS x2 x0) = 4) ∧ zcd3 x5 x1 x2 x3 x4 x9 x6 x7 x8 x15 x10 x11 x12 x13 x14 x16 x17 x18 x19 x20 x21) ∧ (decide (AT.k (atS x2 x0) = 4) = false → ∃ (i1 : Unit), x5 = x5 ∧ b46 (AT.k (atS x2 x0)) = decide (x5 = 6) ∧ zcd3 x5 x1 x2 x3 x4 x9 x6 x7 x8 x15 x10 x11 x12 x13 x14 x16 x17 x18 x19 x20 x21)
 abbrev zcd26 := isT (AT.k (atS x2 x0)) = true ∧ nB (AT.k (atS x2 x0)) = false ∧ isQ (AT.k (atS x2 x0)) = false ∧ x23
 abbrev zcd11 := (decide (x0 = 11) = true → ∃ (i0 : Unit), okAll x2 (atS x2 x5) x3 = decide ((↑(ByteArray.size (GV.s x3)) : Int) = x9) ∧ zcd26 x5 x2 (zcd3 x0 x1 x2 x3 x4 x15 x6 x7 x8 x9 x10 x11 x12 x13 x14 x16 x17 x18 x19 x20 x21)) ∧ (decide (x0 = 11) = false → ∃ (i1 : FpS), i1.2.1.1 = x1.1 ∧ i1.2.1.2.1 = x1.2.1 ∧ i1.2.1.2.2 = x1.2.2 ∧ AT.k i1.2.2.1 = x0 ∧ AT.nm i1.2.2.1 = x6 ∧ (AT.al i1.2.2.1).1 = x7 ∧ (AT.al i1.2.2.1).2.1 = x4 ∧ (AT.al i1.2.2.1).2.2 = x8 ∧ AT.it i1.2.2.1 = x15 ∧ (AT.sy i1.2.2.1).1 = x10 ∧ (AT.sy i1.2.2.1).2.1 = x11 ∧ (AT.sy i1.2.2.1).2.2 = x12 ∧ AT.hd i1.2.2.1 = x13 ∧ AT.df i1.2.2.1 = x14 ∧ AT.sz i1.2.2.1 = x9 ∧ (AT.f i1.2.2.1).1 = x16 ∧ (AT.f i1.2.2.1).2.1 = x17 ∧ (AT.f i1.2.2.1).2.2 = x18 ∧ (AT.br i1.2.2.1).1 = x19 ∧ (AT.br i1.2.2.1).2.1 = x20 ∧ (AT.br i1.2.2.1).2.2 = x21 ∧ GV.n i1.2.2.2 = GV.n x3 ∧ GV.s i1.2.2.2 = GV.s x3 ∧ (GV.x i1.2.2.2).1 = (GV.x x3).1 ∧ (GV.x i1.2.2.2).2.1 = (GV.x x3).2.1 ∧ (GV.x i1.2.2.2).2.2 = (GV.x x3).2.2 ∧ (GV.y i1.2.2.2).1 = (GV.y x3).1 ∧ (GV.y i1.2.2.2).2.1 = (GV.y x3).2.1 ∧ (GV.y i1.2.2.2).2.2 = (GV.y x3).2.2 ∧ GV.b i1.2.2.2 = GV.b x3 ∧ (muIn i1 < x22 + 1 ∧ small i1.1 ∧ kindsOK i1.1 ∧ List.length (AT.fs i1.2.2.1) < 1000000 ∧ PV.sm (GV.pv i1.2.2.2) ∧ isQ (AT.k i1.2.2.1) = true) ∧ (∀ (i2 : Pub), True ∧ schP x2 x1 i2 ∧ GV.ok x3 i2 → schP i1.1 i1.2.1 i2 ∧ AT.ok i1.2.2.1 i2 ∧ GV.ok i1.2.2.2 i2) ∧ ∃ (i3 : Unit), okAll x2 (atS x2 x5) x3 = inF i1.1 i1.2.2.1 i1.2.2.2 ∧ isT (AT.k (atS x2 x5)) = false ∧ nB (AT.k (atS x2 x5)) = false ∧ isQ (AT.k (atS x2 x5)) = true ∧ zcd3 x0 x1 x2 x3 x4 x15 x6 x7 x8 x9 x10 x11 x12 x13 x14 x16 x17 x18 x19 x20 x21)
 abbrev zcd10 := (decide (x0 = 8) = true → GV.s x3 = GV.s x3 ∧ ByteArray.size (GV.s x3) < 9223372036854775808 ∧ ∃ (i0 : Unit), okAll x2 (atS x2 x5) x3 = vld (GV.s x3) ∧ zcd26 x5 x2 (zcd3 x0 x1 x2 x3 x4 x9 x6 x7 x8 x15 x10 x11 x12 x13 x14 x16 x17 x18 x19 x20 x21)) ∧ (decide (x0 = 8) = false → zcd11 x0 x1 x2 x3 x4 x5 x6 x7 x8 x15 x10 x11 x12 x13 x14 x9 x16 x17 x18 x19 x20 x21 x22)
 abbrev zcd9 := (decide (x0 = 7) = true → ∃ (i0 : Unit), okAll x2 (atS x2 x5) x3 = true ∧ zcd26 x5 x2 (zcd3 x0 x1 x2 x3 x4 x9 x6 x7 x8 x15 x10 x11 x12 x13 x14 x16 x17 x18 x19 x20 x21)) ∧ (decide (x0 = 7) = false → zcd10 x0 x1 x2 x3 x4 x5 x6 x7 x8 x9 x10 x11 x12 x13 x14 x15 x16 x17 x18 x19 x20 x21 x22)
 abbrev zcd8 := (decide (x0 = 10) = true → ∃ (i0 : Unit), okAll x2 (atS x2 x5) x3 = decide (GV.n x3 < IntKind.wrap IntKind.u64 (↑x4 : Int)) ∧ zcd18 x5 x2 (zcd3 x0 x1 x2 x3 x8 x9 x6 x7 x11 x15 x10 x4 x12 x13 x14 x16 x17 x18 x19 x20 x21)) ∧ (decide (x0 = 10) = false → zcd9 x0 x1 x2 x3 x8 x5 x6 x7 x11 x9 x10 x4 x12 x13 x14 x15 x16 x17 x18 x19 x20 x21 x22)
 abbrev zcd7 := (decide (x0 = 5) = true → ∃ (i0 : Unit), okAll x2 (atS x2 x5) x3 = decide (GV.n x3 < 4294967296) ∧ zcd18 x5 x2 (zcd3 x0 x1 x2 x3 x4 x9 x6 x7 x8 x15 x10 x11 x12 x13 x14 x16 x17 x18 x19 x20 x21)) ∧ (decide (x0 = 5) = false → zcd8 x0 x1 x2 x3 x11 x5 x6 x7 x4 x9 x10 x8 x12 x13 x14 x15 x16 x17 x18 x19 x20 x21 x22)
 abbrev zcd5 := (b46 (AT.k (atS x2 x0)) = true → ∃ (i0 : Unit), okAll x2 (atS x2 x0) x3 = true ∧ zcd18 x0 x2 (zcd3 x5 x1 x2 x3 x4 x9 x6 x7 x8 x15 x10 x11 x12 x13 x14 x16 x17 x18 x19 x20 x21)) ∧ (b46 (AT.k (atS x2 x0)) = false → zcd7 x5 x1 x2 x3 x4 x0 x6 x7 x8 x9 x10 x11 x12 x13 x14 x15 x16 x17 x18 x19 x20 x21 x22)
 abbrev zcd4 := ((∃ (i0 : Unit), x0 = x0 ∧ decide (AT.k (atS x2 x5) = 4) = decide (x0 = 4) ∧ zcd3 x0 x1 x2 x3 x4 x9 x6 x7 x8 x15 x10 x11 x12 x13 x14 x16 x17 x18 x19 x20 x21) ∧ ∀ (i1 : Unit), True → zcd24 x5 x1 x2 x3 x4 x0 x6 x7 x8 x9 x10 x11 x12 x13 x14 x15 x16 x17 x18 x19 x20 x21) ∧ ∀ (i4 : Unit), True → zcd5 x5 x1 x2 x3 x4 x0 x6 x7 x8 x9 x10 x11 x12 x13 x14 x15 x16 x17 x18 x19 x20 x21 x22
 abbrev zcd2 := (decide (x0 = 3) = true → zcd13 x5 x1 x2 x3 x4 x0 x6 x7 x8 x9 x10 x11 x12 x13 x14 x15 x16 x17 x18 x19 x20 x21) ∧ (decide (x0 = 3) = false → zcd4 x0 x1 x2 x3 x4 x5 x6 x7 x8 x9 x10 x11 x12 x13 x14 x15 x16 x17 x18 x19 x20 x21 x22)
 abbrev zcd1 := (decide (x0 = 2) = true → ∃ (i0 : Unit), okAll x2 (atS x2 x5) x3 = decide (GV.n x3 ≤ 1) ∧ zcd18 x5 x2 (zcd3 x0 x1 x2 x3 x4 x9 x6 x7 x8 x15 x10 x11 x12 x13 x14 x16 x17 x18 x19 x20 x21)) ∧ (decide (x0 = 2) = false → zcd2 x0 x1 x2 x3 x4 x5 x6 x7 x8 x9 x10 x11 x12 x13 x14 x15 x16 x17 x18 x19 x20 x21 x22)
 abbrev zcd22 := okAll x2 (atS x2 x0) x3 = okAll x2 (atS x2 x0) x3 ∧ isT (AT.k (atS x2 x0)) = isT (AT.k (atS x2 x0)) ∧ nB (AT.k (atS x2 x0)) = nB (AT.k (atS x2 x0)) ∧ x23
 abbrev zcd12 := ((!decide (x0 = 14)) = true → ∃ (i0 : Unit), zcd22 x5 x2 x3 (badB (atS x2 x5) x3 = !decide (GV.b x3 = 0) ∧ isQ (AT.k (atS x2 x5)) = isQ (AT.k (atS x2 x5)) ∧ zcd3 x0 x1 x2 x3 x4 x9 x6 x7 x8 x15 x10 x11 x12 x13 x14 x16 x17 x18 x19 x20 x21)) ∧ ((!decide (x0 = 14)) = false → ∃ (i1 : Unit), zcd22 x5 x2 x3 (badB (atS x2 x5) x3 = false ∧ isQ (AT.k (atS x2 x5)) = isQ (AT.k (atS x2 x5)) ∧ zcd3 x0 x1 x2 x3 x4 x9 x6 x7 x8 x15 x10 x11 x12 x13 x14 x16 x17 x18 x19 x20 x21))
 abbrev zcd20 := (decide (0 < (↑(GV.y x3).2.1 : Int)) = true → ∃ (i0 : Unit), zcd22 x0 x2 x3 (badB (atS x2 x0) x3 = true ∧ isQ (AT.k (atS x2 x0)) = isQ (AT.k (atS x2 x0)) ∧ zcd3 x5 x1 x2 x3 x4 x9 x6 x7 x8 x15 x10 x11 x12 x13 x14 x16 x17 x18 x19 x20 x21)) ∧ (decide (0 < (↑(GV.y x3).2.1 : Int)) = false → zcd12 x5 x1 x2 x3 x4 x0 x6 x7 x8 x9 x10 x11 x12 x13 x14 x15 x16 x17 x18 x19 x20 x21)
 abbrev zcd17 := (isQ (AT.k (atS x2 x0)) = true → PV.fits x2 x0 (GV.pv x3) = true ∧ True) ∧ (isQ (AT.k (atS x2 x0)) = false → PV.fits x2 x0 (GV.pv x3) = decide ((↑(GV.x x3).2.1 : Int) = 0) ∧ True)
 abbrev zcd29 := (decide (GV.s x3 = mkS []) = true → zcd17 x0 x2 x3) ∧ (decide (GV.s x3 = mkS []) = false → zcd25 x0 x2 x3)
 abbrev zcd14 := (isT (AT.k (atS x2 x0)) = true → zcd17 x0 x2 x3) ∧ (isT (AT.k (atS x2 x0)) = false → zcd29 x0 x2 x3)
 abbrev zcd28 := (decide (GV.n x3 = 0) = true → zcd14 x0 x2 x3) ∧ (decide (GV.n x3 = 0) = false → zcd25 x0 x2 x3)
 abbrev zcd23 := (nB (AT.k (atS x2 x0)) = true → zcd14 x0 x2 x3) ∧ (nB (AT.k (atS x2 x0)) = false → zcd28 x0 x2 x3)
 abbrev zcd21 := (okAll x2 (atS x2 x0) x3 = true → zcd23 x0 x2 x3) ∧ (okAll x2 (atS x2 x0) x3 = false → zcd25 x0 x2 x3)
 abbrev zcd19 := (badB (atS x2 x0) x3 = true → zcd25 x0 x2 x3) ∧ (badB (atS x2 x0) x3 = false → zcd21 x0 x2 x3)
 abbrev zcd6 := (((!decide (x0 = 13)) = true → zcd20 x5 x1 x2 x3 x4 x0 x6 x7 x8 x9 x10 x11 x12 x13 x14 x15 x16 x17 x18 x19 x20 x21) ∧ ((!decide (x0 = 13)) = false → zcd12 x0 x1 x2 x3 x4 x5 x6 x7 x8 x9 x10 x11 x12 x13 x14 x15 x16 x17 x18 x19 x20 x21)) ∧ ∀ (i5 : Unit), True → zcd19 x5 x2 x3
 abbrev zcd0 := (0 ≤ x0 ∧ x0 < (↑x1.2.1 : Int)) ∧ x1.1 ≠ noA ∧ ∃ (i0 : Int), ∃ (i1 : ByteArray), ∃ (i2 : Option Addr), ∃ (i3 : Nat), ∃ (i4 : Nat), ∃ (i5 : Int), ∃ (i6 : Option Addr), ∃ (i7 : Nat), ∃ (i8 : Nat), ∃ (i9 : Bool), ∃ (i10 : ByteArray), ∃ (i11 : Int), ∃ (i12 : Option Addr), ∃ (i13 : Nat), ∃ (i14 : Nat), ∃ (i15 : Option Addr), ∃ (i16 : Nat), ∃ (i17 : Nat), (∀ (i18 : Pub), True ∧ schP x2 x1 i18 ∧ GV.ok x3 i18 → cellsP i18 (adr x1.1 (Int.toNat x0 * 10)) [Value.int IntKind.i64 i0, Value.string i1, Value.slice i2 i3 i4, Value.int IntKind.i64 i5, Value.slice i6 i7 i8, Value.bool i9, Value.string i10, Value.int IntKind.i64 i11, Value.slice i12 i13 i14, Value.slice i15 i16 i17]) ∧ ((decide (i0 = 1) = true → ∃ (i19 : Unit), okAll x2 (atS x2 x0) x3 = true ∧ isT (AT.k (atS x2 x0)) = false ∧ nB (AT.k (atS x2 x0)) = false ∧ isQ (AT.k (atS x2 x0)) = false ∧ zcd3 i0 x1 x2 x3 i3 i5 i1 i2 i4 i11 i6 i7 i8 i9 i10 i12 i13 i14 i15 i16 i17) ∧ (decide (i0 = 1) = false → zcd1 i0 x1 x2 x3 i3 x0 i1 i2 i4 i5 i6 i7 i8 i9 i10 i11 i12 i13 i14 i15 i16 i17 x4)) ∧ ∀ (i54 : Unit), True → zcd6 i0 x1 x2 x3 i3 x0 i1 i2 i4 i5 i6 i7 i8 i9 i10 i11 i12 i13 i14 i15 i16 i17
end
theorem fitsR_eqz (n : Nat) (S : List AT) (x : SV) (t : Int) (v : GV) : askF P (ctTab [(33, cIsT), (34, cValid), (35, cInner.below muIn (n + 1))]) Try.f13 (cFitsR.below muFr (n + 1)) (wFitsR) ⟨S, x, t, v⟩ = (muFr (S, x, t, v) < n + 1 ∧ small S ∧ kindsOK S ∧ PV.sm (GV.pv v) → (∃ (p : Pub), True ∧ schP S x p ∧ GV.ok v p) → ∃ (s : (Option Addr × Nat × Nat) × Int), s.1.1 = x.1 ∧ s.1.2.1 = x.2.1 ∧ s.1.2.2 = x.2.2 ∧ s.2 = t ∧ True ∧ ((zcd30 s) = true → zcd25 t S v) ∧ ((zcd30 s) = false → zcd0 t x S v n)) := by kernel_rfl
def fitsR_eq (n : Nat) (S : List AT) (x : SV) (t : Int) (v : GV) := Eq.trans (fitsR_eqz n S x t v) (by delta zcd30 zcd25 zcd3 zcd18 zcd16 zcd27 zcd15 zcd13 zcd24 zcd26 zcd11 zcd10 zcd9 zcd8 zcd7 zcd5 zcd4 zcd2 zcd1 zcd22 zcd12 zcd20 zcd17 zcd29 zcd14 zcd28 zcd23 zcd21 zcd19 zcd6 zcd0; exact rfl)
noncomputable section
variable (x0 : SV) (x1 : GV) (x2 : AT) (x3 : List AT) (x4 : Prop) (x5 : Nat) (x6 : Nat) (x7 : FtS) (x8 : Int) (x9 : ByteArray) (x10 : Option Addr) (x11 : Option Addr) (x12 : Nat) (x13 : Nat) (x14 : Int) (x15 : Nat) (x16 : Nat → Option Obj)
 abbrev zce26 := True ∧ schP x3 x0 x16 ∧ AT.ok x2 x16 ∧ GV.ok x1 x16
 abbrev zce17 := (↑(GV.x x1).2.1 : Int)
 abbrev zce0 := x0.1 = x0.1 ∧ x0.2.1 = x0.2.1 ∧ x0.2.2 = x0.2.2 ∧ GV.n x1 = GV.n x1 ∧ GV.s x1 = GV.s x1 ∧ (GV.x x1).1 = (GV.x x1).1 ∧ (GV.x x1).2.1 = (GV.x x1).2.1 ∧ (GV.x x1).2.2 = (GV.x x1).2.2 ∧ (GV.y x1).1 = (GV.y x1).1 ∧ (GV.y x1).2.1 = (GV.y x1).2.1 ∧ (GV.y x1).2.2 = (GV.y x1).2.2 ∧ GV.b x1 = GV.b x1 ∧ AT.k x2 = AT.k x2 ∧ AT.nm x2 = AT.nm x2 ∧ (AT.al x2).1 = (AT.al x2).1 ∧ (AT.al x2).2.1 = (AT.al x2).2.1 ∧ (AT.al x2).2.2 = (AT.al x2).2.2 ∧ AT.it x2 = AT.it x2 ∧ (AT.sy x2).1 = (AT.sy x2).1 ∧ (AT.sy x2).2.1 = (AT.sy x2).2.1 ∧ (AT.sy x2).2.2 = (AT.sy x2).2.2 ∧ AT.hd x2 = AT.hd x2 ∧ AT.df x2 = AT.df x2 ∧ AT.sz x2 = AT.sz x2 ∧ (AT.f x2).1 = (AT.f x2).1 ∧ (AT.f x2).2.1 = (AT.f x2).2.1 ∧ (AT.f x2).2.2 = (AT.f x2).2.2 ∧ (AT.br x2).1 = (AT.br x2).1 ∧ (AT.br x2).2.1 = (AT.br x2).2.1 ∧ (AT.br x2).2.2 = (AT.br x2).2.2 ∧ (∀ (i0 : Pub), zce26 x0 x1 x2 x3 i0 → zce26 x0 x1 x2 x3 i0) ∧ x4
 abbrev zce27 := AT.k x2 ≠ 14 ∧ okQ x2 (List.length (GV.l x1)) (GV.ks x1) (GV.b x1) = true
 abbrev zce21 := ((!decide ((zce17 x1) = (↑(AT.f x2).2.1 : Int))) = true → inF x3 x2 x1 = false ∧ True) ∧ ((!decide ((zce17 x1) = (↑(AT.f x2).2.1 : Int))) = false → ∃ (i0 : Unit), zce0 x0 x1 x2 x3 ((zce27 x1 x2) ∧ True))
 abbrev zce28 := (↑(GV.y x1).2.1 : Int)
 abbrev zce15 := x5 ≤ List.length (GV.ks x1) ∧ (keyF (GV.ks x1) = if x5 = 0 then keyF (GV.ks x1) else keyF (List.drop (x5 - 1) (GV.ks x1))) ∧ x4
 abbrev zce36 := (∀ (i0 : Pub), zce26 x0 x1 x2 x3 i0 → cellsP i0 (adr (GV.y x1).1 (Int.toNat (↑x5 : Int) * 1)) [Value.string x9])
 abbrev zce33 := ((!vld x9) = true → inF x3 x2 x1 = false ∧ True) ∧ ((!vld x9) = false → False)
 abbrev zce32 := (!vld x9) = !vld x9 ∧ (!vld x9) = !vld x9 ∧ (!vld x9) = !vld x9 ∧ zce33 x1 x2 x3 x9
 abbrev zce13 := decide (0 < (↑x5 : Int)) = decide (0 < (↑x5 : Int))
 abbrev zce22 := ((-9223372036854775808 : Int) ≤ (↑x5 : Int) + 1 ∧ (↑x5 : Int) + 1 ≤ 9223372036854775807)
 abbrev zce34 := List.length (GV.ks x1) - x5 < List.length (GV.ks x1) - x6 ∧ True
 abbrev zce16 := decide (0 ≤ GV.b x1) = decide (0 ≤ GV.b x1)
 abbrev zce14 := GV.b x1 < (↑(AT.br x2).2.1 : Int)
 abbrev zce30 := decide (zce14 x1 x2) = decide (zce14 x1 x2)
 abbrev zce11 := decide ((zce17 x1) = 1) = decide ((zce17 x1) = 1)
 abbrev zce35 := zce11 x1 ∧ zce11 x1 ∧ zce11 x1 ∧ zce11 x1 ∧ zce11 x1 ∧ x4
 abbrev zce31 := x7.2.1.1 = x0.1 ∧ x7.2.1.2.1 = x0.2.1 ∧ x7.2.1.2.2 = x0.2.2 ∧ x4
 abbrev zce19 := GV.n x7.2.2.2 = x8 ∧ GV.s x7.2.2.2 = x9 ∧ (GV.x x7.2.2.2).1 = x10 ∧ (GV.x x7.2.2.2).2.1 = x5 ∧ (GV.x x7.2.2.2).2.2 = x6 ∧ (GV.y x7.2.2.2).1 = x11 ∧ (GV.y x7.2.2.2).2.1 = x12 ∧ (GV.y x7.2.2.2).2.2 = x13 ∧ GV.b x7.2.2.2 = x14 ∧ (muFr x7 < x15 ∧ small x7.1 ∧ kindsOK x7.1 ∧ PV.sm (GV.pv x7.2.2.2)) ∧ (∀ (i0 : Pub), zce26 x0 x1 x2 x3 i0 → schP x7.1 x7.2.1 i0 ∧ GV.ok x7.2.2.2 i0) ∧ x4
 abbrev zce7 := zce35 x1 ((0 ≤ GV.b x1 ∧ zce14 x1 x2) ∧ (AT.br x2).1 ≠ noA ∧ zce11 x1 ∧ ∃ (i0 : Int), (∀ (i1 : Pub), zce26 x0 x1 x2 x3 i1 → cellsP i1 (adr (AT.br x2).1 (Int.toNat (GV.b x1) * 1)) [Value.int IntKind.i64 i0]) ∧ zce11 x1 ∧ zce11 x1 ∧ zce11 x1 ∧ ((0 : Int) ≤ 0 ∧ 0 < (zce17 x1)) ∧ (GV.x x1).1 ≠ noA ∧ zce11 x1 ∧ ∃ (i2 : Int), ∃ (i3 : ByteArray), ∃ (i4 : Option Addr), ∃ (i5 : Nat), ∃ (i6 : Nat), ∃ (i7 : Option Addr), ∃ (i8 : Nat), ∃ (i9 : Nat), ∃ (i10 : Int), (∀ (i11 : Pub), zce26 x0 x1 x2 x3 i11 → cellsP i11 (adr (GV.x x1).1 ((0 : Nat) * 5)) [Value.int IntKind.u64 i2, Value.string i3, Value.slice i4 i5 i6, Value.slice i7 i8 i9, Value.int IntKind.i64 i10]) ∧ zce11 x1 ∧ ∃ (i12 : FtS), zce31 x0 (i12.2.2.1 = i0 ∧ zce19 x0 x1 x2 x3 ((decide ((zce17 x1) = 1) = true → inF x3 x2 x1 = PV.fits i12.1 i12.2.2.1 (GV.pv i12.2.2.2) ∧ True) ∧ (decide ((zce17 x1) = 1) = false → inF x3 x2 x1 = false ∧ True)) i5 i6 i12 i2 i3 i4 i7 i8 i9 i10 x5) i12)
 abbrev zce24 := zce11 x1 ∧ zce35 x1 (zce35 x1 ((decide ((zce17 x1) = 1) = true → False) ∧ (decide ((zce17 x1) = 1) = false → inF x3 x2 x1 = false ∧ True)))
 abbrev zce6 := (decide ((zce17 x1) = 1) = true → zce7 x0 x1 x2 x3 x5) ∧ (decide ((zce17 x1) = 1) = false → zce24 x1 x2 x3)
 abbrev zce5 := zce30 x1 x2 ∧ zce30 x1 x2 ∧ zce30 x1 x2 ∧ (decide (zce14 x1 x2) = true → zce6 x0 x1 x2 x3 x5) ∧ (decide (zce14 x1 x2) = false → inF x3 x2 x1 = false ∧ True)
 abbrev zce25 := zce30 x1 x2 ∧ zce30 x1 x2 ∧ zce30 x1 x2 ∧ (decide (zce14 x1 x2) = true → False) ∧ (decide (zce14 x1 x2) = false → inF x3 x2 x1 = false ∧ True)
 abbrev zce4 := (decide (zce14 x1 x2) = true → zce5 x0 x1 x2 x3 x5) ∧ (decide (zce14 x1 x2) = false → zce25 x1 x2 x3)
 abbrev zce3 := zce16 x1 ∧ zce16 x1 ∧ zce16 x1 ∧ zce16 x1 ∧ zce16 x1 ∧ (decide (0 ≤ GV.b x1) = true → zce4 x0 x1 x2 x3 x5) ∧ (decide (0 ≤ GV.b x1) = false → inF x3 x2 x1 = false ∧ True)
 abbrev zce29 := zce16 x1 ∧ zce16 x1 ∧ zce16 x1 ∧ zce16 x1 ∧ zce16 x1 ∧ (decide (0 ≤ GV.b x1) = true → False) ∧ (decide (0 ≤ GV.b x1) = false → inF x3 x2 x1 = false ∧ True)
 abbrev zce2 := (decide (0 ≤ GV.b x1) = true → zce3 x0 x1 x2 x3 x5) ∧ (decide (0 ≤ GV.b x1) = false → zce29 x1 x2 x3)
 abbrev zce1 := (decide (AT.k x2 = 14) = true → zce2 x0 x1 x2 x3 x5) ∧ (decide (AT.k x2 = 14) = false → ∃ (i14 : Unit), zce0 x0 x1 x2 x3 ((zce27 x1 x2) ∧ True))
 abbrev zce23 := x5 ≤ List.length (GV.l x1) ∧ PV.fitL x3 (tyOf x2 (GV.b x1)) x5 (List.drop x5 (GV.pvs (GV.l x1))) = PV.fitL x3 (tyOf x2 (GV.b x1)) 0 (GV.pvs (GV.l x1))
 abbrev zce18 := (0 ≤ (↑x5 : Int) ∧ (↑x5 : Int) < (↑(AT.f x2).2.1 : Int)) ∧ (AT.f x2).1 ≠ noA ∧ ∃ (i0 : Int), (∀ (i1 : Pub), zce26 x0 x1 x2 x3 i1 → cellsP i1 (Addr.add (adr (AT.f x2).1 (Int.toNat (↑x5 : Int) * 9)) 2) [Value.int IntKind.i64 i0]) ∧ ∃ (i2 : Unit), tyOf x2 (GV.b x1) (Int.toNat (↑x5 : Int)) = i0 ∧ (↑x5 : Int) = (↑x5 : Int) ∧ zce0 x0 x1 x2 x3 (True ∧ True)
 abbrev zce20 := zce22 x5 ∧ ∃ (i0 : Nat), (↑i0 : Int) = (↑x5 : Int) + 1 ∧ zce0 x0 x1 x2 x3 ((zce23 x1 x2 x3 i0) ∧ List.length (GV.l x1) - i0 < List.length (GV.l x1) - x5 ∧ True)
 abbrev zce12 := (0 ≤ (↑x5 : Int) ∧ (↑x5 : Int) < (zce17 x1)) ∧ (GV.x x1).1 ≠ noA ∧ ∃ (i0 : Int), ∃ (i1 : ByteArray), ∃ (i2 : Option Addr), ∃ (i3 : Nat), ∃ (i4 : Nat), ∃ (i5 : Option Addr), ∃ (i6 : Nat), ∃ (i7 : Nat), ∃ (i8 : Int), (∀ (i9 : Pub), zce26 x0 x1 x2 x3 i9 → cellsP i9 (adr (GV.x x1).1 (Int.toNat (↑x5 : Int) * 5)) [Value.int IntKind.u64 i0, Value.string i1, Value.slice i2 i3 i4, Value.slice i5 i6 i7, Value.int IntKind.i64 i8]) ∧ ∃ (i10 : FtS), zce31 x0 (i10.2.2.1 = tyOf x2 (GV.b x1) (Int.toNat (↑x5 : Int)) ∧ zce19 x0 x1 x2 x3 (((!PV.fits i10.1 i10.2.2.1 (GV.pv i10.2.2.2)) = true → inF x3 x2 x1 = false ∧ True) ∧ ((!PV.fits i10.1 i10.2.2.1 (GV.pv i10.2.2.2)) = false → zce20 x0 x1 x2 x3 x5)) i3 i4 i10 i0 i1 i2 i5 i6 i7 i8 x6) i10
 abbrev zce10 := ((decide (AT.k x2 = 9) = true → zce18 x0 x1 x2 x3 x5) ∧ (decide (AT.k x2 = 9) = false → ∃ (i3 : Unit), tyOf x2 (GV.b x1) (Int.toNat (↑x5 : Int)) = AT.it x2 ∧ (↑x5 : Int) = (↑x5 : Int) ∧ zce0 x0 x1 x2 x3 (True ∧ True))) ∧ ∀ (i4 : Unit), True → zce12 x0 x1 x2 x3 x5 x6
 abbrev zce9 := (decide ((↑x5 : Int) < (zce17 x1)) = true → zce10 x0 x1 x2 x3 x5 x6) ∧ (decide ((↑x5 : Int) < (zce17 x1)) = false → inF x3 x2 x1 = true ∧ True)
 abbrev zce8 := (∃ (i0 : Nat), (↑i0 : Int) = 0 ∧ zce0 x0 x1 x2 x3 ((zce23 x1 x2 x3 i0) ∧ True)) ∧ ∀ (i1 : Nat), zce23 x1 x2 x3 i1 → zce9 x0 x1 x2 x3 i1 x5
end
theorem inner_eqz (n : Nat) (S : List AT) (x : SV) (a : AT) (v : GV) : askF P (ctTab [(34, cValid), (13, cFitsR.below muFr n)]) Try.f35 (cInner.below muIn (n + 1)) (wInner) ⟨S, x, a, v⟩ = (muIn (S, x, a, v) < n + 1 ∧ small S ∧ kindsOK S ∧ List.length (AT.fs a) < 1000000 ∧ PV.sm (GV.pv v) ∧ isQ (AT.k a) = true → (∃ (p : Pub), zce26 x v a S p) → ((decide (AT.k a = 9) = true → zce21 x v a S) ∧ (decide (AT.k a = 9) = false → (decide (AT.k a = 13) = true → ((!decide ((zce17 v) = (zce28 v))) = true → inF S a v = false ∧ True) ∧ ((!decide ((zce17 v) = (zce28 v))) = false → (∃ (s : Nat), (↑s : Int) = 0 ∧ zce0 x v a S ((zce15 v (∀ (h : 0 < s) (h2 : s ≤ List.length (GV.ks v)), vld (GV.ks v)[s - 1] = true) s) ∧ True)) ∧ ∀ (s : Nat), (zce15 v (∀ (h : 0 < s) (h2 : s ≤ List.length (GV.ks v)), vld (GV.ks v)[s - 1] = true) s) → (decide ((↑s : Int) < (zce28 v)) = true → (0 ≤ (↑s : Int) ∧ (↑s : Int) < (zce28 v)) ∧ (GV.y v).1 ≠ noA ∧ ∃ (s_1 : ByteArray), zce36 x v a S s s_1 ∧ s_1 = s_1 ∧ ByteArray.size s_1 < 9223372036854775808 ∧ ((!vld s_1) = true → zce32 v a S s_1) ∧ ((!vld s_1) = false → (!vld s_1) = !vld s_1 ∧ (!vld s_1) = !vld s_1 ∧ (decide (0 < (↑s : Int)) = true → zce13 s ∧ zce13 s ∧ zce13 s ∧ (0 ≤ (↑s : Int) ∧ (↑s : Int) < (zce28 v)) ∧ (GV.y v).1 ≠ noA ∧ zce13 s ∧ ∃ (s_2 : ByteArray), zce36 x v a S s s_2 ∧ zce13 s ∧ zce13 s ∧ zce13 s ∧ zce13 s ∧ ((-9223372036854775808 : Int) ≤ (↑s : Int) - 1 ∧ (↑s : Int) - 1 ≤ 9223372036854775807) ∧ zce13 s ∧ (0 ≤ (↑s : Int) - 1 ∧ (↑s : Int) - 1 < (zce28 v)) ∧ (GV.y v).1 ≠ noA ∧ zce13 s ∧ ∃ (s_3 : ByteArray), (∀ (p : Pub), zce26 x v a S p → cellsP p (adr (GV.y v).1 (Int.toNat ((↑s : Int) - 1) * 1)) [Value.string s_3]) ∧ zce13 s ∧ (!vld s_1) = !vld s_1 ∧ (decide (0 < (↑s : Int)) = true → ((!vld s_1) = true → inF S a v = false ∧ True) ∧ ((!vld s_1) = false → ((sLess s_2 s_3 || decide (s_2 = s_3)) = true → inF S a v = false ∧ True) ∧ ((sLess s_2 s_3 || decide (s_2 = s_3)) = false → zce22 s ∧ ∃ (s_4 : Nat), (↑s_4 : Int) = (↑s : Int) + 1 ∧ zce0 x v a S ((zce15 v (∀ (h : 0 < s_4) (h2 : s_4 ≤ List.length (GV.ks v)), vld (GV.ks v)[s_4 - 1] = true) s_4) ∧ zce34 v s_4 s)))) ∧ (decide (0 < (↑s : Int)) = false → ((!vld s_1) = true → inF S a v = false ∧ True) ∧ ((!vld s_1) = false → zce22 s ∧ ∃ (s_4 : Nat), (↑s_4 : Int) = (↑s : Int) + 1 ∧ zce0 x v a S ((zce15 v (∀ (h : 0 < s_4) (h2 : s_4 ≤ List.length (GV.ks v)), vld (GV.ks v)[s_4 - 1] = true) s_4) ∧ zce34 v s_4 s)))) ∧ (decide (0 < (↑s : Int)) = false → zce13 s ∧ zce13 s ∧ zce13 s ∧ zce13 s ∧ zce13 s ∧ zce13 s ∧ zce13 s ∧ zce13 s ∧ zce13 s ∧ zce13 s ∧ zce13 s ∧ (!vld s_1) = !vld s_1 ∧ (decide (0 < (↑s : Int)) = true → zce33 v a S s_1) ∧ (decide (0 < (↑s : Int)) = false → ((!vld s_1) = true → inF S a v = false ∧ True) ∧ ((!vld s_1) = false → zce22 s ∧ ∃ (s_2 : Nat), (↑s_2 : Int) = (↑s : Int) + 1 ∧ zce0 x v a S ((zce15 v (∀ (h : 0 < s_2) (h2 : s_2 ≤ List.length (GV.ks v)), vld (GV.ks v)[s_2 - 1] = true) s_2) ∧ zce34 v s_2 s)))))) ∧ (decide ((↑s : Int) < (zce28 v)) = false → ∃ (s : Unit), zce0 x v a S ((zce27 v a) ∧ True)))) ∧ (decide (AT.k a = 13) = false → zce1 x v a S n))) ∧ ∀ (s : Unit), zce27 v a → zce8 x v a S n) := by kernel_rfl
def inner_eq (n : Nat) (S : List AT) (x : SV) (a : AT) (v : GV) := Eq.trans (inner_eqz n S x a v) (by delta zce26 zce17 zce0 zce27 zce21 zce28 zce15 zce36 zce33 zce32 zce13 zce22 zce34 zce16 zce14 zce30 zce11 zce35 zce31 zce19 zce7 zce24 zce6 zce5 zce25 zce4 zce3 zce29 zce2 zce1 zce23 zce18 zce20 zce12 zce10 zce9 zce8; exact rfl)
theorem is11_ok : CtOK P 33 cIsT := by
  refine ask_ok mixed no_tab (W := fun _ => {}) Try.func33 (by kernel_rfl) (by decide) (by decide) (fun s => by kernel_rfl) fun ⟨(x : SV), (t : Int)⟩ => (is11_eq x t).mpr ?_
  intro _
  simp only [decide_eq_true_eq, decide_eq_false_iff_not, Bool.not_eq_true', Bool.not_eq_false', true_and, and_true, eq_self, imp_self, implies_true, Int.toNat_natCast]
  refine ⟨fun h => ?_, fun h => ?_⟩
  · rw [decide_eq_true h]; rfl
  · rw [decide_eq_false h]; rfl
theorem bl_flip : ∀ x y : List UInt8, (Op.bytesLess x y || decide (x = y)) = !Op.bytesLess y x
  | [], [] => by simp [Op.bytesLess]
  | [], b :: y => by simp [Op.bytesLess]
  | a :: x, [] => by simp [Op.bytesLess]
  | a :: x, b :: y => by
    have ih := bl_flip x y
    rw [Op.bytesLess, Op.bytesLess]
    have tri : a < b ∨ a = b ∨ b < a := by
      rcases Nat.lt_trichotomy a.toNat b.toNat with h | h | h
      · exact .inl (UInt8.lt_iff_toNat_lt.2 h)
      · exact .inr (.inl (UInt8.toNat_inj.1 h))
      · exact .inr (.inr (UInt8.lt_iff_toNat_lt.2 h))
    rcases tri with h | h | h
    · have h2 : ¬ b < a := UInt8.lt_asymm h
      have h3 : ¬ b = a := fun e => by subst e; exact UInt8.lt_irrefl _ h
      simp [h, h2, h3]
    · subst h
      have h2 : ¬ a < a := UInt8.lt_irrefl a
      simp [h2]
      rw [← ih]
    · have h2 : ¬ a < b := UInt8.lt_asymm h
      have h3 : ¬ a = b := fun e => by subst e; exact UInt8.lt_irrefl _ h
      simp [h, h2, h3]
theorem sL_flip (x y : ByteArray) : (sLess x y = true ∨ x = y) ↔ sLess y x = false := by
  have h := bl_flip x.toList y.toList
  have e := str_eq x y
  unfold sLess
  by_cases hxy : x = y
  · have : x.toList = y.toList := by rw [hxy]
    rw [decide_eq_true this, Bool.or_true] at h
    simp [hxy]
    rw [hxy] at h
    simpa using h.symm
  · have : ¬ x.toList = y.toList := fun g => by rw [g] at e; simp at e; exact hxy e
    rw [decide_eq_false this, Bool.or_false] at h
    rw [h]; simp [hxy]
theorem inner_ok (n : Nat) (hf : CtOK P 13 (cFitsR.below muFr n)) : CtOK P 35 (cInner.below muIn (n + 1)) := by
  refine ask_ok mixed (ctTab_ok (forall_tab validR_ok (forall_tab hf nil_tab))) (W := wInner) Try.func35 (by kernel_rfl) (show 1 ≤ 1 by decide) (show 1 ≤ 1 by decide) (fun s => by kernel_rfl) fun ⟨S, (x : SV), a, v⟩ => (inner_eq n S x a v).mpr ?_
  rintro ⟨hmu, hS, hkS, haf, hv, hq⟩ ⟨p, _, hx, ha, hvo⟩
  have hmu : SizeOf.sizeOf v < n + 1 := hmu
  have xl := GV.x_len hvo
  have yl := GV.y_len hvo
  have fl : a.f.2.1 = a.fs.length := ha.2.2.1.1
  have bl : a.br.2.1 = a.brs.length := ha.2.2.2.1.1
  have hvs := hv
  rw [GV.sm_eq] at hvs
  obtain ⟨_, _, vl, kl, hsz, _⟩ := hvs
  have txs : ∀ q, v.ok q → slP txV v.y v.ks q := fun q h => by rw [GV.ok_eq] at h; exact h.2.1
  simp only [decide_eq_true_eq, decide_eq_false_iff_not, Bool.not_eq_true', Bool.not_eq_false', true_and, and_true, eq_self, imp_self, implies_true, exists_const, forall_const, Int.toNat_natCast, xl, yl, fl, bl, Bool.or_eq_true, Bool.or_eq_false_iff]
  have bad : okQ a v.l.length v.ks v.b = false → inF S a v = false := fun h => by unfold inF; rw [h]; rfl
  have child : ∀ {j : Nat} (hj : j < v.l.length), SizeOf.sizeOf v.l[j] < n := fun {j} hj => by
    have h1 := size_at hj
    have : SizeOf.sizeOf v.l < SizeOf.sizeOf v := by cases v; simp [GV.l]; omega
    omega
  have fdrop : ∀ {j : Nat} (hj : j < v.l.length), PV.fitL S (tyOf a v.b) j ((GV.pvs v.l).drop j) = (PV.fits S (tyOf a v.b j) (v.l[j]).pv && PV.fitL S (tyOf a v.b) (j + 1) ((GV.pvs v.l).drop (j + 1))) := fun {j} hj => by
    have := fitL_drop (S := S) (f := tyOf a v.b) (l := GV.pvs v.l) (j := j) (by rw [GV.pvs_len]; exact hj)
    rw [pvs_at hj] at this; exact this
  have fend : PV.fitL S (tyOf a v.b) v.l.length ((GV.pvs v.l).drop v.l.length) = true := by
    rw [List.drop_of_length_le (by rw [GV.pvs_len]; exact Nat.le_refl _), PV.fitL]
  have ok9 : a.k = 9 → okQ a v.l.length v.ks v.b = decide (v.l.length = a.fs.length) := fun h => by unfold okQ; rw [if_pos h]
  have ok14 : a.k = 14 → okQ a v.l.length v.ks v.b = decide (0 ≤ v.b ∧ v.b < a.brs.length ∧ v.l.length = 1) := fun h => by unfold okQ; rw [if_neg (by omega), if_pos h]
  have ok13 : a.k = 13 → okQ a v.l.length v.ks v.b = (decide (v.l.length = v.ks.length) && keyF v.ks) := fun h => by unfold okQ; rw [if_neg (by omega), if_neg (by omega), if_pos h]
  have ok12 : ¬ a.k = 9 → ¬ a.k = 13 → ¬ a.k = 14 → okQ a v.l.length v.ks v.b = true := fun h1 h2 h3 => by unfold okQ; rw [if_neg h1, if_neg h3, if_neg h2]
  refine ⟨⟨fun h9 => ⟨fun h => bad (by rw [ok9 h9]; exact decide_eq_false (by omega)), fun h => ⟨by omega, by rw [ok9 h9]; exact decide_eq_true (by omega)⟩⟩, fun h9 => ⟨fun h13 => ⟨fun h => bad (by rw [ok13 h13, decide_eq_false (by omega)]; rfl), fun h => ⟨⟨0, rfl, Nat.zero_le _, rfl, fun h => absurd h (by omega)⟩, ?_⟩⟩, fun h13 => ⟨fun h14 => ?_, fun h14 => ⟨h14, ok12 h9 h13 h14⟩⟩⟩⟩, ?_⟩
  · rintro j ⟨hj, hk, hvv⟩
    have bad13 : keyF v.ks = false → inF S a v = false := fun g => bad (by rw [ok13 h13, g, Bool.and_false])
    refine ⟨fun hlt => ?_, fun hge => ⟨by omega, ?_⟩⟩
    · have hjk : j < v.ks.length := by omega
      have tx := fun q (hq : schP S x q ∧ a.ok q ∧ v.ok q) => tx_at (txs q hq.2.2) hjk
      have hsj := hsz _ (List.getElem_mem hjk)
      have bv : vld v.ks[j] = false → inF S a v = false := fun hb => bad13 (keyF_bad hjk hb)
      have t0 := tx p ⟨hx, ha, hvo⟩
      refine ⟨⟨by omega, by omega⟩, t0.1, v.ks[j], fun q hq => (tx q hq).2, hsj, fun hb => ⟨fun _ => bv hb, fun h => by rw [hb] at h; cases h⟩, fun hg => ⟨fun h0 => ?_, fun h0 => ⟨fun h => absurd h h0, fun _ => ⟨fun hb => bv hb, fun _ => ?_⟩⟩⟩⟩
      · have hj1 : j - 1 < v.ks.length := by omega
        have e : ((j : Int) - 1).toNat = j - 1 := by omega
        rw [e]
        have tx1 := fun q (hq : schP S x q ∧ a.ok q ∧ v.ok q) => tx_at (txs q hq.2.2) hj1
        have kd := keyF_drop (ks := v.ks) (j := j - 1) (by omega)
        simp only [show j - 1 + 1 = j by omega] at kd
        rw [if_neg (by omega)] at hk
        refine ⟨⟨by omega, by omega⟩, t0.1, v.ks[j], fun q hq => (tx q hq).2, ⟨by omega, by omega⟩, ⟨by omega, by omega⟩, t0.1, v.ks[j - 1], fun q hq => (tx1 q hq).2, fun _ => ⟨fun hb => bv hb, fun _ => ⟨fun hl => ?_, fun hl => ?_⟩⟩, fun h => absurd h0 h⟩
        · have := (sL_flip _ _).1 hl
          exact bad13 (by rw [hk, kd, this, Bool.and_false]; rfl)
        · have : sLess v.ks[j - 1] v.ks[j] = true := by
            cases hb : sLess v.ks[j - 1] v.ks[j] with
            | true => rfl
            | false =>
              rcases (sL_flip _ _).2 hb with g | g
              · rw [hl.1] at g; cases g
              · exact absurd g hl.2
          refine ⟨⟨by omega, by omega⟩, j + 1, by omega, ⟨by omega, ?_, fun _ _ => hg⟩, by omega⟩
          rw [if_neg (by omega), Nat.add_sub_cancel, hk, kd, this, hvv (by omega) (by omega)]; rfl
      · obtain rfl : j = 0 := by omega
        exact ⟨⟨by omega, by omega⟩, 1, rfl, ⟨by omega, by simp, fun _ _ => hg⟩, by omega⟩
    · obtain rfl : j = v.ks.length := by omega
      have : keyF v.ks = true := by
        by_cases h0 : v.ks.length = 0
        · rw [List.length_eq_zero_iff] at h0; rw [h0, keyF]
        · rw [if_neg h0] at hk
          have := hvv (by omega) (Nat.le_refl _)
          rw [hk, List.drop_eq_getElem_cons (by omega), show v.ks.length - 1 + 1 = v.ks.length by omega, List.drop_length, keyF]
          exact this
      rw [ok13 h13, this, Bool.and_true]; exact decide_eq_true (by omega)
  · have bd : ¬ (0 ≤ v.b ∧ v.b < a.brs.length ∧ v.l.length = 1) → inF S a v = false := fun h => bad (by rw [ok14 h14]; exact decide_eq_false h)
    refine ⟨fun d1 => ⟨fun _ => ⟨fun d2 => ⟨fun _ => ⟨fun d3 => ?_, fun d3 => ⟨fun h => d3 h, fun _ => bd (by omega)⟩⟩, fun h => absurd d2 h⟩, fun d2 => ⟨fun h => d2 h, fun _ => bd (by omega)⟩⟩, fun h => absurd d1 h⟩, fun d1 => ⟨fun h => d1 h, fun _ => bd (by omega)⟩⟩
    have hl1 : v.l.length = 1 := by omega
    have h0 : 0 < v.l.length := by omega
    obtain ⟨b, hb⟩ := Int.eq_ofNat_of_zero_le d1
    have hbl : b < a.brs.length := by omega
    have hbt : v.b.toNat = b := by omega
    rw [hbt]
    have hty : tyOf a v.b 0 = a.brs[b] := by
      unfold tyOf
      rw [if_neg h9, if_pos h14, hbt, List.getD_eq_getElem?_getD, List.getElem?_eq_getElem hbl]; rfl
    have hd := fdrop h0
    have fe := fend
    rw [hl1] at fe
    rw [List.drop_zero, hty, Nat.zero_add, fe, Bool.and_true] at hd
    have hin : inF S a v = PV.fits S a.brs[b] (v.l[0]).pv := by
      unfold inF; rw [ok14 h14, decide_eq_true ⟨d1, d2, hl1⟩, hd]; rfl
    refine ⟨⟨by omega, by omega⟩, (brn_at ha hbl).1, a.brs[b], fun q hq => (brn_at hq.2.1 hbl).2, ⟨by omega, by omega⟩, (GV.cells_at hvo h0).1, v.l[0].n, v.l[0].s, v.l[0].x.1, v.l[0].x.2.1, v.l[0].x.2.2, v.l[0].y.1, v.l[0].y.2.1, v.l[0].y.2.2, v.l[0].b, fun q hq => (GV.cells_at hq.2.2 h0).2, ⟨S, x, a.brs[b], v.l[0]⟩, rfl, rfl, rfl, rfl, rfl, rfl, rfl, rfl, rfl, rfl, rfl, rfl, rfl, ⟨child h0, hS, hkS, GV.sm_at hv h0⟩, fun q hq => ⟨hq.1, GV.ok_at hq.2.2 h0⟩, ?_⟩
    exact ⟨fun _ => hin, fun h => absurd d3 h⟩
  · rintro ⟨h14, hok⟩
    refine ⟨⟨0, rfl, Nat.zero_le _, by simp⟩, ?_⟩
    rintro j ⟨hj, ht⟩
    refine ⟨fun hlt => ?_, fun hge => ?_⟩
    · have hjl : j < v.l.length := by omega
      have hd := fdrop hjl
      refine ⟨⟨fun h9 => ?_, fun h9 => by unfold tyOf; rw [if_neg h9, if_neg h14]⟩, ⟨by omega, by omega⟩, (GV.cells_at hvo hjl).1, v.l[j].n, v.l[j].s, v.l[j].x.1, v.l[j].x.2.1, v.l[j].x.2.2, v.l[j].y.1, v.l[j].y.2.1, v.l[j].y.2.2, v.l[j].b, fun q hq => (GV.cells_at hq.2.2 hjl).2, ⟨S, x, tyOf a v.b j, v.l[j]⟩, rfl, rfl, rfl, rfl, rfl, rfl, rfl, rfl, rfl, rfl, rfl, rfl, rfl, ⟨child hjl, hS, hkS, GV.sm_at hv hjl⟩, fun q hq => ⟨hq.1, GV.ok_at hq.2.2 hjl⟩, fun hb => ?_, fun hb => ⟨⟨by omega, by omega⟩, j + 1, by omega, ⟨by omega, ?_⟩, by omega⟩⟩
      · have hjf : j < a.fs.length := by
          rw [ok9 h9] at hok; have := of_decide_eq_true hok; omega
        have fa := fun q (hq : schP S x q ∧ a.ok q ∧ v.ok q) => fld_at hq.2.1 hjf
        refine ⟨⟨by omega, by omega⟩, (fa p ⟨hx, ha, hvo⟩).1, a.fs[j].ty, fun q hq => ?_, by unfold tyOf; rw [if_pos h9, List.getElem?_eq_getElem hjf]⟩
        intro i w hi
        cases i with
        | zero => have := (fa q hq).2 2 w hi; rw [Addr.add_add]; exact this
        | succ i => simp at hi
      · unfold inF; rw [← ht, hd, hb, Bool.false_and, Bool.and_false]
      · rw [← ht, hd, hb, Bool.true_and]
    · obtain rfl : j = v.l.length := by omega
      unfold inF
      rw [hok, ← ht, fend]; rfl
theorem fitsR_ok (n : Nat) (hf : CtOK P 35 (cInner.below muIn (n + 1))) : CtOK P 13 (cFitsR.below muFr (n + 1)) := by
  refine ask_ok mixed (ctTab_ok (forall_tab is11_ok (forall_tab validR_ok (forall_tab hf nil_tab)))) (W := wFitsR) Try.func13 (by kernel_rfl) (show 1 ≤ 1 by decide) (show 1 ≤ 1 by decide) (fun s => by kernel_rfl) fun ⟨S, (x : SV), (t : Int), v⟩ => (fitsR_eq n S x t v).mpr ?_
  rintro ⟨hmu, hS, hkS, hv⟩ ⟨p, _, hx, hvo⟩
  have hmu : SizeOf.sizeOf v < n + 1 := hmu
  have xl := GV.x_len hvo
  have yl := GV.y_len hvo
  have sl : x.2.1 = S.length := hx.1.1
  have hvs := hv
  rw [GV.sm_eq] at hvs
  obtain ⟨hn, hs, vl, kl, hsz, _⟩ := hvs
  simp only [decide_eq_true_eq, decide_eq_false_iff_not, Bool.not_eq_true', Bool.not_eq_false', true_and, and_true, eq_self, imp_self, implies_true, exists_const, forall_const, Int.toNat_natCast, xl, yl, sl]
  have hfit : PV.fits S t v.pv = if t < 0 ∨ S.length ≤ t then false else match S[t.toNat]? with
    | none => false
    | some a => if isN a.k = true then okN a v.n && decide (v.s.size = 0) && noPt v.l.length v.ks.length v.b else
      if isT a.k = true then okT a v.s && decide (v.n = 0) && noPt v.l.length v.ks.length v.b else
      if isQ a.k = true then okP a v.l.length v.ks v.b && PV.fitL S (tyOf a v.b) 0 (GV.pvs v.l) && decide (v.n = 0) && decide (v.s.size = 0) else false := by
    rw [GV.pv_eq, PV.fits, GV.pvs_len] <;> rfl
  refine ⟨⟨x, t⟩, rfl, sl, rfl, rfl, ?_⟩
  simp only [sl]
  refine ⟨fun h => ?_, fun h => ?_⟩
  · rw [hfit, if_pos]
    by_cases h1 : 0 ≤ t
    · rw [decide_eq_true h1, Bool.true_and] at h; have := of_decide_eq_false h; omega
    · omega
  rw [Bool.and_eq_true, decide_eq_true_eq, decide_eq_true_eq] at h
  obtain ⟨j, rfl⟩ := Int.eq_ofNat_of_zero_le h.1
  have hj : j < S.length := by omega
  have hae : atS S (j : Int) = S[j] := by unfold atS; rw [Int.toNat_natCast, List.getElem?_eq_getElem hj]; rfl
  rw [if_neg (by omega)] at hfit
  rw [hae]
  simp only [Int.toNat_natCast, List.getElem?_eq_getElem hj] at hfit ⊢
  have hat := fun q (hq : schP S x q ∧ v.ok q) => typ_at hq.1 hj
  have hao := fun q (hq : schP S x q ∧ v.ok q) => hq.1.2 S[j] (List.getElem_mem hj)
  have hsm := hS.2 S[j] (List.getElem_mem hj)
  have hkk := hkS S[j] (List.getElem_mem hj)
  have syl : S[j].sy.2.1 = S[j].sys.length := (hao p ⟨hx, hvo⟩).2.1.1
  refine ⟨⟨by omega, by omega⟩, (hat p ⟨hx, hvo⟩).1, S[j].k, S[j].nm, S[j].al.1, S[j].al.2.1, S[j].al.2.2, S[j].it, S[j].sy.1, S[j].sy.2.1, S[j].sy.2.2, S[j].hd, S[j].df, S[j].sz, S[j].f.1, S[j].f.2.1, S[j].f.2.2, S[j].br.1, S[j].br.2.1, S[j].br.2.2, fun q hq => (hat q hq).2, ?_⟩
  have hao2 := fun q (hq : schP S x q ∧ v.ok q) => hao q hq
  generalize S[j] = a at *
  clear hat hao hae
  have w64 : IntKind.wrap .i64 v.n = if v.n < 9223372036854775808 then v.n else v.n - 18446744073709551616 := by
    unfold IntKind.wrap; simp [IntKind.bits, IntKind.signed]; omega
  have u64 : IntKind.wrap .u64 (a.sys.length : Int) = a.sys.length := by rw [wrap_u64']; omega
  simp only [syl, u64]
  have kinds : a.k = 1 ∨ a.k = 2 ∨ a.k = 3 ∨ a.k = 4 ∨ a.k = 5 ∨ a.k = 6 ∨ a.k = 7 ∨ a.k = 8 ∨ a.k = 9 ∨ a.k = 10 ∨ a.k = 11 ∨ a.k = 12 ∨ a.k = 13 ∨ a.k = 14 := by omega
  have hin : isQ a.k = true → okAll S a v = inF S a v := fun h => by
    unfold isQ at h
    have h := of_decide_eq_true h
    unfold okAll isN isT
    rw [if_neg (by omega), if_neg (by simp; omega), if_neg (by simp; omega)]
  have hbadB : badB a v = true ↔ (a.k ≠ 13 ∧ 0 < v.ks.length) ∨ (a.k ≠ 14 ∧ v.b ≠ 0) := by
    unfold badB; simp
  have hbadF : badB a v = false ↔ ¬ ((a.k ≠ 13 ∧ 0 < v.ks.length) ∨ (a.k ≠ 14 ∧ v.b ≠ 0)) := by
    rw [← hbadB]; simp
  have sE : (v.s = mkS []) ↔ v.s.size = 0 := mkS_nil
  have key : PV.fits S (j : Int) v.pv = (!badB a v && okAll S a v && (nB a.k || decide (v.n = 0)) && (isT a.k || decide (v.s = mkS [])) && (isQ a.k || decide (v.l.length = 0))) := by
    rw [hfit, Bool.eq_iff_iff]
    by_cases hN : isN a.k = true
    · have hk1 := of_decide_eq_true hN
      have hT : isT a.k = false := decide_eq_false (by omega)
      have hQ : isQ a.k = false := decide_eq_false (by omega)
      rw [if_pos hN, hT, hQ]
      have hok : (okAll S a v && (nB a.k || decide (v.n = 0))) = okN a v.n := by
        unfold okAll
        by_cases h1 : a.k = 1
        · rw [if_pos h1]; unfold nB okN; rw [if_pos h1, decide_eq_false (by omega)]; rfl
        · rw [if_neg h1, if_pos hN]; unfold nB; rw [decide_eq_true (by omega)]; simp
      have e : (!badB a v && okAll S a v && (nB a.k || decide (v.n = 0)) && (false || decide (v.s = mkS [])) && (false || decide (v.l.length = 0))) = (!badB a v && (okAll S a v && (nB a.k || decide (v.n = 0))) && (false || decide (v.s = mkS [])) && (false || decide (v.l.length = 0))) := by simp only [Bool.and_assoc]
      rw [e, hok]
      unfold noPt
      simp only [Bool.and_eq_true, Bool.or_eq_true, Bool.not_eq_true', decide_eq_true_eq, hbadF, sE, Bool.false_eq_true, false_or]
      constructor
      · rintro ⟨⟨h1, h2⟩, ⟨h3, h4⟩, h5⟩; exact ⟨⟨⟨by omega, h1⟩, h2⟩, h3⟩
      · rintro ⟨⟨⟨h1, h2⟩, h3⟩, h4⟩; exact ⟨⟨h2, h3⟩, ⟨h4, by omega⟩, by omega⟩
    · rw [if_neg hN]
      have hN' : isN a.k = false := by simpa using hN
      have nn : nB a.k = false := by
        have := of_decide_eq_false hN'
        exact decide_eq_false (by omega)
      by_cases hT : isT a.k = true
      · have hk1 := of_decide_eq_true hT
        have hQ : isQ a.k = false := decide_eq_false (by omega)
        have hok : okAll S a v = okT a v.s := by unfold okAll; rw [if_neg (by omega), if_neg hN, if_pos hT]
        rw [if_pos hT, hQ, nn, hT, hok]
        unfold noPt
        simp only [Bool.and_eq_true, Bool.or_eq_true, Bool.not_eq_true', decide_eq_true_eq, hbadF, sE, Bool.false_eq_true, false_or, true_or, and_true]
        constructor
        · rintro ⟨⟨h1, h2⟩, ⟨h3, h4⟩, h5⟩; exact ⟨⟨⟨by omega, h1⟩, h2⟩, h3⟩
        · rintro ⟨⟨⟨h1, h2⟩, h3⟩, h4⟩; exact ⟨⟨h2, h3⟩, ⟨h4, by omega⟩, by omega⟩
      · have hT' : isT a.k = false := by simpa using hT
        have hQ : isQ a.k = true := by
          have h1 := of_decide_eq_false hT'
          have h2 := of_decide_eq_false hN'
          exact decide_eq_true (by omega)
        have hk1 := of_decide_eq_true hQ
        rw [if_neg hT, if_pos hQ, hQ, nn, hT', hin hQ]
        have hop : okP a v.l.length v.ks v.b = (!badB a v && okQ a v.l.length v.ks v.b) := by
          unfold okP okQ
          by_cases hb : v.ks.length > 0 ∧ a.k ≠ 13 ∨ v.b ≠ 0 ∧ a.k ≠ 14
          · rw [if_pos hb, hbadB.2 (by omega)]; rfl
          · rw [if_neg hb, hbadF.2 (by omega)]; rfl
        unfold inF
        rw [hop]
        simp only [Bool.and_eq_true, Bool.or_eq_true, Bool.not_eq_true', decide_eq_true_eq, hbadF, sE, Bool.false_eq_true, false_or, true_or, and_true]
        constructor
        · rintro ⟨⟨⟨⟨h1, h2⟩, h3⟩, h4⟩, h5⟩; exact ⟨⟨⟨h1, h2, h3⟩, h4⟩, h5⟩
        · rintro ⟨⟨⟨h1, h2, h3⟩, h4⟩, h5⟩; exact ⟨⟨⟨⟨h1, h2⟩, h3⟩, h4⟩, h5⟩
  have tri : ∀ k : Int, a.k = k → (isN k = true ∨ isT k = true) → okAll S a v = (if k = 1 then true else if isN k = true then okN a v.n else okT a v.s) ∧ isT a.k = isT k ∧ nB a.k = nB k ∧ isQ a.k = isQ k := fun k hk hh => by
    subst hk
    refine ⟨?_, rfl, rfl, rfl⟩
    unfold okAll
    by_cases h1 : a.k = 1
    · rw [if_pos h1, if_pos h1]
    · rw [if_neg h1, if_neg h1]
      by_cases hN : isN a.k = true
      · rw [if_pos hN, if_pos hN]
      · rw [if_neg hN, if_neg hN, if_pos (hh.resolve_left hN)]
  have oN : ∀ k : Int, a.k = k → okN a v.n = (if k = 1 then decide (v.n = 0) else if k = 2 then decide (v.n ≤ 1) else if k = 3 then decide (v.n < 2147483648 ∨ 18446744071562067968 ≤ v.n) else if k = 5 then decide (v.n < 4294967296) else if k = 10 then decide (v.n < a.sys.length) else true) := fun k hk => by subst hk; rfl
  have oT : ∀ k : Int, a.k = k → okT a v.s = (if k = 8 then vld v.s else if k = 11 then decide ((v.s.size : Int) = a.sz) else true) := fun k hk => by subst hk; rfl
  clear hfit
  refine ⟨⟨fun h1 => ?_, fun h1 => ⟨fun h2 => ?_, fun h2 => ⟨fun h3 => ⟨fun h5 => ⟨fun _ => ?_, fun h => absurd h5 h⟩, fun h5 => ⟨fun h => absurd h h5, fun _ => ?_⟩⟩, fun h3 => ⟨⟨trivial, fun h4 => ?_, fun h4 => ?_⟩, fun h46 => ?_, fun h46 => ⟨fun h5 => ?_, fun h5 => ⟨fun h10 => ?_, fun h10 => ⟨fun h7 => ?_, fun h7 => ⟨fun h8 => ⟨hs, ?_⟩, fun h8 => ⟨fun h11 => ?_, fun h11 => ?_⟩⟩⟩⟩⟩⟩⟩⟩⟩, ⟨fun h13 => ⟨fun hk => ?_, fun hk => ⟨fun h14 => ?_, fun h14 => ?_⟩⟩, fun h13 => ⟨fun h14 => ?_, fun h14 => ?_⟩⟩, fun hB => ?_, fun hB => ⟨fun ho => ⟨fun hn' => ⟨fun ht => ⟨fun hq => ?_, fun hq => ?_⟩, fun ht => ⟨fun hs' => ⟨fun hq => ?_, fun hq => ?_⟩, fun hs' => ?_⟩⟩, fun hn' => ⟨fun hn0 => ⟨fun ht => ⟨fun hq => ?_, fun hq => ?_⟩, fun ht => ⟨fun hs' => ⟨fun hq => ?_, fun hq => ?_⟩, fun hs' => ?_⟩⟩, fun hn0 => ?_⟩⟩, fun ho => ?_⟩⟩
  · have := tri 1 h1 (.inl rfl); exact this
  · have := tri 2 h2 (.inl rfl); rw [oN 2 h2] at this; exact this
  · have := tri 3 h3 (.inl rfl); rw [oN 3 h3] at this
    refine ⟨this.1.trans ?_, this.2⟩
    show decide (v.n < 2147483648 ∨ 18446744071562067968 ≤ v.n) = _
    rw [w64] at h5 ⊢
    split at h5 <;> exact dec_iff (by omega)
  · have := tri 3 h3 (.inl rfl); rw [oN 3 h3] at this
    refine ⟨this.1.trans ?_, this.2⟩
    show decide (v.n < 2147483648 ∨ 18446744071562067968 ≤ v.n) = _
    rw [w64] at h5
    split at h5 <;> exact decide_eq_false (by omega)
  · unfold b46; rw [h4]; rfl
  · unfold b46; rw [decide_eq_false h4]; rfl
  · unfold b46 at h46
    rw [Bool.or_eq_true, decide_eq_true_eq, decide_eq_true_eq] at h46
    rcases h46 with h | h
    · have := tri 4 h (.inl rfl); rw [oN 4 h] at this; exact this
    · have := tri 6 h (.inl rfl); rw [oN 6 h] at this; exact this
  · have := tri 5 h5 (.inl rfl); rw [oN 5 h5] at this; exact this
  · have := tri 10 h10 (.inl rfl); rw [oN 10 h10] at this; exact this
  · have := tri 7 h7 (.inr rfl); rw [oT 7 h7] at this; exact this
  · have := tri 8 h8 (.inr rfl); rw [oT 8 h8] at this; exact this
  · have := tri 11 h11 (.inr rfl); rw [oT 11 h11] at this; exact this
  · have hb6 : ¬ a.k = 4 ∧ ¬ a.k = 6 := by
      unfold b46 at h46
      rw [Bool.or_eq_false_iff, decide_eq_false_iff_not, decide_eq_false_iff_not] at h46; exact h46
    have hQ : isQ a.k = true := decide_eq_true (by omega)
    refine ⟨⟨S, x, a, v⟩, rfl, sl, rfl, rfl, rfl, rfl, rfl, rfl, rfl, rfl, syl, rfl, rfl, rfl, rfl, rfl, rfl, rfl, rfl, rfl, rfl, rfl, rfl, rfl, xl, rfl, rfl, yl, rfl, rfl, ⟨hmu, hS, hkS, hsm.1, hv, hQ⟩, fun q hq => ⟨hq.1, hao2 q hq, hq.2⟩, hin hQ, decide_eq_false (by unfold isQ at hQ; have := of_decide_eq_true hQ; omega), decide_eq_false (by unfold isQ at hQ; have := of_decide_eq_true hQ; omega), hQ⟩
  · exact hbadB.2 (.inl ⟨h13, by omega⟩)
  · by_cases hb : v.b = 0
    · rw [decide_eq_true hb]; exact hbadF.2 (by omega)
    · rw [decide_eq_false hb]; exact hbadB.2 (.inr ⟨h14, hb⟩)
  · exact hbadF.2 (by omega)
  · by_cases hb : v.b = 0
    · rw [decide_eq_true hb]; exact hbadF.2 (by omega)
    · rw [decide_eq_false hb]; exact hbadB.2 (.inr ⟨h14, hb⟩)
  · exact hbadF.2 (by omega)
  · rw [key, hB]; rfl
  all_goals first
    | (rw [key, hB, ho, hn', ht, hq]; simp [hn0, hs']; done)
    | (rw [key, hB, ho, hn', ht]; simp [hn0, hs']; done)
    | (rw [key, hB, ho, hn', ht, hq]; simp [hn0]; done)
    | (rw [key, hB, ho, hn', ht, hq]; simp [hs']; done)
    | (rw [key, hB, ho, hn', ht]; simp [hs']; done)
    | (rw [key, hB, ho, hn', ht, hq]; simp; done)
    | (rw [key, hB, ho, hn']; simp [hn0]; done)
    | (rw [key, hB, ho]; simp; done)
theorem inR_all : ∀ n, CtOK P 13 (cFitsR.below muFr n)
  | 0 => Ct.below_zero (by decide) (by decide) (Sen.enters_of Try.func13 (by kernel_rfl)) fun s => ⟨rfl, rfl⟩
  | n + 1 => fitsR_ok n (inner_ok n (inR_all n))
theorem fitsR_fin : CtOK P 13 cFitsR := Ct.of_below inR_all
/-! A schema that is made: contracts. -/
def cValueM : CtR := ctN (List AT × SV × Int × GJ) (fun ⟨S, x, t, g⟩ => [scA x, .sv (.int .i64 t), g.av]) (fun ⟨S, x, t, g⟩ => goodS S ∧ g.wf) (fun ⟨S, x, t, g⟩ => sgM S x g) (Int × GV) (fun _ _ => True) (fun _ ⟨e, v⟩ => vM v) fun _ ⟨e, v⟩ => .tup [v.av, .sv (.int .i64 e)]
def sM (S : List AT) (x : SV) : PF := ⟨true, schP S x, fun _ _ h e => schP_mono h e⟩
def cCheckM : CtR := ctN (List AT × SV) (fun ⟨S, x⟩ => [scA x]) (fun ⟨S, x⟩ => goodS S) (fun ⟨S, x⟩ => sM S x) (Int × Int × Int) (fun _ _ => True) (fun _ _ => {}) fun _ ⟨e, t, i⟩ => .tup [.sv (.int .i64 e), .sv (.int .i64 t), .sv (.int .i64 i)]
def wCheckM : cCheckM.σ → WayF := fun ⟨S, x⟩ => {
  ann := fun id t _ => match id with
    | 0 => some { σ := Nat, pre := fun j => j ≤ S.length, t := fun j => [(5, .sv (.int .i64 (j : Int)))], h := fun _ => [], more := 0, μ := fun j => S.length - j, keep := [1] }
    | _ => some { σ := Nat, t := fun k => [(6, .sv (.int .i64 (k : Int)))], h := fun _ => [], more := 0, μ := fun k => 100 - k, keep := [1, 5] } }
abbrev RcS := SV × List Int × Int
def rcPre : RcS → Prop := fun ⟨x, L, n⟩ => 0 ≤ n ∧ n ≤ L.length ∧ bytesOK L
def cRecordT : CtR where
  σ := RcS
  args := fun ⟨x, L, n⟩ => [.ptr 1 0]
  h := fun ⟨x, L, n⟩ => pkO x n
  m := 2
  pre := rcPre
  mem := fun ⟨x, L, n⟩ => byM x L
  β := fun _ => GJ × Int
  post := fun ⟨x, L, n⟩ ⟨g, n'⟩ => g.wf ∧ n ≤ n' ∧ n' ≤ L.length
  pm := fun _ ⟨g, n'⟩ => gM g
  r := fun _ ⟨g, n'⟩ => g.av
  h' := fun ⟨x, L, n⟩ ⟨g, n'⟩ => pkO x n'
  m' := 2
def cAvro : CtR where
  σ := RcS
  args := fun ⟨x, L, n⟩ => [.ptr 1 0]
  h := fun ⟨x, L, n⟩ => pkO x n
  m := 2
  pre := rcPre
  mem := fun ⟨x, L, n⟩ => byM x L
  β := fun _ => List AT × SV × Bool × Int
  post := fun ⟨x, L, n⟩ ⟨S, y, b, n'⟩ => goodS S ∧ (b = true → S ≠ []) ∧ n ≤ n' ∧ n' ≤ L.length
  pm := fun _ ⟨S, y, b, n'⟩ => sM S y
  r := fun _ ⟨S, y, b, n'⟩ => .tup [scA y, .sv (.bool b)]
  h' := fun ⟨x, L, n⟩ ⟨S, y, b, n'⟩ => pkO x n'
  m' := 2
noncomputable section
variable (x0 : VlB) (x1 : List AT) (x2 : SV) (x3 : GJ) (x4 : Int × GV) (x5 : Prop) (x6 : (Option Addr × Nat × Nat) × Int)
 abbrev zcf2 := !(decide (0 ≤ x6.2) && decide (x6.2 < (↑x6.1.2.1 : Int)))
 abbrev zcf1 := GV.n x4.2 = 0 ∧ GV.s x4.2 = mkS [] ∧ (GV.x x4.2).1 = noA ∧ (GV.x x4.2).2.1 = 0 ∧ (GV.x x4.2).2.2 = 0 ∧ (GV.y x4.2).1 = noA ∧ (GV.y x4.2).2.1 = 0 ∧ (GV.y x4.2).2.2 = 0 ∧ GV.b x4.2 = 0 ∧ x5
 abbrev zcf0 := ((!decide (x0.2.1 = 0)) = true → ∃ (i0 : Int × GV), zcf1 i0 (i0.1 = x0.2.1 ∧ True ∧ (∀ (i1 : Pub), (True ∧ schP x1 x2 i1 ∧ GJ.ok x3 i1) ∧ GV.ok x0.2.2 i1 → GV.ok i0.2 i1) ∧ True)) ∧ ((!decide (x0.2.1 = 0)) = false → ∃ (i2 : Int × GV), GV.n i2.2 = GV.n x0.2.2 ∧ GV.s i2.2 = GV.s x0.2.2 ∧ (GV.x i2.2).1 = (GV.x x0.2.2).1 ∧ (GV.x i2.2).2.1 = (GV.x x0.2.2).2.1 ∧ (GV.x i2.2).2.2 = (GV.x x0.2.2).2.2 ∧ (GV.y i2.2).1 = (GV.y x0.2.2).1 ∧ (GV.y i2.2).2.1 = (GV.y x0.2.2).2.1 ∧ (GV.y i2.2).2.2 = (GV.y x0.2.2).2.2 ∧ GV.b i2.2 = GV.b x0.2.2 ∧ i2.1 = 0 ∧ True ∧ (∀ (i3 : Pub), (True ∧ schP x1 x2 i3 ∧ GJ.ok x3 i3) ∧ GV.ok x0.2.2 i3 → GV.ok i2.2 i3) ∧ True)
end
theorem valueM_eqz (S : List AT) (x : SV) (t : Int) (g : GJ) : askR P (ctTab [(33, cIsT)]) (rlTab [(76, cVl)]) Try.f47 cValueM (fun _ => {}) ⟨S, x, t, g⟩ = (goodS S ∧ GJ.wf g → (∃ (p : Pub), True ∧ schP S x p ∧ GJ.ok g p) → ∃ (s : (Option Addr × Nat × Nat) × Int), s.1.1 = x.1 ∧ s.1.2.1 = x.2.1 ∧ s.1.2.2 = x.2.2 ∧ s.2 = t ∧ True ∧ ((zcf2 s) = true → ∃ (b : Int × GV), zcf1 b (b.1 = 1 ∧ True ∧ (∀ (p : Pub), True ∧ schP S x p ∧ GJ.ok g p → GV.ok b.2 p) ∧ True)) ∧ ((zcf2 s) = false → ∃ (s : VlS), s.2.2.2.1 = t ∧ GJ.k s.2.2.2.2.1 = GJ.k g ∧ GJ.n s.2.2.2.2.1 = GJ.n g ∧ GJ.s s.2.2.2.2.1 = GJ.s g ∧ (GJ.y s.2.2.2.2.1).1 = (GJ.y g).1 ∧ (GJ.y s.2.2.2.2.1).2.1 = (GJ.y g).2.1 ∧ (GJ.y s.2.2.2.2.1).2.2 = (GJ.y g).2.2 ∧ (GJ.x s.2.2.2.2.1).1 = (GJ.x g).1 ∧ (GJ.x s.2.2.2.2.1).2.1 = (GJ.x g).2.1 ∧ (GJ.x s.2.2.2.2.1).2.2 = (GJ.x g).2.2 ∧ s.2.2.2.2.2 = 1 ∧ s.2.1.1 = x.1 ∧ s.2.1.2.1 = x.2.1 ∧ s.2.1.2.2 = x.2.2 ∧ s.2.2.1 = 0 ∧ (goodS s.1 ∧ (0 ≤ s.2.2.2.1 ∧ s.2.2.2.1 < (↑(List.length s.1) : Int)) ∧ GJ.wf s.2.2.2.2.1 ∧ (0 ≤ s.2.2.1 ∧ s.2.2.1 ≤ 2000) ∧ 1 ≤ s.2.2.2.2.2 ∧ s.2.2.2.2.2 ≤ 21) ∧ (∀ (p : Pub), True ∧ schP S x p ∧ GJ.ok g p → schP s.1 s.2.1 p ∧ GJ.ok s.2.2.2.2.1 p) ∧ ∀ (b : VlB), vlPost s.2.2.1 b → (∃ (p : Pub), (True ∧ schP S x p ∧ GJ.ok g p) ∧ GV.ok b.2.2 p) → zcf0 b S x g)) := by kernel_rfl
def valueM_eq (S : List AT) (x : SV) (t : Int) (g : GJ) := Eq.trans (valueM_eqz S x t g) (by delta zcf2 zcf1 zcf0; exact rfl)
noncomputable section
variable (x0 : SV) (x1 : List AT) (x2 : Nat) (x3 : Nat) (x4 : Int × GV) (x5 : Prop) (x6 : Option Addr) (x7 : Nat)
 abbrev zcg11 := x0.1 = x0.1 ∧ x0.2.1 = x0.2.1 ∧ x0.2.2 = x0.2.2 ∧ x5
 abbrev zcg6 := zcg11 x0 ((∀ (i0 : Pub), True ∧ schP x1 x0 i0 → True ∧ schP x1 x0 i0) ∧ x5)
 abbrev zcg13 := (↑x2 : Int) < (↑x0.2.1 : Int)
 abbrev zcg12 := (∀ (i0 : Pub), True ∧ schP x1 x0 i0 → cellsP i0 (Addr.add (adr x0.1 (Int.toNat (↑x2 : Int) * 10)) 8) [Value.slice x6 x3 x7])
 abbrev zcg10 := ((-9223372036854775808 : Int) ≤ (↑x2 : Int) + 1 ∧ (↑x2 : Int) + 1 ≤ 9223372036854775807)
 abbrev zcg9 := zcg10 x2 ∧ ∃ (i0 : Nat), (↑x3 : Int) = (↑x3 : Int) ∧ (↑i0 : Int) = (↑x2 : Int) + 1 ∧ zcg6 x0 x1 (True ∧ (100 : Nat) - i0 < 100 - x2 ∧ True)
 abbrev zcg7 := zcg10 x2 ∧ ∃ (i0 : Nat), (↑x3 : Int) = (↑x3 : Int) ∧ (↑i0 : Int) = (↑x2 : Int) + 1 ∧ zcg11 x0 ((∀ (i1 : Pub), (True ∧ schP x1 x0 i1) ∧ GV.ok x4.2 i1 → True ∧ schP x1 x0 i1) ∧ True ∧ (100 : Nat) - i0 < 100 - x2 ∧ True)
 abbrev zcg5 := ((!decide (x4.1 = 0)) = true → ∃ (i0 : Int × Int × Int), i0.1 = x4.1 ∧ i0.2.1 = (↑x2 : Int) ∧ i0.2.2 = (↑x3 : Int) ∧ True ∧ True) ∧ ((!decide (x4.1 = 0)) = false → zcg7 x0 x1 x3 x2 x4)
 abbrev zcg4 := (0 ≤ (↑x2 : Int) ∧ zcg13 x0 x2) ∧ x0.1 ≠ noA ∧ ∃ (i0 : Option Addr), ∃ (i1 : Nat), ∃ (i2 : Nat), zcg12 x0 x1 x2 i1 i0 i2 ∧ (0 ≤ (↑x3 : Int) ∧ (↑x3 : Int) < (↑i1 : Int)) ∧ i0 ≠ noA ∧ ∃ (i4 : ByteArray), ∃ (i5 : Option Addr), ∃ (i6 : Nat), ∃ (i7 : Nat), ∃ (i8 : Int), ∃ (i9 : Bool), ∃ (i10 : Int), ∃ (i11 : Int), ∃ (i12 : ByteArray), ∃ (i13 : Option Addr), ∃ (i14 : Nat), ∃ (i15 : Nat), ∃ (i16 : Option Addr), ∃ (i17 : Nat), ∃ (i18 : Nat), (∀ (i19 : Pub), True ∧ schP x1 x0 i19 → cellsP i19 (adr i0 (Int.toNat (↑x3 : Int) * 9)) [Value.string i4, Value.slice i5 i6 i7, Value.int IntKind.i64 i8, Value.bool i9, Value.int IntKind.i64 i10, Value.int IntKind.i64 i11, Value.string i12, Value.slice i13 i14 i15, Value.slice i16 i17 i18]) ∧ ((!i9) = true → zcg9 x0 x1 x3 x2) ∧ ((!i9) = false → ∃ (i22 : List AT × (Option Addr × Nat × Nat) × Int × GJ), i22.2.1.1 = x0.1 ∧ i22.2.1.2.1 = x0.2.1 ∧ i22.2.1.2.2 = x0.2.2 ∧ i22.2.2.1 = i8 ∧ GJ.k i22.2.2.2 = i10 ∧ GJ.n i22.2.2.2 = i11 ∧ GJ.s i22.2.2.2 = i12 ∧ (GJ.y i22.2.2.2).1 = i13 ∧ (GJ.y i22.2.2.2).2.1 = i14 ∧ (GJ.y i22.2.2.2).2.2 = i15 ∧ (GJ.x i22.2.2.2).1 = i16 ∧ (GJ.x i22.2.2.2).2.1 = i17 ∧ (GJ.x i22.2.2.2).2.2 = i18 ∧ (goodS i22.1 ∧ GJ.wf i22.2.2.2) ∧ (∀ (i23 : Pub), True ∧ schP x1 x0 i23 → schP i22.1 i22.2.1 i23 ∧ GJ.ok i22.2.2.2 i23) ∧ ∀ (i24 : Int × GV), True → (∃ (i25 : Pub), (True ∧ schP x1 x0 i25) ∧ GV.ok i24.2 i25) → zcg5 x0 x1 x2 x3 i24)
 abbrev zcg8 := zcg10 x2 ∧ ∃ (i0 : Nat), (↑i0 : Int) = (↑x2 : Int) + 1 ∧ zcg6 x0 x1 (i0 ≤ List.length x1 ∧ List.length x1 - i0 < List.length x1 - x2 ∧ True)
 abbrev zcg3 := (0 ≤ (↑x2 : Int) ∧ zcg13 x0 x2) ∧ x0.1 ≠ noA ∧ ∃ (i0 : Option Addr), ∃ (i1 : Nat), ∃ (i2 : Nat), zcg12 x0 x1 x2 i1 i0 i2 ∧ (decide ((↑x3 : Int) < (↑i1 : Int)) = true → zcg4 x0 x1 x2 x3) ∧ (decide ((↑x3 : Int) < (↑i1 : Int)) = false → zcg8 x0 x1 x2)
 abbrev zcg2 := (∃ (i0 : Nat), (↑x2 : Int) = (↑x2 : Int) ∧ (↑i0 : Int) = 0 ∧ zcg6 x0 x1 (True ∧ True)) ∧ ∀ (i2 : Nat), True → zcg3 x0 x1 x2 i2
 abbrev zcg1 := (decide (zcg13 x0 x2) = true → zcg2 x0 x1 x2) ∧ (decide (zcg13 x0 x2) = false → ∃ (i38 : Int × Int × Int), i38.1 = 0 ∧ i38.2.1 = 0 ∧ i38.2.2 = 0 ∧ True ∧ True)
 abbrev zcg0 := (∃ (i0 : Nat), (↑i0 : Int) = 0 ∧ zcg6 x0 x1 (i0 ≤ List.length x1 ∧ True)) ∧ ∀ (i2 : Nat), i2 ≤ List.length x1 → zcg1 x0 x1 i2
end
theorem checkM_eqz (S : List AT) (x : SV) : askR P (ctTab []) (rlTab [(47, cValueM)]) Try.f28 cCheckM (wCheckM) ⟨S, x⟩ = (goodS S → (∃ (p : Pub), True ∧ schP S x p) → zcg0 x S) := by kernel_rfl
def checkM_eq (S : List AT) (x : SV) := Eq.trans (checkM_eqz S x) (by delta zcg11 zcg6 zcg13 zcg12 zcg10 zcg9 zcg7 zcg5 zcg4 zcg8 zcg3 zcg2 zcg1 zcg0; exact rfl)
theorem recordT_eq (x : SV) (L : List Int) (n : Int) : askB P (ctTab []) (rlTab [(46, cRecordP)]) Try.f27 cRecordT (fun _ => {}) ⟨x, L, n⟩ = (rcPre (x, L, n) → (∃ (p : Pub), True ∧ slP byV x L p) → ∃ (s : ByteArray × TrS), s.1 = mkS [84, 111, 112] ∧ s.2.2.2.2.1 = 0 ∧ s.2.1.1 = x.1 ∧ s.2.1.2.1 = x.2.1 ∧ s.2.1.2.2 = x.2.2 ∧ s.2.2.2.1 = n ∧ rowsV txV s.2.2.2.2.2 = [Value.string (mkS [84, 111, 112])] ∧ List.length s.2.2.2.2.2 = nat_lit 1 ∧ (ByteArray.size s.1 < 100 ∧ trPre 3 s.2) ∧ (∀ (p : Pub), True ∧ slP byV x L p → slP byV s.2.1 s.2.2.1 p) ∧ ∀ (b : TrB), trPost s.2.2.1 s.2.2.2.1 s.2.2.2.2.2 b → (∃ (p : Pub), (True ∧ slP byV x L p) ∧ GJ.ok b.1 p) → ∃ (b_1 : GJ × Int), GJ.k b_1.1 = GJ.k b.1 ∧ GJ.n b_1.1 = GJ.n b.1 ∧ GJ.s b_1.1 = GJ.s b.1 ∧ (GJ.y b_1.1).1 = (GJ.y b.1).1 ∧ (GJ.y b_1.1).2.1 = (GJ.y b.1).2.1 ∧ (GJ.y b_1.1).2.2 = (GJ.y b.1).2.2 ∧ (GJ.x b_1.1).1 = (GJ.x b.1).1 ∧ (GJ.x b_1.1).2.1 = (GJ.x b.1).2.1 ∧ (GJ.x b_1.1).2.2 = (GJ.x b.1).2.2 ∧ x.1 = s.2.1.1 ∧ x.2.1 = s.2.1.2.1 ∧ x.2.2 = s.2.1.2.2 ∧ b_1.2 = b.2.1 ∧ (GJ.wf b_1.1 ∧ n ≤ b_1.2 ∧ b_1.2 ≤ (↑(List.length L) : Int)) ∧ (∀ (p : Pub), (True ∧ slP byV x L p) ∧ GJ.ok b.1 p → GJ.ok b_1.1 p) ∧ True) := by kernel_rfl
noncomputable section
variable (x0 : List AT × (Option Addr × Nat × Nat) × Int) (x1 : SV) (x2 : RcS) (x3 : GJ × Int) (x4 : Int) (x5 : List Int) (x6 : List AT × (Option Addr × Nat × Nat) × Bool × Int) (x7 : Prop)
 abbrev zci2 := x6.2.1.1 = x0.2.1.1 ∧ x6.2.1.2.1 = x0.2.1.2.1 ∧ x6.2.1.2.2 = x0.2.1.2.2 ∧ x7
 abbrev zci1 := x1.1 = x2.1.1 ∧ x1.2.1 = x2.1.2.1 ∧ x1.2.2 = x2.1.2.2 ∧ x6.2.2.2 = x3.2 ∧ (goodS x6.1 ∧ (x6.2.2.1 = true → x6.1 ≠ []) ∧ x4 ≤ x6.2.2.2 ∧ x6.2.2.2 ≤ (↑(List.length x5) : Int)) ∧ (∀ (i0 : Pub), ((True ∧ slP byV x1 x5 i0) ∧ GJ.ok x3.1 i0) ∧ schP x0.1 x0.2.1 i0 → schP x6.1 x6.2.1 i0) ∧ True
 abbrev zci0 := ((!decide (x0.2.2 = 0)) = true → ∃ (i0 : List AT × (Option Addr × Nat × Nat) × Bool × Int), zci2 x0 i0 (i0.2.2.1 = false ∧ zci1 x0 x1 x2 x3 x4 x5 i0)) ∧ ((!decide (x0.2.2 = 0)) = false → ∃ (i2 : List AT × Option Addr × Nat × Nat), i2.2.1 = x0.2.1.1 ∧ i2.2.2.1 = x0.2.1.2.1 ∧ i2.2.2.2 = x0.2.1.2.2 ∧ goodS i2.1 ∧ (∀ (i3 : Pub), ((True ∧ slP byV x1 x5 i3) ∧ GJ.ok x3.1 i3) ∧ schP x0.1 x0.2.1 i3 → schP i2.1 i2.2 i3) ∧ ∀ (i4 : Int × Int × Int), True → ∃ (i5 : List AT × (Option Addr × Nat × Nat) × Bool × Int), zci2 x0 i5 (i5.2.2.1 = decide (i4.1 = 0) ∧ zci1 x0 x1 x2 x3 x4 x5 i5))
end
theorem avro_eqz (x : SV) (L : List Int) (n : Int) : askR P (ctTab []) (rlTab [(27, cRecordT), (26, cFromM), (28, cCheckM)]) Try.f11 cAvro (fun _ => {}) ⟨x, L, n⟩ = (rcPre (x, L, n) → (∃ (p : Pub), True ∧ slP byV x L p) → ∃ (s : RcS), s.1.1 = x.1 ∧ s.1.2.1 = x.2.1 ∧ s.1.2.2 = x.2.2 ∧ s.2.2 = n ∧ rcPre s ∧ (∀ (p : Pub), True ∧ slP byV x L p → slP byV s.1 s.2.1 p) ∧ ∀ (b : GJ × Int), GJ.wf b.1 ∧ s.2.2 ≤ b.2 ∧ b.2 ≤ (↑(List.length s.2.1) : Int) → (∃ (p : Pub), (True ∧ slP byV x L p) ∧ GJ.ok b.1 p) → ∃ (s_1 : GJ), GJ.k s_1 = GJ.k b.1 ∧ GJ.n s_1 = GJ.n b.1 ∧ GJ.s s_1 = GJ.s b.1 ∧ (GJ.y s_1).1 = (GJ.y b.1).1 ∧ (GJ.y s_1).2.1 = (GJ.y b.1).2.1 ∧ (GJ.y s_1).2.2 = (GJ.y b.1).2.2 ∧ (GJ.x s_1).1 = (GJ.x b.1).1 ∧ (GJ.x s_1).2.1 = (GJ.x b.1).2.1 ∧ (GJ.x s_1).2.2 = (GJ.x b.1).2.2 ∧ GJ.wf s_1 ∧ (∀ (p : Pub), (True ∧ slP byV x L p) ∧ GJ.ok b.1 p → GJ.ok s_1 p) ∧ ∀ (b_1 : List AT × (Option Addr × Nat × Nat) × Int), goodS b_1.1 ∧ (b_1.2.2 = 0 → b_1.1 ≠ []) → (∃ (p : Pub), ((True ∧ slP byV x L p) ∧ GJ.ok b.1 p) ∧ schP b_1.1 b_1.2.1 p) → zci0 b_1 x s b n L) := by kernel_rfl
def avro_eq (x : SV) (L : List Int) (n : Int) := Eq.trans (avro_eqz x L n) (by delta zci2 zci1 zci0; exact rfl)
theorem valueM_ok : CtROK P 47 cValueM := by
  refine ask_okR mixed (ctTab_ok (forall_tab is11_ok nil_tab)) (rlTab_ok (forall_rel vl_fin nil_rel)) (W := fun _ => {}) Try.func47 (by kernel_rfl) (show 1 ≤ 1 by decide) (show 1 ≤ 1 by decide) (fun s => by kernel_rfl) fun ⟨S, (x : SV), (t : Int), g⟩ => (valueM_eq S x t g).mpr ?_
  rintro ⟨hS, hg⟩ ⟨p, _, hx, hgo⟩
  have sl : x.2.1 = S.length := hx.1.1
  simp only [decide_eq_true_eq, decide_eq_false_iff_not, Bool.not_eq_true', Bool.not_eq_false', true_and, and_true, eq_self, imp_self, implies_true, exists_const, forall_const, Int.toNat_natCast]
  refine ⟨⟨x, t⟩, rfl, rfl, rfl, rfl, fun h => ⟨⟨1, zV⟩, rfl, rfl, rfl, rfl, rfl, rfl, rfl, rfl, rfl, rfl, fun q hq => zV_ok q⟩, fun h => ?_⟩
  simp only [sl, Bool.and_eq_true, decide_eq_true_eq] at h
  refine ⟨⟨S, x, 0, t, g, 1⟩, rfl, rfl, rfl, rfl, rfl, rfl, rfl, rfl, rfl, rfl, rfl, rfl, rfl, rfl, rfl, ⟨hS, h, hg, ⟨(by show (0 : Int) ≤ 0; decide), (by show (0 : Int) ≤ 2000; decide)⟩, (by show (1 : Int) ≤ 1; decide), (by show (1 : Int) ≤ 21; decide)⟩, fun q hq => hq, ?_⟩
  rintro ⟨a, e, v⟩ _ _
  exact ⟨fun _ => ⟨⟨e, zV⟩, rfl, rfl, rfl, rfl, rfl, rfl, rfl, rfl, rfl, rfl, fun q hq => zV_ok q⟩, fun _ => ⟨⟨0, v⟩, rfl, rfl, rfl, rfl, rfl, rfl, rfl, rfl, rfl, rfl, fun q hq => hq.2⟩⟩
theorem checkM_ok : CtROK P 28 cCheckM := by
  refine ask_okR mixed (ctTab_ok nil_tab) (rlTab_ok (forall_rel valueM_ok nil_rel)) (W := wCheckM) Try.func28 (by kernel_rfl) (show 1 ≤ 1 by decide) (show 1 ≤ 1 by decide) (fun s => by kernel_rfl) fun ⟨S, (x : SV)⟩ => (checkM_eq S x).mpr ?_
  rintro hS ⟨p, _, hx⟩
  have sl : x.2.1 = S.length := hx.1.1
  have h60 := hS.1
  simp only [decide_eq_true_eq, decide_eq_false_iff_not, Bool.not_eq_true', Bool.not_eq_false', true_and, and_true, eq_self, imp_self, implies_true, exists_const, forall_const, Int.toNat_natCast, sl]
  refine ⟨⟨0, rfl, Nat.zero_le _⟩, ?_⟩
  rintro j hj
  refine ⟨fun hlt => ⟨⟨0, rfl⟩, fun k => ?_⟩, fun hge => ⟨⟨0, 0, 0⟩, rfl, rfl, rfl⟩⟩
  have hjl : j < S.length := by omega
  have hat := fun q (hq : schP S x q) => typ_at hq hjl
  have hao := fun q (hq : schP S x q) => hq.2 S[j] (List.getElem_mem hjl)
  have hgd := hS.2 S[j] (List.getElem_mem hjl)
  generalize S[j] = a at *
  obtain ⟨_, _, fl, _⟩ := AT_slots (hao p hx)
  have hf30 := hgd.2.2.2.2.2.2.2.1
  have c8 : ∀ q, schP S x q → cellsP q ((adr x.1 (j * 10)).add 8) [.slice a.f.1 a.fs.length a.f.2.2] := fun q hq i v hi => by
    cases i with
    | zero =>
      rw [← fl] at hi
      have := (hat q hq).2 8 v hi
      rw [Addr.add_add]; exact this
    | succ i => simp at hi
  refine ⟨⟨by omega, by omega⟩, (hat p hx).1, a.f.1, a.fs.length, a.f.2.2, c8, fun hk => ⟨⟨by omega, by omega⟩, (hat p hx).1, a.f.1, a.fs.length, a.f.2.2, c8, ⟨by omega, by omega⟩, ?_⟩, fun hk => ⟨⟨by omega, by omega⟩, j + 1, by omega, by omega, by omega⟩⟩
  have hkl : k < a.fs.length := by omega
  have hff := hgd.2.2.2.2.1 _ (List.getElem_mem hkl)
  have fok := fun q (hq : schP S x q) => (hao q hq).2.2.2.2 a.fs[k] (List.getElem_mem hkl)
  have fat := fun q (hq : schP S x q) => fld_at (hao q hq) hkl
  have hk100 : k < 100 := by omega
  generalize a.fs[k] = f at *
  refine ⟨(fat p hx).1, f.nm, f.al.1, f.al.2.1, f.al.2.2, f.ty, f.hd, f.df.k, f.df.n, f.df.s, f.df.y.1, f.df.y.2.1, f.df.y.2.2, f.df.x.1, f.df.x.2.1, f.df.x.2.2, fun q hq => (fat q hq).2, fun _ => ⟨⟨by omega, by omega⟩, k + 1, by omega, by omega⟩, fun _ => ⟨⟨S, x, f.ty, f.df⟩, rfl, sl, rfl, rfl, rfl, rfl, rfl, rfl, rfl, rfl, rfl, rfl, rfl, ⟨hS, hff.2⟩, fun q hq => ⟨hq, (fok q hq).2⟩, ?_⟩⟩
  rintro ⟨e, v⟩ _
  exact ⟨fun _ => ⟨⟨e, j, k⟩, rfl, rfl, rfl⟩, fun _ => ⟨⟨by omega, by omega⟩, k + 1, by omega, fun q hq => hq.1, by omega⟩⟩
theorem recordT_ok : CtROK P 27 cRecordT := by
  refine ask_okB mixed (ctTab_ok nil_tab) (rlTab_ok (forall_rel recP_fin nil_rel)) (W := fun _ => {}) Try.func27 (by kernel_rfl) (show 1 ≤ 2 by decide) (show 2 ≤ 2 by decide) (fun s => by kernel_rfl) fun ⟨(x : SV), L, (n : Int)⟩ => (recordT_eq x L n).mpr ?_
  rintro ⟨hn0, hn1, hL⟩ ⟨p, _, hx⟩
  simp only [decide_eq_true_eq, decide_eq_false_iff_not, Bool.not_eq_true', Bool.not_eq_false', true_and, and_true, eq_self, imp_self, implies_true, exists_const, forall_const, Int.toNat_natCast]
  refine ⟨⟨mkS [84, 111, 112], x, L, n, 0, [mkS [84, 111, 112]]⟩, rfl, rfl, rfl, rfl, rfl, rfl, rfl, rfl, ⟨(by show (3 : Nat) < 100; decide), ⟨hn0, hn1, hL, (by show (0 : Int) ≤ 0; decide), (by show (0 : Int) ≤ 3; decide), (by show ((1 : Nat) : Int) ≤ n + 1; omega), fun t ht => (by simp at ht; subst ht; show 3 < 100; decide)⟩⟩, fun q hq => hq, ?_⟩
  rintro ⟨g, n', N'⟩ ⟨hw, h1, h2, _⟩ _
  exact ⟨⟨g, n'⟩, rfl, rfl, rfl, rfl, rfl, rfl, rfl, rfl, rfl, rfl, rfl, rfl, rfl, ⟨hw, h1, h2⟩, fun q hq => hq.2⟩
theorem avro_ok : CtROK P 11 cAvro := by
  refine ask_okR mixed (ctTab_ok nil_tab) (rlTab_ok (forall_rel recordT_ok (forall_rel fromM_ok (forall_rel checkM_ok nil_rel)))) (W := fun _ => {}) Try.func11 (by kernel_rfl) (show 1 ≤ 2 by decide) (show 2 ≤ 2 by decide) (fun s => by kernel_rfl) fun ⟨(x : SV), L, (n : Int)⟩ => (avro_eq x L n).mpr ?_
  rintro ⟨hn0, hn1, hL⟩ ⟨p, _, hx⟩
  simp only [decide_eq_true_eq, decide_eq_false_iff_not, Bool.not_eq_true', Bool.not_eq_false', true_and, and_true, eq_self, imp_self, implies_true, exists_const, forall_const, Int.toNat_natCast]
  refine ⟨⟨x, L, n⟩, rfl, rfl, rfl, rfl, ⟨hn0, hn1, hL⟩, fun q hq => hq, ?_⟩
  rintro ⟨g, n'⟩ ⟨hw, h1, h2⟩ _
  refine ⟨g, rfl, rfl, rfl, rfl, rfl, rfl, rfl, rfl, rfl, hw, fun q hq => hq.2, ?_⟩
  rintro ⟨S, y, e⟩ ⟨hS, hne⟩ _
  simp only at hS hne ⊢
  refine ⟨fun he => ⟨⟨S, y, false, n'⟩, rfl, rfl, rfl, rfl, trivial, trivial, trivial, rfl, ⟨hS, fun h => (by cases h), h1, h2⟩, fun q hq => hq.2⟩, fun he => ⟨⟨S, y⟩, rfl, rfl, rfl, hS, fun q hq => hq.2, ?_⟩⟩
  rintro ⟨e2, t, i⟩
  exact ⟨⟨S, y, decide (e2 = 0), n'⟩, rfl, rfl, rfl, rfl, trivial, trivial, trivial, rfl, ⟨hS, fun _ => hne he, h1, h2⟩, fun q hq => hq.2⟩
/-! How great values are. -/
mutual
def PV.cn : PV → Int
  | .mk n s l ks b => 1 + ks.length + PV.cns l
def PV.cns : List PV → Int
  | [] => 0
  | v :: l => PV.cn v + PV.cns l
end
mutual
def PV.nu : PV → Int
  | .mk n s l ks b => 1 + PV.nus l
def PV.nus : List PV → Int
  | [] => 0
  | v :: l => PV.nu v + PV.nus l
end
mutual
def PV.dp : PV → Int
  | .mk n s l ks b => if 0 < (l.length : Int) + ks.length then PV.dps l + 1 else 0
def PV.dps : List PV → Int
  | [] => 0
  | v :: l => if PV.dps l < PV.dp v then PV.dp v else PV.dps l
end
def PV.dq (l : List PV) : Int := if l.length = 0 then 0 else PV.dps l + 1
mutual
theorem PV.cn_nu : ∀ v : PV, 1 ≤ PV.nu v ∧ PV.nu v ≤ PV.cn v ∧ 0 ≤ PV.dp v ∧ PV.dp v ≤ PV.cn v
  | .mk n s l ks b => by
    have h := PV.cns_nus l
    rw [PV.nu, PV.cn, PV.dp]
    refine ⟨by omega, by omega, by split <;> omega, by split <;> omega⟩
theorem PV.cns_nus : ∀ l : List PV, 0 ≤ PV.nus l ∧ PV.nus l ≤ PV.cns l ∧ 0 ≤ PV.dps l ∧ PV.dps l ≤ PV.cns l
  | [] => by rw [PV.nus, PV.cns, PV.dps]; omega
  | v :: l => by
    have h := PV.cn_nu v
    have g := PV.cns_nus l
    rw [PV.nus, PV.cns, PV.dps]
    refine ⟨by omega, by omega, by split <;> omega, by split <;> omega⟩
end
theorem PV.cns_app : ∀ (l m : List PV), PV.cns (l ++ m) = PV.cns l + PV.cns m
  | [], m => by rw [PV.cns]; simp
  | v :: l, m => by rw [List.cons_append, PV.cns, PV.cns, PV.cns_app l m]; omega
theorem PV.nus_app : ∀ (l m : List PV), PV.nus (l ++ m) = PV.nus l + PV.nus m
  | [], m => by rw [PV.nus]; simp
  | v :: l, m => by rw [List.cons_append, PV.nus, PV.nus, PV.nus_app l m]; omega
theorem PV.dps_app : ∀ (l m : List PV), PV.dps (l ++ m) = if PV.dps l < PV.dps m then PV.dps m else PV.dps l
  | [], m => by
    have := PV.cns_nus m
    rw [List.nil_append, show PV.dps [] = 0 by rw [PV.dps]]; split <;> omega
  | v :: l, m => by
    rw [List.cons_append, PV.dps, PV.dps, PV.dps_app l m]
    (repeat' split) <;> omega
theorem PV.cns_take {l : List PV} {j : Nat} (h : j < l.length) : PV.cns (l.take (j + 1)) = PV.cns (l.take j) + PV.cn l[j] := by
  rw [List.take_succ_eq_append_getElem h, PV.cns_app, PV.cns, PV.cns]; omega
theorem PV.nus_take {l : List PV} {j : Nat} (h : j < l.length) : PV.nus (l.take (j + 1)) = PV.nus (l.take j) + PV.nu l[j] := by
  rw [List.take_succ_eq_append_getElem h, PV.nus_app, PV.nus, PV.nus]; omega
theorem PV.dps_take {l : List PV} {j : Nat} (h : j < l.length) : PV.dps (l.take (j + 1)) = if PV.dps (l.take j) < PV.dp l[j] then PV.dp l[j] else PV.dps (l.take j) := by
  have := PV.cn_nu l[j]
  have e : PV.dps [l[j]] = PV.dp l[j] := by rw [PV.dps, show PV.dps [] = 0 by rw [PV.dps]]; split <;> omega
  rw [List.take_succ_eq_append_getElem h, PV.dps_app, e]
theorem PV.cns_le {l : List PV} {j : Nat} : PV.cns (l.take j) ≤ PV.cns l := by
  have h := PV.cns_app (l.take j) (l.drop j)
  rw [List.take_append_drop] at h
  have := PV.cns_nus (l.drop j)
  omega
theorem PV.cn_le {l : List PV} {j : Nat} (h : j < l.length) : PV.cns (l.take j) + PV.cn l[j] ≤ PV.cns l := by
  have := PV.cns_le (l := l) (j := j + 1)
  rw [PV.cns_take h] at this; exact this
theorem PV.dq_take {l : List PV} {j : Nat} (h : j < l.length) : PV.dq (l.take (j + 1)) = if PV.dq (l.take j) < PV.dp l[j] + 1 then PV.dp l[j] + 1 else PV.dq (l.take j) := by
  have h0 := (PV.cn_nu l[j]).2.2.1
  have h1 : j = 0 → PV.dps (l.take j) = 0 := fun e => by rw [e, List.take_zero, PV.dps]
  have ht := PV.dps_take h
  have e1 : (l.take j).length = j := by rw [List.length_take]; omega
  have e2 : (l.take (j + 1)).length = j + 1 := by rw [List.length_take]; omega
  simp only [PV.dq, e1, e2]
  rw [if_neg (by omega), ht]
  generalize PV.dps (l.take j) = a at *
  generalize PV.dp l[j] = b at *
  by_cases hj : j = 0
  · have := h1 hj
    rw [if_pos hj]; (repeat' split) <;> omega
  · rw [if_neg hj]; (repeat' split) <;> omega
/-! Contracts. -/
def vLt (v : GV) : Prop := v.pv.sm ∧ PV.cn v.pv ≤ 2000000
def muV : GV → Nat := fun v => SizeOf.sizeOf v
def cCnt : Ct := ctP GV (fun v => [v.av]) (fun v => vLt v) (fun v => vM v) fun v => .sv (.int .i64 (PV.cn v.pv))
def wCnt : GV → WayF := fun v => {
  ann := fun _ _ _ => some { σ := Nat, pre := fun j => j ≤ v.l.length, t := fun j => [(4, .sv (.int .i64 (j : Int))), (3, .sv (.int .i64 (1 + (v.ks.length : Int) + PV.cns ((GV.pvs v.l).take j))))], h := fun _ => [], more := 0, μ := fun j => v.l.length - j, keep := [0, 1] } }
def cSzA : Ct := ctP GV (fun v => [v.av]) (fun v => vLt v) (fun v => vM v) fun v => .tup [.sv (.int .i64 (PV.dp v.pv)), .sv (.int .i64 (PV.nu v.pv))]
def wSzA : GV → WayF := fun v => {
  ann := fun _ _ _ => some { σ := Nat, pre := fun j => j ≤ v.l.length, t := fun j => [(11, .sv (.int .i64 (j : Int))), (2, .sv (.int .i64 (PV.dps ((GV.pvs v.l).take j)))), (3, .sv (.int .i64 (1 + PV.nus ((GV.pvs v.l).take j))))], h := fun _ => [], more := 0, μ := fun j => v.l.length - j, keep := [0, 1, 9, 10] } }
def cSzR : Ct := ctP GV (fun v => [v.av]) (fun v => vLt v) (fun v => vM v) fun v => .tup [.sv (.int .i64 (PV.dp v.pv)), .sv (.int .i64 (PV.nu v.pv))]
def wSzR : GV → WayF := fun v => {
  ann := fun _ _ _ => some { σ := Nat, pre := fun j => j ≤ v.l.length, t := fun j => [(6, .sv (.int .i64 (j : Int))), (4, .sv (.int .i64 (PV.dq ((GV.pvs v.l).take j)))), (5, .sv (.int .i64 (1 + PV.nus ((GV.pvs v.l).take j))))], h := fun _ => [], more := 0, μ := fun j => v.l.length - j, keep := [0, 1] } }
def cSmR : Ct := ctP (GV × GV) (fun ⟨v, w⟩ => [v.av, w.av]) (fun ⟨v, w⟩ => v.pv.sm ∧ w.pv.sm) (fun ⟨v, w⟩ => vwM v w) fun ⟨v, w⟩ => .sv (.bool (PV.same v.pv w.pv))
def wSmR : GV × GV → WayF := fun ⟨v, w⟩ => {
  ann := fun id _ _ => match id with
    | 0 => some { σ := Nat, pre := fun j => j ≤ v.ks.length ∧ v.n = w.n ∧ v.s = w.s ∧ v.b = w.b ∧ v.l.length = w.l.length ∧ v.ks.length = w.ks.length ∧ v.ks.take j = w.ks.take j, t := fun j => [(5, .sv (.int .i64 (j : Int)))], h := fun _ => [], more := 0, μ := fun j => v.ks.length - j, keep := [0, 1, 2, 3] }
    | _ => some { σ := Nat, pre := fun j => j ≤ v.l.length ∧ v.n = w.n ∧ v.s = w.s ∧ v.b = w.b ∧ v.l.length = w.l.length ∧ v.ks = w.ks ∧ PV.sames ((GV.pvs v.l).drop j) ((GV.pvs w.l).drop j) = PV.sames (GV.pvs v.l) (GV.pvs w.l), t := fun j => [(6, .sv (.int .i64 (j : Int)))], h := fun _ => [], more := 0, μ := fun j => v.l.length - j, keep := [0, 1, 2, 3] } }
noncomputable section
variable (x0 : GV) (x1 : Nat) (x2 : Nat) (x3 : Prop)
 abbrev zcj3 := GV.n x0 = GV.n x0 ∧ GV.s x0 = GV.s x0 ∧ (GV.x x0).1 = (GV.x x0).1 ∧ (GV.x x0).2.1 = (GV.x x0).2.1 ∧ (GV.x x0).2.2 = (GV.x x0).2.2 ∧ (GV.y x0).1 = (GV.y x0).1 ∧ (GV.y x0).2.1 = (GV.y x0).2.1 ∧ (GV.y x0).2.2 = (GV.y x0).2.2 ∧ GV.b x0 = GV.b x0 ∧ x3
 abbrev zcj4 := (↑(List.length (GV.ks x0)) : Int)
 abbrev zcj6 := List.take x1 (GV.pvs (GV.l x0))
 abbrev zcj5 := (∀ (i0 : Pub), True ∧ GV.ok x0 i0 → True ∧ GV.ok x0 i0) ∧ x1 ≤ List.length (GV.l x0) ∧ x3
 abbrev zcj7 := (↑x1 : Int) < (↑(GV.x x0).2.1 : Int)
 abbrev zcj2 := (0 ≤ (↑x1 : Int) ∧ zcj7 x0 x1) ∧ (GV.x x0).1 ≠ noA ∧ ∃ (i0 : Int), ∃ (i1 : ByteArray), ∃ (i2 : Option Addr), ∃ (i3 : Nat), ∃ (i4 : Nat), ∃ (i5 : Option Addr), ∃ (i6 : Nat), ∃ (i7 : Nat), ∃ (i8 : Int), (∀ (i9 : Pub), True ∧ GV.ok x0 i9 → cellsP i9 (adr (GV.x x0).1 (Int.toNat (↑x1 : Int) * 5)) [Value.int IntKind.u64 i0, Value.string i1, Value.slice i2 i3 i4, Value.slice i5 i6 i7, Value.int IntKind.i64 i8]) ∧ ∃ (i10 : GV), GV.n i10 = i0 ∧ GV.s i10 = i1 ∧ (GV.x i10).1 = i2 ∧ (GV.x i10).2.1 = i3 ∧ (GV.x i10).2.2 = i4 ∧ (GV.y i10).1 = i5 ∧ (GV.y i10).2.1 = i6 ∧ (GV.y i10).2.2 = i7 ∧ GV.b i10 = i8 ∧ (muV i10 < x2 ∧ vLt i10) ∧ (∀ (i11 : Pub), True ∧ GV.ok x0 i11 → GV.ok i10 i11) ∧ ((-9223372036854775808 : Int) ≤ 1 + (zcj4 x0) + PV.cns (zcj6 x0 x1) + PV.cn (GV.pv i10) ∧ (1 : Int) + (zcj4 x0) + PV.cns (zcj6 x0 x1) + PV.cn (GV.pv i10) ≤ 9223372036854775807) ∧ ((-9223372036854775808 : Int) ≤ (↑x1 : Int) + 1 ∧ (↑x1 : Int) + 1 ≤ 9223372036854775807) ∧ ∃ (i12 : Nat), zcj3 x0 ((1 : Int) + (zcj4 x0) + PV.cns (zcj6 x0 i12) = 1 + (zcj4 x0) + PV.cns (zcj6 x0 x1) + PV.cn (GV.pv i10) ∧ (↑i12 : Int) = (↑x1 : Int) + 1 ∧ zcj3 x0 (zcj5 x0 i12 (List.length (GV.l x0) - i12 < List.length (GV.l x0) - x1 ∧ True)))
 abbrev zcj1 := (decide (zcj7 x0 x1) = true → zcj2 x0 x1 x2) ∧ (decide (zcj7 x0 x1) = false → PV.cn (GV.pv x0) = 1 + (zcj4 x0) + PV.cns (zcj6 x0 x1) ∧ True)
 abbrev zcj0 := ((-9223372036854775808 : Int) ≤ 1 + (↑(GV.y x0).2.1 : Int) ∧ (1 : Int) + (↑(GV.y x0).2.1 : Int) ≤ 9223372036854775807) ∧ (∃ (i0 : Nat), zcj3 x0 ((1 : Int) + (zcj4 x0) + PV.cns (zcj6 x0 i0) = 1 + (↑(GV.y x0).2.1 : Int) ∧ (↑i0 : Int) = 0 ∧ zcj3 x0 (zcj5 x0 i0 True))) ∧ ∀ (i2 : Nat), i2 ≤ List.length (GV.l x0) → zcj1 x0 i2 x1
end
theorem cnt_eqz (n : Nat) (v : GV) : askF P (ctTab [(25, cCnt.below muV n)]) Try.f25 (cCnt.below muV (n + 1)) (wCnt) v = (muV v < n + 1 ∧ vLt v → (∃ (p : Pub), True ∧ GV.ok v p) → zcj0 v n) := by kernel_rfl
def cnt_eq (n : Nat) (v : GV) := Eq.trans (cnt_eqz n v) (by delta zcj3 zcj4 zcj6 zcj5 zcj7 zcj2 zcj1 zcj0; exact rfl)
noncomputable section
variable (x0 : GV) (x1 : Nat) (x2 : Nat) (x3 : Prop)
 abbrev zck5 := (GV.x x0).1 = (GV.x x0).1 ∧ (GV.x x0).2.1 = (GV.x x0).2.1 ∧ (GV.x x0).2.2 = (GV.x x0).2.2 ∧ x3
 abbrev zck3 := GV.n x0 = GV.n x0 ∧ GV.s x0 = GV.s x0 ∧ zck5 x0 ((GV.y x0).1 = (GV.y x0).1 ∧ (GV.y x0).2.1 = (GV.y x0).2.1 ∧ (GV.y x0).2.2 = (GV.y x0).2.2 ∧ GV.b x0 = GV.b x0 ∧ x3)
 abbrev zck8 := List.take x1 (GV.pvs (GV.l x0))
 abbrev zck7 := (↑(GV.x x0).2.1 : Int)
 abbrev zck11 := (∀ (i0 : Pub), True ∧ GV.ok x0 i0 → True ∧ GV.ok x0 i0) ∧ x1 ≤ List.length (GV.l x0) ∧ x3
 abbrev zck2 := (0 ≤ (↑x1 : Int) ∧ (↑x1 : Int) < (zck7 x0)) ∧ (GV.x x0).1 ≠ noA ∧ ∃ (i0 : Int), ∃ (i1 : ByteArray), ∃ (i2 : Option Addr), ∃ (i3 : Nat), ∃ (i4 : Nat), ∃ (i5 : Option Addr), ∃ (i6 : Nat), ∃ (i7 : Nat), ∃ (i8 : Int), (∀ (i9 : Pub), True ∧ GV.ok x0 i9 → cellsP i9 (adr (GV.x x0).1 (Int.toNat (↑x1 : Int) * 5)) [Value.int IntKind.u64 i0, Value.string i1, Value.slice i2 i3 i4, Value.slice i5 i6 i7, Value.int IntKind.i64 i8]) ∧ ∃ (i10 : GV), GV.n i10 = i0 ∧ GV.s i10 = i1 ∧ (GV.x i10).1 = i2 ∧ (GV.x i10).2.1 = i3 ∧ (GV.x i10).2.2 = i4 ∧ (GV.y i10).1 = i5 ∧ (GV.y i10).2.1 = i6 ∧ (GV.y i10).2.2 = i7 ∧ GV.b i10 = i8 ∧ (muV i10 < x2 ∧ vLt i10) ∧ (∀ (i11 : Pub), True ∧ GV.ok x0 i11 → GV.ok i10 i11) ∧ ((-9223372036854775808 : Int) ≤ 1 + PV.nus (zck8 x0 x1) + PV.nu (GV.pv i10) ∧ (1 : Int) + PV.nus (zck8 x0 x1) + PV.nu (GV.pv i10) ≤ 9223372036854775807) ∧ ((-9223372036854775808 : Int) ≤ (↑x1 : Int) + 1 ∧ (↑x1 : Int) + 1 ≤ 9223372036854775807) ∧ ∃ (i12 : Nat), zck3 x0 ((1 : Int) + PV.nus (zck8 x0 i12) = 1 + PV.nus (zck8 x0 x1) + PV.nu (GV.pv i10) ∧ (↑i12 : Int) = (↑x1 : Int) + 1 ∧ zck5 x0 ((PV.dps (zck8 x0 i12) = if PV.dp (GV.pv i10) > PV.dps (zck8 x0 x1) then PV.dp (GV.pv i10) else PV.dps (zck8 x0 x1)) ∧ (zck7 x0) = (zck7 x0) ∧ zck3 x0 (zck11 x0 i12 (List.length (GV.l x0) - i12 < List.length (GV.l x0) - x1 ∧ True))))
 abbrev zck9 := (↑(GV.y x0).2.1 : Int)
 abbrev zck6 := ((-9223372036854775808 : Int) ≤ PV.dps (zck8 x0 x1) + 1 ∧ PV.dps (zck8 x0 x1) + 1 ≤ 9223372036854775807) ∧ PV.dp (GV.pv x0) = PV.dps (zck8 x0 x1) + 1 ∧ PV.nu (GV.pv x0) = 1 + PV.nus (zck8 x0 x1) ∧ True
 abbrev zck10 := PV.dp (GV.pv x0) = PV.dps (zck8 x0 x1) ∧ PV.nu (GV.pv x0) = 1 + PV.nus (zck8 x0 x1) ∧ True
 abbrev zck4 := ((-9223372036854775808 : Int) ≤ (zck7 x0) + (zck9 x0) ∧ (zck7 x0) + (zck9 x0) ≤ 9223372036854775807) ∧ (decide (0 < (zck7 x0) + (zck9 x0)) = true → zck6 x0 x1) ∧ (decide (0 < (zck7 x0) + (zck9 x0)) = false → zck10 x0 x1)
 abbrev zck1 := (decide ((↑x1 : Int) < (zck7 x0)) = true → zck2 x0 x1 x2) ∧ (decide ((↑x1 : Int) < (zck7 x0)) = false → zck4 x0 x1)
 abbrev zck0 := (∃ (i0 : Nat), zck3 x0 ((1 : Int) + PV.nus (zck8 x0 i0) = 1 ∧ (↑i0 : Int) = 0 ∧ zck5 x0 (PV.dps (zck8 x0 i0) = 0 ∧ (zck7 x0) = (zck7 x0) ∧ zck3 x0 (zck11 x0 i0 True)))) ∧ ∀ (i2 : Nat), i2 ≤ List.length (GV.l x0) → zck1 x0 i2 x1
end
theorem szA_eqz (n : Nat) (v : GV) : askF P (ctTab [(14, cSzA.below muV n)]) Try.f14 (cSzA.below muV (n + 1)) (wSzA) v = (muV v < n + 1 ∧ vLt v → (∃ (p : Pub), True ∧ GV.ok v p) → zck0 v n) := by kernel_rfl
def szA_eq (n : Nat) (v : GV) := Eq.trans (szA_eqz n v) (by delta zck5 zck3 zck8 zck7 zck11 zck2 zck9 zck6 zck10 zck4 zck1 zck0; exact rfl)
noncomputable section
variable (x0 : GV) (x1 : Nat) (x2 : Nat) (x3 : Prop)
 abbrev zcl3 := GV.n x0 = GV.n x0 ∧ GV.s x0 = GV.s x0 ∧ (GV.x x0).1 = (GV.x x0).1 ∧ (GV.x x0).2.1 = (GV.x x0).2.1 ∧ (GV.x x0).2.2 = (GV.x x0).2.2 ∧ (GV.y x0).1 = (GV.y x0).1 ∧ (GV.y x0).2.1 = (GV.y x0).2.1 ∧ (GV.y x0).2.2 = (GV.y x0).2.2 ∧ GV.b x0 = GV.b x0 ∧ x3
 abbrev zcl7 := List.take x1 (GV.pvs (GV.l x0))
 abbrev zcl8 := (∀ (i0 : Pub), True ∧ GV.ok x0 i0 → True ∧ GV.ok x0 i0) ∧ x1 ≤ List.length (GV.l x0) ∧ x3
 abbrev zcl10 := (↑x1 : Int) < (↑(GV.x x0).2.1 : Int)
 abbrev zcl2 := (0 ≤ (↑x1 : Int) ∧ zcl10 x0 x1) ∧ (GV.x x0).1 ≠ noA ∧ ∃ (i0 : Int), ∃ (i1 : ByteArray), ∃ (i2 : Option Addr), ∃ (i3 : Nat), ∃ (i4 : Nat), ∃ (i5 : Option Addr), ∃ (i6 : Nat), ∃ (i7 : Nat), ∃ (i8 : Int), (∀ (i9 : Pub), True ∧ GV.ok x0 i9 → cellsP i9 (adr (GV.x x0).1 (Int.toNat (↑x1 : Int) * 5)) [Value.int IntKind.u64 i0, Value.string i1, Value.slice i2 i3 i4, Value.slice i5 i6 i7, Value.int IntKind.i64 i8]) ∧ ∃ (i10 : GV), GV.n i10 = i0 ∧ GV.s i10 = i1 ∧ (GV.x i10).1 = i2 ∧ (GV.x i10).2.1 = i3 ∧ (GV.x i10).2.2 = i4 ∧ (GV.y i10).1 = i5 ∧ (GV.y i10).2.1 = i6 ∧ (GV.y i10).2.2 = i7 ∧ GV.b i10 = i8 ∧ (muV i10 < x2 ∧ vLt i10) ∧ (∀ (i11 : Pub), True ∧ GV.ok x0 i11 → GV.ok i10 i11) ∧ ((-9223372036854775808 : Int) ≤ PV.dp (GV.pv i10) + 1 ∧ PV.dp (GV.pv i10) + 1 ≤ 9223372036854775807) ∧ ((-9223372036854775808 : Int) ≤ 1 + PV.nus (zcl7 x0 x1) + PV.nu (GV.pv i10) ∧ (1 : Int) + PV.nus (zcl7 x0 x1) + PV.nu (GV.pv i10) ≤ 9223372036854775807) ∧ ((-9223372036854775808 : Int) ≤ (↑x1 : Int) + 1 ∧ (↑x1 : Int) + 1 ≤ 9223372036854775807) ∧ ∃ (i12 : Nat), zcl3 x0 ((1 : Int) + PV.nus (zcl7 x0 i12) = 1 + PV.nus (zcl7 x0 x1) + PV.nu (GV.pv i10) ∧ (PV.dq (zcl7 x0 i12) = if PV.dp (GV.pv i10) + 1 > PV.dq (zcl7 x0 x1) then PV.dp (GV.pv i10) + 1 else PV.dq (zcl7 x0 x1)) ∧ (↑i12 : Int) = (↑x1 : Int) + 1 ∧ zcl3 x0 (zcl8 x0 i12 (List.length (GV.l x0) - i12 < List.length (GV.l x0) - x1 ∧ True)))
 abbrev zcl9 := PV.dp (GV.pv x0) = 1 ∧ PV.nu (GV.pv x0) = 1 + PV.nus (zcl7 x0 x1) ∧ True
 abbrev zcl6 := PV.dp (GV.pv x0) = PV.dq (zcl7 x0 x1) ∧ PV.nu (GV.pv x0) = 1 + PV.nus (zcl7 x0 x1) ∧ True
 abbrev zcl5 := (decide (PV.dq (zcl7 x0 x1) = 0) = true → zcl9 x0 x1) ∧ (decide (PV.dq (zcl7 x0 x1) = 0) = false → zcl6 x0 x1)
 abbrev zcl4 := (decide (0 < (↑(GV.y x0).2.1 : Int)) = true → zcl5 x0 x1) ∧ (decide (0 < (↑(GV.y x0).2.1 : Int)) = false → zcl6 x0 x1)
 abbrev zcl1 := (decide (zcl10 x0 x1) = true → zcl2 x0 x1 x2) ∧ (decide (zcl10 x0 x1) = false → zcl4 x0 x1)
 abbrev zcl0 := (∃ (i0 : Nat), zcl3 x0 ((1 : Int) + PV.nus (zcl7 x0 i0) = 1 ∧ PV.dq (zcl7 x0 i0) = 0 ∧ (↑i0 : Int) = 0 ∧ zcl3 x0 (zcl8 x0 i0 True))) ∧ ∀ (i2 : Nat), i2 ≤ List.length (GV.l x0) → zcl1 x0 i2 x1
end
theorem szR_eqz (n : Nat) (v : GV) : askF P (ctTab [(15, cSzR.below muV n)]) Try.f15 (cSzR.below muV (n + 1)) (wSzR) v = (muV v < n + 1 ∧ vLt v → (∃ (p : Pub), True ∧ GV.ok v p) → zcl0 v n) := by kernel_rfl
def szR_eq (n : Nat) (v : GV) := Eq.trans (szR_eqz n v) (by delta zcl3 zcl7 zcl8 zcl10 zcl2 zcl9 zcl6 zcl5 zcl4 zcl1 zcl0; exact rfl)
noncomputable section
variable (x0 : GV) (x1 : GV) (x2 : Nat) (x3 : Nat) (x4 : Prop) (x5 : Nat → Option Obj)
 abbrev zcm20 := True ∧ GV.ok x0 x5 ∧ GV.ok x1 x5
 abbrev zcm16 := PV.same (GV.pv x0) (GV.pv x1) = false ∧ True
 abbrev zcm18 := (↑(GV.x x0).2.1 : Int)
 abbrev zcm19 := (↑(GV.y x0).2.1 : Int)
 abbrev zcm8 := GV.n x0 = GV.n x0 ∧ GV.s x0 = GV.s x0 ∧ (GV.x x0).1 = (GV.x x0).1 ∧ (GV.x x0).2.1 = (GV.x x0).2.1 ∧ (GV.x x0).2.2 = (GV.x x0).2.2 ∧ (GV.y x0).1 = (GV.y x0).1 ∧ (GV.y x0).2.1 = (GV.y x0).2.1 ∧ (GV.y x0).2.2 = (GV.y x0).2.2 ∧ GV.b x0 = GV.b x0 ∧ x4
 abbrev zcm17 := (∀ (i0 : Pub), zcm20 x0 x1 i0 → zcm20 x0 x1 i0)
 abbrev zcm22 := GV.n x0 = GV.n x1 ∧ GV.s x0 = GV.s x1 ∧ GV.b x0 = GV.b x1 ∧ List.length (GV.l x0) = List.length (GV.l x1) ∧ x4
 abbrev zcm15 := x2 ≤ List.length (GV.ks x0) ∧ zcm22 x0 x1 (List.length (GV.ks x0) = List.length (GV.ks x1) ∧ List.take x2 (GV.ks x0) = List.take x2 (GV.ks x1))
 abbrev zcm21 := ((-9223372036854775808 : Int) ≤ (↑x2 : Int) + 1 ∧ (↑x2 : Int) + 1 ≤ 9223372036854775807)
 abbrev zcm13 := zcm21 x2 ∧ ∃ (i0 : Nat), zcm8 x0 (zcm8 x1 ((↑i0 : Int) = (↑x2 : Int) + 1 ∧ zcm8 x0 (zcm8 x1 (zcm17 x0 x1 ∧ (zcm15 x0 x1 i0) ∧ List.length (GV.ks x0) - i0 < List.length (GV.ks x0) - x2 ∧ True))))
 abbrev zcm11 := (0 ≤ (↑x2 : Int) ∧ (↑x2 : Int) < (zcm19 x0)) ∧ (GV.y x0).1 ≠ noA ∧ ∃ (i0 : ByteArray), (∀ (i1 : Pub), zcm20 x0 x1 i1 → cellsP i1 (adr (GV.y x0).1 (Int.toNat (↑x2 : Int) * 1)) [Value.string i0]) ∧ (0 ≤ (↑x2 : Int) ∧ (↑x2 : Int) < (zcm19 x1)) ∧ (GV.y x1).1 ≠ noA ∧ ∃ (i2 : ByteArray), (∀ (i3 : Pub), zcm20 x0 x1 i3 → cellsP i3 (adr (GV.y x1).1 (Int.toNat (↑x2 : Int) * 1)) [Value.string i2]) ∧ ((!decide (i0 = i2)) = true → zcm16 x0 x1) ∧ ((!decide (i0 = i2)) = false → zcm13 x0 x1 x2)
 abbrev zcm14 := x2 ≤ List.length (GV.l x0) ∧ zcm22 x0 x1 (GV.ks x0 = GV.ks x1 ∧ PV.sames (List.drop x2 (GV.pvs (GV.l x0))) (List.drop x2 (GV.pvs (GV.l x1))) = PV.sames (GV.pvs (GV.l x0)) (GV.pvs (GV.l x1)))
 abbrev zcm12 := zcm21 x2 ∧ ∃ (i0 : Nat), zcm8 x0 (zcm8 x1 ((↑i0 : Int) = (↑x2 : Int) + 1 ∧ zcm8 x0 (zcm8 x1 (zcm17 x0 x1 ∧ (zcm14 x0 x1 i0) ∧ List.length (GV.l x0) - i0 < List.length (GV.l x0) - x2 ∧ True))))
 abbrev zcm10 := (0 ≤ (↑x2 : Int) ∧ (↑x2 : Int) < (zcm18 x0)) ∧ (GV.x x0).1 ≠ noA ∧ ∃ (i0 : Int), ∃ (i1 : ByteArray), ∃ (i2 : Option Addr), ∃ (i3 : Nat), ∃ (i4 : Nat), ∃ (i5 : Option Addr), ∃ (i6 : Nat), ∃ (i7 : Nat), ∃ (i8 : Int), (∀ (i9 : Pub), zcm20 x0 x1 i9 → cellsP i9 (adr (GV.x x0).1 (Int.toNat (↑x2 : Int) * 5)) [Value.int IntKind.u64 i0, Value.string i1, Value.slice i2 i3 i4, Value.slice i5 i6 i7, Value.int IntKind.i64 i8]) ∧ (0 ≤ (↑x2 : Int) ∧ (↑x2 : Int) < (zcm18 x1)) ∧ (GV.x x1).1 ≠ noA ∧ ∃ (i10 : Int), ∃ (i11 : ByteArray), ∃ (i12 : Option Addr), ∃ (i13 : Nat), ∃ (i14 : Nat), ∃ (i15 : Option Addr), ∃ (i16 : Nat), ∃ (i17 : Nat), ∃ (i18 : Int), (∀ (i19 : Pub), zcm20 x0 x1 i19 → cellsP i19 (adr (GV.x x1).1 (Int.toNat (↑x2 : Int) * 5)) [Value.int IntKind.u64 i10, Value.string i11, Value.slice i12 i13 i14, Value.slice i15 i16 i17, Value.int IntKind.i64 i18]) ∧ ∃ (i20 : GV × GV), GV.n i20.1 = i0 ∧ GV.s i20.1 = i1 ∧ (GV.x i20.1).1 = i2 ∧ (GV.x i20.1).2.1 = i3 ∧ (GV.x i20.1).2.2 = i4 ∧ (GV.y i20.1).1 = i5 ∧ (GV.y i20.1).2.1 = i6 ∧ (GV.y i20.1).2.2 = i7 ∧ GV.b i20.1 = i8 ∧ GV.n i20.2 = i10 ∧ GV.s i20.2 = i11 ∧ (GV.x i20.2).1 = i12 ∧ (GV.x i20.2).2.1 = i13 ∧ (GV.x i20.2).2.2 = i14 ∧ (GV.y i20.2).1 = i15 ∧ (GV.y i20.2).2.1 = i16 ∧ (GV.y i20.2).2.2 = i17 ∧ GV.b i20.2 = i18 ∧ (muSa i20 < x3 ∧ PV.sm (GV.pv i20.1) ∧ PV.sm (GV.pv i20.2)) ∧ (∀ (i21 : Pub), zcm20 x0 x1 i21 → GV.ok i20.1 i21 ∧ GV.ok i20.2 i21) ∧ ((!PV.same (GV.pv i20.1) (GV.pv i20.2)) = true → zcm16 x0 x1) ∧ ((!PV.same (GV.pv i20.1) (GV.pv i20.2)) = false → zcm12 x0 x1 x2)
 abbrev zcm9 := (decide ((↑x2 : Int) < (zcm18 x0)) = true → zcm10 x0 x1 x2 x3) ∧ (decide ((↑x2 : Int) < (zcm18 x0)) = false → PV.same (GV.pv x0) (GV.pv x1) = true ∧ True)
 abbrev zcm7 := (∃ (i0 : Nat), zcm8 x0 (zcm8 x1 ((↑i0 : Int) = 0 ∧ zcm8 x0 (zcm8 x1 (zcm17 x0 x1 ∧ (zcm14 x0 x1 i0) ∧ True))))) ∧ ∀ (i2 : Nat), zcm14 x0 x1 i2 → zcm9 x0 x1 i2 x2
 abbrev zcm6 := (decide ((↑x2 : Int) < (zcm19 x0)) = true → zcm11 x0 x1 x2) ∧ (decide ((↑x2 : Int) < (zcm19 x0)) = false → zcm7 x0 x1 x3)
 abbrev zcm5 := (∃ (i0 : Nat), zcm8 x0 (zcm8 x1 ((↑i0 : Int) = 0 ∧ zcm8 x0 (zcm8 x1 (zcm17 x0 x1 ∧ (zcm15 x0 x1 i0) ∧ True))))) ∧ ∀ (i2 : Nat), zcm15 x0 x1 i2 → zcm6 x0 x1 i2 x2
 abbrev zcm4 := ((!decide ((zcm19 x0) = (zcm19 x1))) = true → zcm16 x0 x1) ∧ ((!decide ((zcm19 x0) = (zcm19 x1))) = false → zcm5 x0 x1 x2)
 abbrev zcm3 := ((!decide ((zcm18 x0) = (zcm18 x1))) = true → zcm16 x0 x1) ∧ ((!decide ((zcm18 x0) = (zcm18 x1))) = false → zcm4 x0 x1 x2)
 abbrev zcm2 := ((!decide (GV.b x0 = GV.b x1)) = true → zcm16 x0 x1) ∧ ((!decide (GV.b x0 = GV.b x1)) = false → zcm3 x0 x1 x2)
 abbrev zcm1 := ((!decide (GV.s x0 = GV.s x1)) = true → zcm16 x0 x1) ∧ ((!decide (GV.s x0 = GV.s x1)) = false → zcm2 x0 x1 x2)
 abbrev zcm0 := ((!decide (GV.n x0 = GV.n x1)) = true → zcm16 x0 x1) ∧ ((!decide (GV.n x0 = GV.n x1)) = false → zcm1 x0 x1 x2)
end
theorem smR_eqz (n : Nat) (v w : GV) : askF P (ctTab [(17, cSmR.below muSa n)]) Try.f17 (cSmR.below muSa (n + 1)) (wSmR) ⟨v, w⟩ = (muSa (v, w) < n + 1 ∧ PV.sm (GV.pv v) ∧ PV.sm (GV.pv w) → (∃ (p : Pub), zcm20 v w p) → zcm0 v w n) := by kernel_rfl
def smR_eq (n : Nat) (v w : GV) := Eq.trans (smR_eqz n v w) (by delta zcm20 zcm16 zcm18 zcm19 zcm8 zcm17 zcm22 zcm15 zcm21 zcm13 zcm11 zcm14 zcm12 zcm10 zcm9 zcm7 zcm6 zcm5 zcm4 zcm3 zcm2 zcm1 zcm0; exact rfl)
theorem gv_at {v : GV} {j : Nat} (hj : j < v.l.length) {q : Pub} (h : v.ok q) : v.x.1 ≠ noA ∧ cellsP q (adr v.x.1 (j * 5)) (v.l[j]).cells := slP_at gv_len (by decide) (by rw [GV.ok_eq] at h; exact h.1) hj
theorem gv_kid {v : GV} {j : Nat} (hj : j < v.l.length) {q : Pub} (h : v.ok q) : (v.l[j]).ok q := GV.oks_at (by rw [GV.ok_eq] at h; exact h.2.2) hj
theorem gv_key {v : GV} {j : Nat} (hj : j < v.ks.length) {q : Pub} (h : v.ok q) : v.y.1 ≠ noA ∧ cellsP q (adr v.y.1 (j * 1)) [.string v.ks[j]] := slP_at tx_len (by decide) (by rw [GV.ok_eq] at h; exact h.2.1) hj
theorem gv_lens {v : GV} {q : Pub} (h : v.ok q) : v.x.2.1 = v.l.length ∧ v.y.2.1 = v.ks.length := by
  rw [GV.ok_eq] at h; exact ⟨h.1.1, h.2.1.1⟩
theorem pvs_lt {v : GV} {j : Nat} (hj : j < v.l.length) : j < (GV.pvs v.l).length := by rw [GV.pvs_len]; exact hj
theorem mu_kid {v : GV} {j : Nat} (hj : j < v.l.length) : muV v.l[j] < muV v := by
  have h1 := size_at hj
  have h2 : SizeOf.sizeOf v.l < SizeOf.sizeOf v := by cases v; simp [GV.l]; omega
  exact Nat.lt_trans h1 h2
theorem cn_v (v : GV) : PV.cn v.pv = 1 + v.ks.length + PV.cns (GV.pvs v.l) := by rw [GV.pv_eq, PV.cn]
theorem sm_kid {v : GV} (h : v.pv.sm) {j : Nat} (hj : j < v.l.length) : (v.l[j]).pv.sm := by
  rw [GV.sm_eq] at h
  have := PV.sms_at h.2.2.2.2.2 (pvs_lt hj)
  rw [pvs_at hj] at this; exact this
theorem lt_kid {v : GV} (h : vLt v) {j : Nat} (hj : j < v.l.length) : vLt v.l[j] := by
  refine ⟨sm_kid h.1 hj, ?_⟩
  have h1 := PV.cn_le (pvs_lt hj)
  rw [pvs_at hj] at h1
  have h2 := (PV.cns_nus ((GV.pvs v.l).take j)).2
  have h3 := h.2
  rw [cn_v] at h3
  omega
theorem cnt_ok (n : Nat) (hc : CtOK P 25 (cCnt.below muV n)) : CtOK P 25 (cCnt.below muV (n + 1)) := by
  refine ask_ok mixed (ctTab_ok (forall_tab hc nil_tab)) (W := wCnt) Try.func25 (by kernel_rfl) (show 1 ≤ 1 by decide) (show 1 ≤ 1 by decide) (fun s => by kernel_rfl) fun (v : GV) => (cnt_eq n v).mpr ?_
  rintro ⟨hmu, hv⟩ ⟨p, _, hp⟩
  obtain ⟨hxl, hyl⟩ := gv_lens hp
  have hl := hv.1
  rw [GV.sm_eq] at hl
  have hcn := hv.2
  rw [cn_v] at hcn
  have hcs := PV.cns_nus (GV.pvs v.l)
  simp only [decide_eq_true_eq, decide_eq_false_iff_not, Bool.not_eq_true', Bool.not_eq_false', true_and, and_true, eq_self, imp_self, implies_true, Int.toNat_natCast]
  refine ⟨by omega, ⟨0, ?_, rfl, Nat.zero_le _⟩, fun j hj => ⟨fun hlt => ?_, fun hge => ?_⟩⟩
  · rw [List.take_zero, PV.cns]; omega
  · have hjl : j < v.l.length := by omega
    have hk := PV.cn_le (pvs_lt hjl)
    have ht := PV.cns_take (pvs_lt hjl)
    rw [pvs_at hjl] at hk ht
    have h0 := PV.cns_nus ((GV.pvs v.l).take j)
    have h1 := PV.cn_nu (v.l[j]).pv
    refine ⟨by omega, (gv_at hjl hp).1, v.l[j].n, v.l[j].s, v.l[j].x.1, v.l[j].x.2.1, v.l[j].x.2.2, v.l[j].y.1, v.l[j].y.2.1, v.l[j].y.2.2, v.l[j].b, fun q hq => (gv_at hjl hq).2, v.l[j], ?_⟩
    simp only [true_and, eq_self]
    refine ⟨⟨?_, lt_kid hv hjl⟩, fun q hq => gv_kid hjl hq, by omega, by omega, j + 1, ?_, rfl, by omega, by omega⟩
    · have := mu_kid hjl; omega
    · rw [ht]; omega
  · obtain rfl : j = v.l.length := by omega
    rw [List.take_of_length_le (by rw [GV.pvs_len]; exact Nat.le_refl _), cn_v]
theorem cnt_all : ∀ n, CtOK P 25 (cCnt.below muV n)
  | 0 => Ct.below_zero (by decide) (by decide) (Sen.enters_of Try.func25 (by kernel_rfl)) fun s => ⟨rfl, rfl⟩
  | n + 1 => cnt_ok n (cnt_all n)
theorem cnt_fin : CtOK P 25 cCnt := Ct.of_below cnt_all
theorem szA_ok (n : Nat) (hc : CtOK P 14 (cSzA.below muV n)) : CtOK P 14 (cSzA.below muV (n + 1)) := by
  refine ask_ok mixed (ctTab_ok (forall_tab hc nil_tab)) (W := wSzA) Try.func14 (by kernel_rfl) (show 1 ≤ 1 by decide) (show 1 ≤ 1 by decide) (fun s => by kernel_rfl) fun (v : GV) => (szA_eq n v).mpr ?_
  rintro ⟨hmu, hv⟩ ⟨p, _, hp⟩
  obtain ⟨hxl, hyl⟩ := gv_lens hp
  have hl := hv.1
  rw [GV.sm_eq] at hl
  have hcn := hv.2
  rw [cn_v] at hcn
  have hcs := PV.cns_nus (GV.pvs v.l)
  have hnu : PV.nu v.pv = 1 + PV.nus (GV.pvs v.l) := by rw [GV.pv_eq, PV.nu]
  have hdp : PV.dp v.pv = if 0 < ((GV.pvs v.l).length : Int) + v.ks.length then PV.dps (GV.pvs v.l) + 1 else 0 := by rw [GV.pv_eq, PV.dp]
  rw [GV.pvs_len] at hdp
  simp only [decide_eq_true_eq, decide_eq_false_iff_not, Bool.not_eq_true', Bool.not_eq_false', true_and, and_true, eq_self, imp_self, implies_true, Int.toNat_natCast]
  refine ⟨⟨0, ?_, rfl, ?_, Nat.zero_le _⟩, fun j hj => ⟨fun hlt => ?_, fun hge => ?_⟩⟩
  · rw [List.take_zero, PV.nus]; omega
  · rw [List.take_zero, PV.dps]
  · have hjl : j < v.l.length := by omega
    have hk := PV.cn_le (pvs_lt hjl)
    have ht := PV.nus_take (pvs_lt hjl)
    have hd := PV.dps_take (pvs_lt hjl)
    rw [pvs_at hjl] at hk ht hd
    have h0 := PV.cns_nus ((GV.pvs v.l).take j)
    have h1 := PV.cn_nu (v.l[j]).pv
    refine ⟨by omega, (gv_at hjl hp).1, v.l[j].n, v.l[j].s, v.l[j].x.1, v.l[j].x.2.1, v.l[j].x.2.2, v.l[j].y.1, v.l[j].y.2.1, v.l[j].y.2.2, v.l[j].b, fun q hq => (gv_at hjl hq).2, v.l[j], ?_⟩
    simp only [true_and, eq_self]
    refine ⟨⟨?_, lt_kid hv hjl⟩, fun q hq => gv_kid hjl hq, by omega, by omega, j + 1, ?_, rfl, hd, by omega, by omega⟩
    · have := mu_kid hjl; omega
    · rw [ht]; omega
  · obtain rfl : j = v.l.length := by omega
    rw [List.take_of_length_le (by rw [GV.pvs_len]; exact Nat.le_refl _), hnu, hdp]
    refine ⟨by omega, fun h => ⟨by omega, ?_, rfl⟩, fun h => ⟨?_, rfl⟩⟩
    · rw [if_pos (by omega)]
    · rw [if_neg (by omega)]
      have h0 : GV.pvs v.l = [] := List.eq_nil_of_length_eq_zero (by rw [GV.pvs_len]; omega)
      rw [h0, PV.dps]
theorem szA_all : ∀ n, CtOK P 14 (cSzA.below muV n)
  | 0 => Ct.below_zero (by decide) (by decide) (Sen.enters_of Try.func14 (by kernel_rfl)) fun s => ⟨rfl, rfl⟩
  | n + 1 => szA_ok n (szA_all n)
theorem szA_fin : CtOK P 14 cSzA := Ct.of_below szA_all
theorem szR_ok (n : Nat) (hc : CtOK P 15 (cSzR.below muV n)) : CtOK P 15 (cSzR.below muV (n + 1)) := by
  refine ask_ok mixed (ctTab_ok (forall_tab hc nil_tab)) (W := wSzR) Try.func15 (by kernel_rfl) (show 1 ≤ 1 by decide) (show 1 ≤ 1 by decide) (fun s => by kernel_rfl) fun (v : GV) => (szR_eq n v).mpr ?_
  rintro ⟨hmu, hv⟩ ⟨p, _, hp⟩
  obtain ⟨hxl, hyl⟩ := gv_lens hp
  have hl := hv.1
  rw [GV.sm_eq] at hl
  have hcn := hv.2
  rw [cn_v] at hcn
  have hcs := PV.cns_nus (GV.pvs v.l)
  have hnu : PV.nu v.pv = 1 + PV.nus (GV.pvs v.l) := by rw [GV.pv_eq, PV.nu]
  have hdp : PV.dp v.pv = if 0 < ((GV.pvs v.l).length : Int) + v.ks.length then PV.dps (GV.pvs v.l) + 1 else 0 := by rw [GV.pv_eq, PV.dp]
  have hdq : PV.dq (GV.pvs v.l) = if v.l.length = 0 then 0 else PV.dps (GV.pvs v.l) + 1 := by rw [PV.dq, GV.pvs_len]
  have hd0 : v.l.length = 0 → PV.dps (GV.pvs v.l) = 0 := fun h => by
    rw [List.eq_nil_of_length_eq_zero (show (GV.pvs v.l).length = 0 by rw [GV.pvs_len]; exact h), PV.dps]
  rw [GV.pvs_len] at hdp
  simp only [decide_eq_true_eq, decide_eq_false_iff_not, Bool.not_eq_true', Bool.not_eq_false', true_and, and_true, eq_self, imp_self, implies_true, Int.toNat_natCast]
  refine ⟨⟨0, ?_, ?_, rfl, Nat.zero_le _⟩, fun j hj => ⟨fun hlt => ?_, fun hge => ?_⟩⟩
  · rw [List.take_zero, PV.nus]; omega
  · rw [List.take_zero, PV.dq]; rfl
  · have hjl : j < v.l.length := by omega
    have hk := PV.cn_le (pvs_lt hjl)
    have ht := PV.nus_take (pvs_lt hjl)
    have hd := PV.dq_take (pvs_lt hjl)
    rw [pvs_at hjl] at hk ht hd
    have h0 := PV.cns_nus ((GV.pvs v.l).take j)
    have h1 := PV.cn_nu (v.l[j]).pv
    refine ⟨by omega, (gv_at hjl hp).1, v.l[j].n, v.l[j].s, v.l[j].x.1, v.l[j].x.2.1, v.l[j].x.2.2, v.l[j].y.1, v.l[j].y.2.1, v.l[j].y.2.2, v.l[j].b, fun q hq => (gv_at hjl hq).2, v.l[j], ?_⟩
    simp only [true_and, eq_self]
    refine ⟨⟨?_, lt_kid hv hjl⟩, fun q hq => gv_kid hjl hq, by omega, by omega, by omega, j + 1, ?_, hd, rfl, by omega, by omega⟩
    · have := mu_kid hjl; omega
    · rw [ht]; omega
  · obtain rfl : j = v.l.length := by omega
    rw [List.take_of_length_le (by rw [GV.pvs_len]; exact Nat.le_refl _), hnu, hdp]
    refine ⟨fun hk => ⟨fun h0 => ⟨?_, rfl⟩, fun h0 => ⟨?_, rfl⟩⟩, fun hk => ⟨?_, rfl⟩⟩
    · rw [hdq] at h0
      rw [if_pos (by omega)]
      split at h0
      · rename_i h; rw [hd0 h]; rfl
      · omega
    · rw [hdq] at h0 ⊢
      rw [if_pos (by omega)]
      split at h0
      · exact absurd rfl h0
      · rename_i h; rw [if_neg h]
    · rw [hdq]
      by_cases h : v.l.length = 0
      · rw [if_pos h, if_neg (by omega)]
      · rw [if_neg h, if_pos (by omega)]
theorem szR_all : ∀ n, CtOK P 15 (cSzR.below muV n)
  | 0 => Ct.below_zero (by decide) (by decide) (Sen.enters_of Try.func15 (by kernel_rfl)) fun s => ⟨rfl, rfl⟩
  | n + 1 => szR_ok n (szR_all n)
theorem szR_fin : CtOK P 15 cSzR := Ct.of_below szR_all
theorem smR_ok (n : Nat) (hc : CtOK P 17 (cSmR.below muSa n)) : CtOK P 17 (cSmR.below muSa (n + 1)) := by
  refine ask_ok mixed (ctTab_ok (forall_tab hc nil_tab)) (W := wSmR) Try.func17 (by kernel_rfl) (show 1 ≤ 1 by decide) (show 1 ≤ 1 by decide) (fun s => by kernel_rfl) fun ⟨v, w⟩ => (smR_eq n v w).mpr ?_
  rintro ⟨hmu, hv, hw⟩ ⟨p, _, hp, hq⟩
  have hmu : SizeOf.sizeOf v < n + 1 := hmu
  obtain ⟨hxl, hyl⟩ := gv_lens hp
  obtain ⟨hxl2, hyl2⟩ := gv_lens hq
  have hl := hv
  have hl2 := hw
  rw [GV.sm_eq] at hl hl2
  have hsame : PV.same v.pv w.pv = (decide (v.n = w.n) && decide (v.s = w.s) && decide (v.b = w.b) && decide (v.ks = w.ks) && PV.sames (GV.pvs v.l) (GV.pvs w.l)) := by rw [GV.pv_eq v, GV.pv_eq w, PV.same]
  simp only [decide_eq_true_eq, decide_eq_false_iff_not, Bool.not_eq_true', Bool.not_eq_false', true_and, and_true, eq_self, imp_self, implies_true, Int.toNat_natCast]
  rw [hsame]
  refine ⟨fun h => by rw [decide_eq_false h]; rfl, fun h1 => ⟨fun h => by rw [decide_eq_false h]; simp, fun h2 => ⟨fun h => by rw [decide_eq_false h]; simp, fun h3 => ⟨fun h => ?_, fun h4 => ⟨fun h => ?_, fun h5 => ⟨⟨0, rfl, by omega, h1, h2, h3, by omega, by omega, by simp⟩, ?_⟩⟩⟩⟩⟩⟩
  · rw [sames_len (l := GV.pvs v.l) (m := GV.pvs w.l) (by rw [GV.pvs_len, GV.pvs_len]; omega)]; simp
  · rw [decide_eq_false (p := v.ks = w.ks) (fun e => h (by rw [hyl, hyl2, e]))]; simp
  rintro j ⟨hj, -, -, -, hll, hkl, ht⟩
  refine ⟨fun hlt => ?_, fun hge => ?_⟩
  · have hj1 : j < v.ks.length := by omega
    have hj2 : j < w.ks.length := by omega
    refine ⟨by omega, (gv_key hj1 hp).1, v.ks[j], fun q hq => (gv_key hj1 hq.1).2, by omega, (gv_key hj2 hq).1, w.ks[j], fun q hq => (gv_key hj2 hq.2).2, fun hne => ?_, fun he => ⟨by omega, j + 1, rfl, ⟨by omega, h1, h2, h3, hll, hkl, ?_⟩, by omega⟩⟩
    · rw [decide_eq_false (p := v.ks = w.ks) (fun e => hne (by simp only [e]))]; simp
    · rw [List.take_succ_eq_append_getElem hj1, List.take_succ_eq_append_getElem hj2, ht, he]
  · obtain rfl : j = v.ks.length := by omega
    have hks : v.ks = w.ks := by
      rw [List.take_length, hkl, List.take_length] at ht; exact ht
    refine ⟨⟨0, rfl, by omega, h1, h2, h3, hll, hks, by simp⟩, ?_⟩
    rintro i ⟨hi, -, -, -, -, -, hs⟩
    refine ⟨fun hlt => ?_, fun hge => ?_⟩
    · have hi1 : i < v.l.length := by omega
      have hi2 : i < w.l.length := by omega
      have hd := sames_drop (pvs_lt hi1) (pvs_lt hi2)
      rw [pvs_at hi1, pvs_at hi2] at hd
      refine ⟨by omega, (gv_at hi1 hp).1, v.l[i].n, v.l[i].s, v.l[i].x.1, v.l[i].x.2.1, v.l[i].x.2.2, v.l[i].y.1, v.l[i].y.2.1, v.l[i].y.2.2, v.l[i].b, fun q hq => (gv_at hi1 hq.1).2, by omega, (gv_at hi2 hq).1, w.l[i].n, w.l[i].s, w.l[i].x.1, w.l[i].x.2.1, w.l[i].x.2.2, w.l[i].y.1, w.l[i].y.2.1, w.l[i].y.2.2, w.l[i].b, fun q hq => (gv_at hi2 hq.2).2, ⟨v.l[i], w.l[i]⟩, ?_⟩
      simp only [true_and, eq_self]
      refine ⟨⟨?_, sm_kid hv hi1, sm_kid hw hi2⟩, fun q hq => ⟨gv_kid hi1 hq.1, gv_kid hi2 hq.2⟩, fun hb => ?_, fun hb => ⟨by omega, i + 1, rfl, ⟨by omega, h1, h2, h3, hll, hks, ?_⟩, by omega⟩⟩
      · show SizeOf.sizeOf v.l[i] < n
        have := mu_kid hi1
        have : SizeOf.sizeOf v.l[i] < SizeOf.sizeOf v := this
        omega
      · rw [← hs, hd, hb]; simp
      · rw [← hs, hd, hb]; rfl
    · obtain rfl : i = v.l.length := by omega
      rw [List.drop_of_length_le (by rw [GV.pvs_len]; exact Nat.le_refl _), List.drop_of_length_le (by rw [GV.pvs_len]; omega)] at hs
      rw [← hs, decide_eq_true h1, decide_eq_true h2, decide_eq_true h3, decide_eq_true hks, PV.sames]; rfl
theorem smR_all : ∀ n, CtOK P 17 (cSmR.below muSa n)
  | 0 => Ct.below_zero (by decide) (by decide) (Sen.enters_of Try.func17 (by kernel_rfl)) fun s => ⟨rfl, rfl⟩
  | n + 1 => smR_ok n (smR_all n)
theorem smR_fin : CtOK P 17 cSmR := Ct.of_below smR_all
/-! The law: which values a type has. -/
def cBegun20 : Ct where
  σ := Unit
  args := fun _ => []
  h := fun _ => []
  m := 1
  r := fun _ => .bool true
  h' := fun _ => []
  m' := 1
  g := fun _ => none
def wBegun20 : cBegun20.σ → WayF := fun _ => { pub := fun i k => match i, k with
  | 3, 1 => [10]
  | 4, 2 => [7]
  | _, _ => [] }
def cLight : Ct := ctP GV (fun v => [v.av]) (fun v => vLt v) (fun v => vM v) fun v => .sv (.bool (decide (PV.cn v.pv ≤ 60)))
def cMade : Ct where
  σ := SV
  args := fun x => [svA x]
  h := fun _ => []
  m := 1
  r := fun _ => .ptr 1 0
  h' := fun x => pkO x 0
  m' := 2
  g := fun _ => none
abbrev LaS := SV × List Int × GV × GV × Int
def laM (x : SV) (L : List Int) (v w : GV) : PF := ⟨true, fun p => slP byV x L p ∧ v.ok p ∧ w.ok p, fun _ _ h e => ⟨slP_mono h e.1, GV.ok_mono h e.2.1, GV.ok_mono h e.2.2⟩⟩
def cLawAA : Ct := ctP LaS (fun ⟨x, L, v, w, t⟩ => [svA x, v.av, w.av, .sv (.int .i64 t)]) (fun ⟨x, L, v, w, t⟩ => L.length < 4611686018427387904 ∧ (∀ b ∈ L, 0 ≤ b ∧ b < 256) ∧ vLt v ∧ vLt w) (fun ⟨x, L, v, w, t⟩ => laM x L v w) fun _ => .sv (.bool true)
def wLawAA : LaS → WayF := fun ⟨x, L, v, w, t0⟩ => {
  ann := fun _ t _ => match t.get 9 with
    | some (.ptr k _) => some { σ := Nat × List AT × SV, pre := fun ⟨j, S, y⟩ => goodS S ∧ j ≤ S.length + 2, mem := fun ⟨j, S, y⟩ => sM S y, t := fun ⟨j, S, y⟩ => [(11, .sv (.int .i64 ((j : Int) - 1)))], h := fun ⟨j, S, y⟩ => [(k, .cells 32 (some 0) false [svA y])], more := 0, μ := fun ⟨j, S, y⟩ => S.length + 2 - j, keep := [0, 3, 5, 6, 9] }
    | _ => none }
end
end Go.Proofs.Ytabfjgbidbibgaa.Wd
