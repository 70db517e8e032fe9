/-
  What the functions do: contracts, and their questions answered. No condition but what its theorems ask.
-/
import Derived.Test.YtabfjgbidbibgaaT7
import Derived.Test.YtabfjgbidbibgaaRows
import Derived.WalkKit
import Derived.ProofKit
import Derived.OpenShut
import Derived.ShutString
import Derived.ChangeOld
import Derived.Lib.SmallJoins
namespace Go.Proofs.Ytabfjgbidbibgaa.Wd
open Go.Proofs.Ytabfjgbidbibgaa.Eng Go.Proofs.Ytabfjgbidbibgaa.Sen Go.RowKit
set_option linter.defProp false
set_option linter.unusedVariables false
set_option linter.unusedSimpArgs false
set_option maxRecDepth 1000000
noncomputable section
noncomputable section
variable (x0 : Nat → Option Obj) (x1 : Nat) (x2 : Nat) (x3 : Nat) (x4 : Nat) (x5 : FtS) (x6 : Int) (x7 : Prop) (x8 : GV × GV) (x9 : GV)
 abbrev zcn2 := True ∧ ∀ (i0 : Nat) (i1 : Value), [Value.int IntKind.u64 5, Value.string (mkS []), Value.slice noA 0 0, Value.slice noA 0 0, Value.int IntKind.i64 0][i0]? = some i1 → cellP x0 (Addr.add (Addr.mk x1 x2 none) i0) = some i1
 abbrev zcn0 := (zcn2 x0 x1 x2) ∧ ∀ (i2 : Nat) (i3 : Value), [Value.int IntKind.i64 3, Value.string (mkS []), Value.slice noA 0 0, Value.int IntKind.i64 0, Value.slice noA 0 0, Value.bool false, Value.string (mkS []), Value.int IntKind.i64 0, Value.slice noA 0 0, Value.slice noA 0 0, Value.int IntKind.i64 12, Value.string (mkS []), Value.slice noA 0 0, Value.int IntKind.i64 0, Value.slice noA 0 0, Value.bool false, Value.string (mkS []), Value.int IntKind.i64 0, Value.slice noA 0 0, Value.slice noA 0 0][i2]? = some i3 → cellP x0 (Addr.add (Addr.mk x3 x4 none) i2) = some i3
 abbrev zcn1 := x5.2.1.1 = some (Addr.mk x1 (x2 + nat_lit 0) none) ∧ x5.2.1.2.1 = nat_lit 2 ∧ x5.2.1.2.2 = nat_lit 2 ∧ x5.2.2.1 = x6 ∧ GV.n x5.2.2.2 = 0 ∧ GV.s x5.2.2.2 = mkS [] ∧ (GV.x x5.2.2.2).1 = some (Addr.mk x3 (x4 + nat_lit 0) none) ∧ (GV.x x5.2.2.2).2.1 = nat_lit 1 ∧ (GV.x x5.2.2.2).2.2 = nat_lit 1 ∧ (GV.y x5.2.2.2).1 = noA ∧ (GV.y x5.2.2.2).2.1 = 0 ∧ (GV.y x5.2.2.2).2.2 = 0 ∧ GV.b x5.2.2.2 = 0 ∧ (small x5.1 ∧ PV.sm (GV.pv x5.2.2.2)) ∧ (∀ (i0 : Pub), (zcn0 i0 x3 x4 x1 x2) → schP x5.1 x5.2.1 i0 ∧ GV.ok x5.2.2.2 i0) ∧ x7
 abbrev zcn3 := GV.n x8.1 = 0 ∧ GV.s x8.1 = mkS [] ∧ (GV.x x8.1).1 = some (Addr.mk x1 (x2 + nat_lit 0) none) ∧ (GV.x x8.1).2.1 = nat_lit 1 ∧ (GV.x x8.1).2.2 = nat_lit 1 ∧ (GV.y x8.1).1 = noA ∧ (GV.y x8.1).2.1 = 0 ∧ (GV.y x8.1).2.2 = 0 ∧ GV.b x8.1 = 0 ∧ GV.n x8.2 = 0 ∧ GV.s x8.2 = mkS [] ∧ x7
 abbrev zcn4 := (GV.y x8.2).1 = noA ∧ (GV.y x8.2).2.1 = 0 ∧ (GV.y x8.2).2.2 = 0 ∧ GV.b x8.2 = 0 ∧ (PV.sm (GV.pv x8.1) ∧ PV.sm (GV.pv x8.2)) ∧ (∀ (i0 : Pub), (zcn0 i0 x1 x2 x3 x4) → GV.ok x8.1 i0 ∧ GV.ok x8.2 i0) ∧ x7
 abbrev zcn5 := (decide (PV.dp (GV.pv x9) = 1) = true → true = decide (PV.nu (GV.pv x9) = 2) ∧ True) ∧ (decide (PV.dp (GV.pv x9) = 1) = false → False)
end
theorem begun20_eqz (u : Unit) : askF P (ctTab [(12, cFits), (14, cSzA), (16, cSame)]) Try.f8 cBegun20 (wBegun20) u = (True → ∀ (b s u : Nat), (∃ (p : Pub), True ∧ cellsP p (Addr.mk b s none) [Value.int IntKind.u64 5, Value.string (mkS []), Value.slice noA 0 0, Value.slice noA 0 0, Value.int IntKind.i64 0]) → ∃ (s_1 : GV), GV.n s_1 = 0 ∧ GV.s s_1 = mkS [] ∧ (GV.x s_1).1 = some (Addr.mk b (s + nat_lit 0) none) ∧ (GV.x s_1).2.1 = nat_lit 1 ∧ (GV.x s_1).2.2 = nat_lit 1 ∧ (GV.y s_1).1 = noA ∧ (GV.y s_1).2.1 = 0 ∧ (GV.y s_1).2.2 = 0 ∧ GV.b s_1 = 0 ∧ vLt s_1 ∧ (∀ (p : Pub), (zcn2 p b s) → GV.ok s_1 p) ∧ ∀ (b_1 s_2 u : Nat), (∃ (p : Pub), (zcn2 p b s) ∧ cellsP p (Addr.mk b_1 s_2 none) [Value.int IntKind.i64 3, Value.string (mkS []), Value.slice noA 0 0, Value.int IntKind.i64 0, Value.slice noA 0 0, Value.bool false, Value.string (mkS []), Value.int IntKind.i64 0, Value.slice noA 0 0, Value.slice noA 0 0, Value.int IntKind.i64 12, Value.string (mkS []), Value.slice noA 0 0, Value.int IntKind.i64 0, Value.slice noA 0 0, Value.bool false, Value.string (mkS []), Value.int IntKind.i64 0, Value.slice noA 0 0, Value.slice noA 0 0]) → ∃ (s_3 : FtS), zcn1 b_1 s_2 b s s_3 1 ((PV.fits s_3.1 s_3.2.2.1 (GV.pv s_3.2.2.2) = true → ∃ (s_4 : FtS), zcn1 b_1 s_2 b s s_4 0 (((!PV.fits s_4.1 s_4.2.2.1 (GV.pv s_4.2.2.2)) = true → ∃ (s_5 : GV × GV), zcn3 b s ((GV.x s_5.2).1 = some (Addr.mk b (s + nat_lit 0) none) ∧ (GV.x s_5.2).2.1 = nat_lit 1 ∧ (GV.x s_5.2).2.2 = nat_lit 1 ∧ zcn4 b s b_1 s_2 ((PV.same (GV.pv s_5.1) (GV.pv s_5.2) = true → ∃ (s_6 : GV × GV), zcn3 b s ((GV.x s_6.2).1 = noA ∧ (GV.x s_6.2).2.1 = 0 ∧ (GV.x s_6.2).2.2 = 0 ∧ zcn4 b s b_1 s_2 (((!PV.same (GV.pv s_6.1) (GV.pv s_6.2)) = true → zcn5 s_1) ∧ ((!PV.same (GV.pv s_6.1) (GV.pv s_6.2)) = false → False)) s_6) s_6) ∧ (PV.same (GV.pv s_5.1) (GV.pv s_5.2) = false → False)) s_5) s_5) ∧ ((!PV.fits s_4.1 s_4.2.2.1 (GV.pv s_4.2.2.2)) = false → False))) ∧ (PV.fits s_3.1 s_3.2.2.1 (GV.pv s_3.2.2.2) = false → False))) := by kernel_rfl
def begun20_eq (u : Unit) := Eq.trans (begun20_eqz u) (by delta zcn2 zcn0 zcn1 zcn3 zcn4 zcn5; exact rfl)
theorem light_eq (v : GV) : askF P (ctTab [(25, cCnt)]) Try.f9 cLight (fun _ => {}) v = (vLt v → (∃ (p : Nat → Option Obj), True ∧ GV.ok v p) → ∃ (s : GV), GV.n s = GV.n v ∧ GV.s s = GV.s v ∧ Prod.fst (GV.x s) = Prod.fst (GV.x v) ∧ Prod.fst (Prod.snd (GV.x s)) = Prod.fst (Prod.snd (GV.x v)) ∧ Prod.snd (Prod.snd (GV.x s)) = Prod.snd (Prod.snd (GV.x v)) ∧ Prod.fst (GV.y s) = Prod.fst (GV.y v) ∧ Prod.fst (Prod.snd (GV.y s)) = Prod.fst (Prod.snd (GV.y v)) ∧ Prod.snd (Prod.snd (GV.y s)) = Prod.snd (Prod.snd (GV.y v)) ∧ GV.b s = GV.b v ∧ vLt s ∧ (∀ (p : Nat → Option Obj), True ∧ GV.ok v p → GV.ok s p) ∧ decide (PV.cn (GV.pv v) ≤ (60 : Int)) = decide (PV.cn (GV.pv s) ≤ (60 : Int)) ∧ True) := by kernel_rfl
theorem made_eq (x : SV) : askF P (fun _ => none) Try.f10 cMade (fun _ => {}) x = (True → Prod.fst x = Prod.fst x ∧ Prod.fst (Prod.snd x) = Prod.fst (Prod.snd x) ∧ Prod.snd (Prod.snd x) = Prod.snd (Prod.snd x) ∧ (0 : Int) = (0 : Int) ∧ True) := by kernel_rfl
noncomputable section
variable (x0 : List AT × (Option Addr × Nat × Nat) × Bool × Int) (x1 : SV) (x2 : Int) (x3 : GV) (x4 : GV) (x5 : List Int) (x6 : Nat × List AT × Option Addr × Nat × Nat) (x7 : FtS) (x8 : FtS) (x9 : GV) (x10 : GV) (x11 : GV × GV) (x12 : GV × GV) (x13 : Prop) (x14 : Nat → Option Obj)
 abbrev zcp14 := GV.n x3 = GV.n x4 ∧ GV.s x3 = GV.s x4 ∧ (GV.x x3).1 = (GV.x x4).1 ∧ (GV.x x3).2.1 = (GV.x x4).2.1 ∧ (GV.x x3).2.2 = (GV.x x4).2.2 ∧ (GV.y x3).1 = (GV.y x4).1 ∧ (GV.y x3).2.1 = (GV.y x4).2.1 ∧ (GV.y x3).2.2 = (GV.y x4).2.2 ∧ GV.b x3 = GV.b x4 ∧ vLt x3 ∧ x13
 abbrev zcp34 := (∀ (i0 : Pub), True ∧ slP byV x1 x5 i0 ∧ GV.ok x3 i0 ∧ GV.ok x4 i0 → GV.ok x9 i0) ∧ ((!decide (PV.cn (GV.pv x9) ≤ 60)) = true → true = true ∧ True) ∧ x13
 abbrev zcp18 := (True ∧ slP byV x1 x5 x14 ∧ GV.ok x3 x14 ∧ GV.ok x4 x14) ∧ schP x0.1 x0.2.1 x14
 abbrev zcp33 := x1.1 = x1.1 ∧ x1.2.1 = x1.2.1 ∧ x1.2.2 = x1.2.2 ∧ x13
 abbrev zcp15 := GV.n x3 = GV.n x3 ∧ GV.s x3 = GV.s x3 ∧ (GV.x x3).1 = (GV.x x3).1 ∧ (GV.x x3).2.1 = (GV.x x3).2.1 ∧ (GV.x x3).2.2 = (GV.x x3).2.2 ∧ (GV.y x3).1 = (GV.y x3).1 ∧ (GV.y x3).2.1 = (GV.y x3).2.1 ∧ (GV.y x3).2.2 = (GV.y x3).2.2 ∧ GV.b x3 = GV.b x3 ∧ x13
 abbrev zcp31 := goodS x6.2.1 ∧ x6.1 ≤ List.length x6.2.1 + 2
 abbrev zcp22 := x7.2.1.1 = x6.2.2.1 ∧ x7.2.1.2.1 = x6.2.2.2.1 ∧ x7.2.1.2.2 = x6.2.2.2.2 ∧ x13
 abbrev zcp12 := GV.n x7.2.2.2 = GV.n x3 ∧ GV.s x7.2.2.2 = GV.s x3 ∧ (GV.x x7.2.2.2).1 = (GV.x x3).1 ∧ (GV.x x7.2.2.2).2.1 = (GV.x x3).2.1 ∧ (GV.x x7.2.2.2).2.2 = (GV.x x3).2.2 ∧ (GV.y x7.2.2.2).1 = (GV.y x3).1 ∧ (GV.y x7.2.2.2).2.1 = (GV.y x3).2.1 ∧ (GV.y x7.2.2.2).2.2 = (GV.y x3).2.2 ∧ GV.b x7.2.2.2 = GV.b x3 ∧ x13
 abbrev zcp29 := (∀ (i0 : Pub), (zcp18 x0 x1 x3 x4 x5 i0) ∧ schP x6.2.1 x6.2.2 i0 → schP x7.1 x7.2.1 i0 ∧ GV.ok x7.2.2.2 i0)
 abbrev zcp40 := (small x7.1 ∧ kindsOK x7.1 ∧ PV.sm (GV.pv x7.2.2.2))
 abbrev zcp37 := Value.slice x6.2.2.1 x6.2.2.2.1 x6.2.2.2.2
 abbrev zcp35 := Value.slice (GV.x x3).1 (GV.x x3).2.1 (GV.x x3).2.2
 abbrev zcp36 := Value.slice (GV.y x3).1 (GV.y x3).2.1 (GV.y x3).2.2
 abbrev zcp7 := AV.agg [AV.sv (Value.int IntKind.u64 (GV.n x3)), AV.sv (Value.string (GV.s x3)), AV.sv (zcp35 x3), AV.sv (zcp36 x3), AV.sv (Value.int IntKind.i64 (GV.b x3))] = AV.agg [AV.sv (Value.int IntKind.u64 (GV.n x3)), AV.sv (Value.string (GV.s x3)), AV.sv (zcp35 x3), AV.sv (zcp36 x3), AV.sv (Value.int IntKind.i64 (GV.b x3))]
 abbrev zcp17 := AV.agg [AV.sv (zcp37 x6)] = AV.agg [AV.sv (zcp37 x6)] ∧ zcp7 x3 ∧ x13
 abbrev zcp8 := PV.fits x7.1 x7.2.2.1 (GV.pv x7.2.2.2) = PV.fits x8.1 x8.2.2.1 (GV.pv x8.2.2.2)
 abbrev zcp10 := ((-9223372036854775808 : Int) ≤ (↑x6.1 : Int) - 1 + 1 ∧ (↑x6.1 : Int) - 1 + 1 ≤ 9223372036854775807) ∧ ∃ (i0 : Nat × List AT × Option Addr × Nat × Nat), zcp33 x1 (x2 = x2 ∧ (↑i0.1 : Int) - 1 = (↑x6.1 : Int) - 1 + 1 ∧ zcp15 x3 (zcp15 x4 (i0.2.2.1 = x6.2.2.1 ∧ i0.2.2.2.1 = x6.2.2.2.1 ∧ i0.2.2.2.2 = x6.2.2.2.2 ∧ (∀ (i1 : Pub), (zcp18 x0 x1 x3 x4 x5 i1) ∧ schP x6.2.1 x6.2.2 i1 → zcp18 x0 x1 x3 x4 x5 i1) ∧ (∀ (i2 : Pub), (zcp18 x0 x1 x3 x4 x5 i2) ∧ schP x6.2.1 x6.2.2 i2 → schP i0.2.1 i0.2.2 i2) ∧ (zcp31 i0) ∧ List.length i0.2.1 + 2 - i0.1 < List.length x6.2.1 + 2 - x6.1 ∧ True)))
 abbrev zcp26 := decide (zcp8 x7 x8) = decide (zcp8 x7 x8) ∧ decide (zcp8 x7 x8) = decide (zcp8 x7 x8) ∧ x13
 abbrev zcp21 := GV.n x11.1 = GV.n x3 ∧ GV.s x11.1 = GV.s x3 ∧ (GV.x x11.1).1 = (GV.x x3).1 ∧ (GV.x x11.1).2.1 = (GV.x x3).2.1 ∧ (GV.x x11.1).2.2 = (GV.x x3).2.2 ∧ (GV.y x11.1).1 = (GV.y x3).1 ∧ (GV.y x11.1).2.1 = (GV.y x3).2.1 ∧ (GV.y x11.1).2.2 = (GV.y x3).2.2 ∧ GV.b x11.1 = GV.b x3 ∧ x13
 abbrev zcp20 := GV.n x11.2 = GV.n x3 ∧ GV.s x11.2 = GV.s x3 ∧ (GV.x x11.2).1 = (GV.x x3).1 ∧ (GV.x x11.2).2.1 = (GV.x x3).2.1 ∧ (GV.x x11.2).2.2 = (GV.x x3).2.2 ∧ (GV.y x11.2).1 = (GV.y x3).1 ∧ (GV.y x11.2).2.1 = (GV.y x3).2.1 ∧ (GV.y x11.2).2.2 = (GV.y x3).2.2 ∧ GV.b x11.2 = GV.b x3 ∧ (PV.sm (GV.pv x11.1) ∧ PV.sm (GV.pv x11.2)) ∧ x13
 abbrev zcp16 := zcp21 x3 x11 (zcp20 x4 x11 ((∀ (i0 : Pub), (zcp18 x0 x1 x3 x4 x5 i0) ∧ schP x6.2.1 x6.2.2 i0 → GV.ok x11.1 i0 ∧ GV.ok x11.2 i0) ∧ decide (zcp8 x7 x8) = decide (zcp8 x7 x8) ∧ x13))
 abbrev zcp19 := PV.same (GV.pv x11.1) (GV.pv x11.2) = PV.same (GV.pv x12.1) (GV.pv x12.2)
 abbrev zcp38 := decide (zcp19 x11 x12) = decide (zcp19 x11 x12)
 abbrev zcp30 := PV.same (GV.pv x11.1) (GV.pv x11.2) = PV.same (GV.pv x11.1) (GV.pv x11.2)
 abbrev zcp27 := PV.dp (GV.pv x3) = PV.dp (GV.pv x4)
 abbrev zcp39 := decide (zcp27 x3 x4) = decide (zcp27 x3 x4)
 abbrev zcp3 := zcp17 x3 x6 (zcp7 x4 ∧ zcp7 x3 ∧ true = false ∧ True)
 abbrev zcp23 := zcp39 x3 x4 ∧ zcp39 x3 x4 ∧ (decide (zcp27 x3 x4) = true → zcp17 x9 x6 (zcp7 x10 ∧ zcp7 x9 ∧ true = decide (PV.nu (GV.pv x3) = PV.nu (GV.pv x4)) ∧ True)) ∧ (decide (zcp27 x3 x4) = false → zcp3 x9 x10 x6)
 abbrev zcp25 := zcp39 x3 x4 ∧ zcp39 x3 x4 ∧ (decide (zcp27 x3 x4) = true → zcp17 x9 x6 (zcp7 x10 ∧ zcp7 x9 ∧ False)) ∧ (decide (zcp27 x3 x4) = false → zcp3 x9 x10 x6)
 abbrev zcp13 := (decide (zcp27 x3 x4) = true → zcp23 x3 x4 x6 x9 x10) ∧ (decide (zcp27 x3 x4) = false → zcp25 x3 x4 x6 x9 x10)
 abbrev zcp11 := zcp30 x11 ∧ zcp30 x11 ∧ (PV.same (GV.pv x11.1) (GV.pv x11.2) = true → zcp13 x3 x4 x6 x9 x10) ∧ (PV.same (GV.pv x11.1) (GV.pv x11.2) = false → zcp3 x9 x10 x6)
 abbrev zcp28 := zcp30 x11 ∧ zcp30 x11 ∧ (PV.same (GV.pv x11.1) (GV.pv x11.2) = true → False) ∧ (PV.same (GV.pv x11.1) (GV.pv x11.2) = false → zcp3 x3 x4 x6)
 abbrev zcp9 := (PV.same (GV.pv x11.1) (GV.pv x11.2) = true → zcp11 x3 x4 x6 x9 x10 x11) ∧ (PV.same (GV.pv x11.1) (GV.pv x11.2) = false → zcp28 x9 x10 x6 x11)
 abbrev zcp6 := zcp38 x11 x12 ∧ zcp38 x11 x12 ∧ ∃ (i0 : GV × GV), zcp21 x3 i0 (zcp20 x3 i0 ((∀ (i1 : Pub), (zcp18 x0 x1 x3 x4 x5 i1) ∧ schP x6.2.1 x6.2.2 i1 → GV.ok i0.1 i1 ∧ GV.ok i0.2 i1) ∧ (decide (zcp19 x11 x12) = true → zcp9 x9 x10 x6 x4 x3 i0) ∧ (decide (zcp19 x11 x12) = false → zcp3 x4 x3 x6)))
 abbrev zcp32 := zcp38 x11 x12 ∧ zcp38 x11 x12 ∧ (decide (zcp19 x11 x12) = true → False) ∧ (decide (zcp19 x11 x12) = false → zcp3 x3 x4 x6)
 abbrev zcp5 := (decide (zcp19 x11 x12) = true → zcp6 x0 x1 x3 x4 x5 x6 x9 x10 x11 x12) ∧ (decide (zcp19 x11 x12) = false → zcp32 x4 x3 x6 x11 x12)
 abbrev zcp4 := zcp26 x7 x8 (∃ (i0 : GV × GV), zcp16 x0 x1 x3 x4 x5 x6 x7 x8 i0 (zcp26 x7 x8 (∃ (i2 : GV × GV), zcp16 x0 x1 x3 x4 x5 x6 x7 x8 i2 ((decide (zcp8 x7 x8) = true → zcp5 x0 x1 x3 x4 x5 x6 x9 x10 i0 i2) ∧ (decide (zcp8 x7 x8) = false → zcp3 x4 x3 x6)))))
 abbrev zcp24 := zcp26 x7 x8 (zcp26 x7 x8 (zcp26 x7 x8 ((decide (zcp8 x7 x8) = true → False) ∧ (decide (zcp8 x7 x8) = false → zcp17 x3 x6 (true = false ∧ True)))))
 abbrev zcp2 := (decide ((↑x6.1 : Int) - 1 ≤ (↑x6.2.2.2.1 : Int)) = true → ∃ (i0 : FtS), zcp22 x6 i0 (i0.2.2.1 = (↑x6.1 : Int) - 1 ∧ zcp12 x3 i0 ((small i0.1 ∧ PV.sm (GV.pv i0.2.2.2)) ∧ zcp29 x0 x1 x3 x4 x5 x6 i0 ∧ ∃ (i2 : FtS), zcp22 x6 i2 (i2.2.2.1 = (↑x6.1 : Int) - 1 ∧ zcp12 x3 i2 (zcp40 i2 ∧ zcp29 x0 x1 x3 x4 x5 x6 i2 ∧ zcp17 x3 x6 (((!decide (zcp8 i0 i2)) = true → true = false ∧ True) ∧ ((!decide (zcp8 i0 i2)) = false → zcp10 x0 x1 x2 x3 x4 x5 x6))))))) ∧ (decide ((↑x6.1 : Int) - 1 ≤ (↑x6.2.2.2.1 : Int)) = false → ∃ (i7 : GV), zcp14 i7 x3 ((∀ (i8 : Pub), (zcp18 x0 x1 x3 x4 x5 i8) ∧ schP x6.2.1 x6.2.2 i8 → GV.ok i7 i8) ∧ ∃ (i9 : GV), zcp14 i9 x3 ((∀ (i10 : Pub), (zcp18 x0 x1 x3 x4 x5 i10) ∧ schP x6.2.1 x6.2.2 i10 → GV.ok i9 i10) ∧ ∃ (i11 : FtS), zcp22 x6 i11 (i11.2.2.1 = x2 ∧ zcp12 x4 i11 ((small i11.1 ∧ PV.sm (GV.pv i11.2.2.2)) ∧ zcp29 x0 x1 x3 x4 x5 x6 i11 ∧ ∃ (i13 : FtS), zcp22 x6 i13 (i13.2.2.1 = x2 ∧ zcp12 x4 i13 (zcp40 i13 ∧ zcp29 x0 x1 x3 x4 x5 x6 i13 ∧ (decide (zcp8 i11 i13) = true → zcp4 x0 x1 x3 x4 x5 x6 i11 i13 i7 i9) ∧ (decide (zcp8 i11 i13) = false → zcp24 x4 x6 i11 i13))))))))
 abbrev zcp1 := (∃ (i0 : Nat × List AT × Option Addr × Nat × Nat), zcp33 x1 (x2 = x2 ∧ (↑i0.1 : Int) - 1 = -1 ∧ zcp15 x3 (zcp15 x4 (i0.2.2.1 = x0.2.1.1 ∧ i0.2.2.2.1 = x0.2.1.2.1 ∧ i0.2.2.2.2 = x0.2.1.2.2 ∧ (∀ (i1 : Pub), zcp18 x0 x1 x3 x4 x5 i1 → zcp18 x0 x1 x3 x4 x5 i1) ∧ (∀ (i2 : Pub), zcp18 x0 x1 x3 x4 x5 i2 → schP i0.2.1 i0.2.2 i2) ∧ (zcp31 i0) ∧ True)))) ∧ ∀ (i3 : Nat × List AT × Option Addr × Nat × Nat), zcp31 i3 → (∃ (i4 : Pub), (zcp18 x0 x1 x3 x4 x5 i4) ∧ schP i3.2.1 i3.2.2 i4) → zcp2 x0 x1 x2 x3 x4 x5 i3
 abbrev zcp0 := ((!x0.2.2.1) = true → true = true ∧ True) ∧ ((!x0.2.2.1) = false → zcp1 x0 x1 x2 x3 x4 x5)
end
theorem lawAA_eqz (x : SV) (L : List Int) (v w : GV) (t : Int) : askX P (ctTab [(8, cBegun20), (9, cLight), (10, cMade), (12, cFits), (13, cFitsR), (14, cSzA), (15, cSzR), (16, cSame), (17, cSmR)]) (rlTab [(11, cAvro)]) Try.f3 cLawAA (wLawAA) ⟨x, L, v, w, t⟩ = (List.length L < 4611686018427387904 ∧ (∀ (b : Int), b ∈ L → 0 ≤ b ∧ b < 256) ∧ vLt v ∧ vLt w → (∃ (p : Pub), True ∧ slP byV x L p ∧ GV.ok v p ∧ GV.ok w p) → ∃ (s : Unit), True ∧ (decide (120 < (↑x.2.1 : Int)) = true → true = true ∧ True) ∧ (decide (120 < (↑x.2.1 : Int)) = false → ∃ (s : GV), zcp14 s v (zcp34 x v w L s (((!decide (PV.cn (GV.pv s) ≤ 60)) = false → ∃ (s : GV), zcp14 s w (zcp34 x v w L s (((!decide (PV.cn (GV.pv s) ≤ 60)) = false → ∃ (s : Option Addr × Nat × Nat), s.1 = x.1 ∧ s.2.1 = x.2.1 ∧ s.2.2 = x.2.2 ∧ True ∧ ∃ (s_1 : RcS), s_1.1.1 = s.1 ∧ s_1.1.2.1 = s.2.1 ∧ s_1.1.2.2 = s.2.2 ∧ s_1.2.2 = 0 ∧ rcPre s_1 ∧ (∀ (p : Pub), True ∧ slP byV x L p ∧ GV.ok v p ∧ GV.ok w p → slP byV s_1.1 s_1.2.1 p) ∧ ∀ (b : List AT × (Option Addr × Nat × Nat) × Bool × Int), goodS b.1 ∧ (b.2.2.1 = true → b.1 ≠ []) ∧ s_1.2.2 ≤ b.2.2.2 ∧ b.2.2.2 ≤ (↑(List.length s_1.2.1) : Int) → (∃ (p : Pub), zcp18 b x v w L p) → zcp0 b x t v w L)))))))) := by kernel_rfl
def lawAA_eq (x : SV) (L : List Int) (v w : GV) (t : Int) := Eq.trans (lawAA_eqz x L v w t) (by delta zcp14 zcp34 zcp18 zcp33 zcp15 zcp31 zcp22 zcp12 zcp29 zcp40 zcp37 zcp35 zcp36 zcp7 zcp17 zcp8 zcp10 zcp26 zcp21 zcp20 zcp16 zcp19 zcp38 zcp30 zcp27 zcp39 zcp3 zcp23 zcp25 zcp13 zcp11 zcp28 zcp9 zcp6 zcp32 zcp5 zcp4 zcp24 zcp2 zcp1 zcp0; exact rfl)
theorem made_ok : CtOK P 10 cMade := by
  refine ask_ok mixed no_tab (W := fun _ => {}) Try.func10 (by kernel_rfl) (by decide) (by decide) (fun s => by kernel_rfl) fun (x : SV) => (made_eq x).mpr ?_
  simp only [true_and, and_true, eq_self, imp_self, implies_true]
theorem light_ok : CtOK P 9 cLight := by
  refine ask_ok mixed (ctTab_ok (forall_tab cnt_fin nil_tab)) (W := fun _ => {}) Try.func9 (by kernel_rfl) (by decide) (by decide) (fun s => by kernel_rfl) fun (v : GV) => (light_eq v).mpr ?_
  rintro hv ⟨p, _, hp⟩
  simp only [decide_eq_true_eq, decide_eq_false_iff_not, Bool.not_eq_true', Bool.not_eq_false', true_and, and_true, eq_self, imp_self, implies_true, Int.toNat_natCast]
  exact ⟨v, rfl, rfl, rfl, rfl, rfl, rfl, rfl, rfl, rfl, hv, fun q hq => hq, rfl⟩
theorem good_small {S : List AT} (h : goodS S) : small S := ⟨by have := h.1; omega, fun e he => by have := (h.2 e he).2.2.2.2.2.2.2; omega⟩
theorem good_kinds {S : List AT} (h : goodS S) : kindsOK S := fun e he => (h.2 e he).1
/-! Does aval do anything? -/
def tK (k it : Int) : AT := ⟨k, mkS [], (none, 0, 0), [], it, (none, 0, 0), [], false, mkS [], 0, (none, 0, 0), [], (none, 0, 0), []⟩
def S20 : List AT := [tK 3 0, tK 12 0]
def bV : GV := .mk 5 (mkS []) (none, 0, 0) [] (none, 0, 0) [] 0
def aV (x : SV) : GV := .mk 0 (mkS []) x [bV] (none, 0, 0) [] 0
def aP : PV := .mk 0 (mkS []) [.mk 5 (mkS []) [] [] 0] [] 0
theorem aV_pv (x : SV) : (aV x).pv = aP := by unfold aV bV; rw [GV.pv, GV.pvs, GV.pvs, GV.pv, GV.pvs]; rfl
theorem tK_ok (k it : Int) (p : Pub) : (tK k it).ok p := ⟨slP_nil, slP_nil, slP_nil, slP_nil, fun f hf => absurd hf (by simp [tK])⟩
theorem S20_sch {p : Pub} {b s : Nat} (h : cellsP p ⟨b, s, none⟩ (rowsV AT.cells S20)) : schP S20 (some ⟨b, s + 0, none⟩, 2, 2) p :=
  ⟨⟨rfl, Nat.le_refl _, .inr ⟨_, rfl, rfl, h⟩⟩, fun e he => by simp [S20] at he; rcases he with rfl | rfl <;> exact tK_ok _ _ _⟩
theorem S20_small : small S20 := ⟨by decide, fun e he => by simp [S20] at he; rcases he with rfl | rfl <;> decide⟩
theorem bV_ok (p : Pub) : bV.ok p := by unfold bV GV.ok GV.oks; exact ⟨slP_nil, slP_nil, trivial⟩
theorem aV_ok {p : Pub} {b s : Nat} (h : cellsP p ⟨b, s, none⟩ (rowsV GV.cells [bV])) : (aV (some ⟨b, s + 0, none⟩, 1, 1)).ok p := by
  unfold aV GV.ok; unfold GV.oks; unfold GV.oks
  exact ⟨⟨rfl, Nat.le_refl _, .inr ⟨_, rfl, rfl, h⟩⟩, slP_nil, bV_ok p, trivial⟩
theorem aP_sm : aP.sm := by
  unfold aP PV.sm PV.sms PV.sms PV.sm PV.sms
  exact ⟨⟨by decide, by decide⟩, by decide, by decide, by decide, fun k h => by simp at h, ⟨⟨by decide, by decide⟩, by decide, by decide, by decide, fun k h => by simp at h, trivial⟩, trivial⟩
theorem aP_cn : PV.cn aP = 2 := by decide +kernel
theorem aP_dp : PV.dp aP = 1 := by decide +kernel
theorem aP_nu : PV.nu aP = 2 := by decide +kernel
theorem aP_fit : PV.fits S20 1 aP = true := by decide +kernel
theorem aP_fit0 : PV.fits S20 0 aP = false := by decide +kernel
theorem aP_same : PV.same aP zV.pv = false := by decide +kernel
theorem zP_sm : zV.pv.sm := by
  unfold zV GV.pv GV.pvs PV.sm PV.sms
  exact ⟨⟨by decide, by decide⟩, by decide, by decide, by decide, fun k h => by simp at h, trivial⟩
theorem begun20_ok : CtOK P 8 cBegun20 := by
  refine ask_ok mixed (ctTab_ok (forall_tab fits_fin (forall_tab szA_fin (forall_tab same_fin nil_tab)))) (W := wBegun20) Try.func8 (by kernel_rfl) (by decide) (by decide) (fun s => by kernel_rfl) fun (u : Unit) => (begun20_eq u).mpr ?_
  intro _ b s u _
  have ep := fun x => aV_pv x
  have sm : ∀ x, (aV x).pv.sm := fun x => by rw [aV_pv]; exact aP_sm
  have lt : ∀ x, vLt (aV x) := fun x => ⟨sm x, by rw [aV_pv, aP_cn]; decide⟩
  simp only [decide_eq_true_eq, decide_eq_false_iff_not, Bool.not_eq_true', Bool.not_eq_false', true_and, and_true, eq_self, imp_self, implies_true, exists_const]
  refine ⟨aV (some ⟨b, s + 0, none⟩, 1, 1), rfl, rfl, rfl, rfl, rfl, rfl, rfl, rfl, rfl, lt _, fun p h => aV_ok h, ?_⟩
  intro b1 s1 u1 _
  refine ⟨⟨S20, (some ⟨b1, s1 + 0, none⟩, 2, 2), 1, aV (some ⟨b, s + 0, none⟩, 1, 1)⟩, rfl, rfl, rfl, rfl, rfl, rfl, rfl, rfl, rfl, rfl, rfl, rfl, rfl, ⟨S20_small, sm _⟩, fun p h => ⟨S20_sch h.2, aV_ok h.1⟩, ?_⟩
  simp only [aV_pv, aP_fit, aP_fit0]
  have hs1 := same_refl aP
  refine ⟨fun _ => ⟨⟨S20, (some ⟨b1, s1 + 0, none⟩, 2, 2), 0, aV (some ⟨b, s + 0, none⟩, 1, 1)⟩, rfl, rfl, rfl, rfl, rfl, rfl, rfl, rfl, rfl, rfl, rfl, rfl, rfl, ⟨S20_small, sm _⟩, fun p h => ⟨S20_sch h.2, aV_ok h.1⟩, fun _ => ⟨⟨aV (some ⟨b, s + 0, none⟩, 1, 1), aV (some ⟨b, s + 0, none⟩, 1, 1)⟩, rfl, rfl, rfl, rfl, rfl, rfl, rfl, rfl, rfl, rfl, rfl, rfl, rfl, rfl, rfl, rfl, rfl, rfl, ⟨sm _, sm _⟩, fun p h => ⟨aV_ok h.1, aV_ok h.1⟩, fun _ => ⟨⟨aV (some ⟨b, s + 0, none⟩, 1, 1), zV⟩, rfl, rfl, rfl, rfl, rfl, rfl, rfl, rfl, rfl, rfl, rfl, rfl, rfl, rfl, rfl, rfl, rfl, rfl, ⟨sm _, zP_sm⟩, fun p h => ⟨aV_ok h.1, zV_ok p⟩, ?_⟩, ?_⟩, ?_⟩, ?_⟩
  all_goals simp [aV_pv, hs1, aP_same, aP_fit, aP_fit0, aP_dp, aP_nu]
theorem lawAA_ok : CtOK P 3 cLawAA := by
  refine ask_okX mixed (ctTab_ok (forall_tab begun20_ok (forall_tab light_ok (forall_tab made_ok (forall_tab fits_fin (forall_tab fitsR_fin (forall_tab szA_fin (forall_tab szR_fin (forall_tab same_fin (forall_tab smR_fin nil_tab)))))))))) (rlTab_ok (forall_rel avro_ok nil_rel)) (W := wLawAA) Try.func3 (by kernel_rfl) (show 1 ≤ 1 by decide) (show 1 ≤ 1 by decide) (fun s => by kernel_rfl) fun ⟨(x : SV), L, v, w, (t : Int)⟩ => (lawAA_eq x L v w t).mpr ?_
  rintro ⟨hL, hbs, hv, hw⟩ ⟨p, _, hx, hpv, hpw⟩
  have hxl : x.2.1 = L.length := hx.1
  simp only [decide_eq_true_eq, decide_eq_false_iff_not, Bool.not_eq_true', Bool.not_eq_false', true_and, and_true, eq_self, imp_self, implies_true, exists_const, Int.toNat_natCast]
  refine fun h120 => ⟨v, rfl, rfl, rfl, rfl, rfl, rfl, rfl, rfl, rfl, hv, fun q hq => hq.2.1, fun hc => ⟨w, rfl, rfl, rfl, rfl, rfl, rfl, rfl, rfl, rfl, hw, fun q hq => hq.2.2, fun hcw => ⟨x, rfl, rfl, rfl, ⟨x, L, 0⟩, rfl, rfl, rfl, rfl, ⟨by show (0 : Int) ≤ 0; decide, by show (0 : Int) ≤ _; omega, by omega, hbs⟩, fun q hq => hq.1, ?_⟩⟩⟩
  rintro ⟨S, y, b, n'⟩ ⟨hS, hne, -, -⟩ _
  refine fun hb => ⟨⟨⟨0, S, y⟩, rfl, rfl, rfl, rfl, fun q hq => hq.2, hS, Nat.zero_le _⟩, ?_⟩
  rintro ⟨j, S2, y2⟩ ⟨hS2, hj⟩ ⟨p2, hp2, hs2⟩
  dsimp only at hS2 hj hs2 ⊢
  have hyl : y2.2.1 = S2.length := hs2.1.1
  have h60 := hS2.1
  refine ⟨fun hle => ⟨⟨S2, y2, (j : Int) - 1, v⟩, rfl, rfl, rfl, rfl, rfl, rfl, rfl, rfl, rfl, rfl, rfl, rfl, rfl, ⟨good_small hS2, hv.1⟩, fun q hq => ⟨hq.2, hq.1.1.2.1⟩, ⟨S2, y2, (j : Int) - 1, v⟩, rfl, rfl, rfl, rfl, rfl, rfl, rfl, rfl, rfl, rfl, rfl, rfl, rfl, ⟨good_small hS2, good_kinds hS2, hv.1⟩, fun q hq => ⟨hq.2, hq.1.1.2.1⟩, fun hne => absurd rfl hne, fun _ => ⟨⟨by omega, by omega⟩, ⟨j + 1, S2, y2⟩, (by show ((j + 1 : Nat) : Int) - 1 = _; omega), rfl, rfl, rfl, fun q hq => hq.1, fun q hq => hq.2, ⟨hS2, by show j + 1 ≤ S2.length + 2; omega⟩, by show S2.length + 2 - (j + 1) < S2.length + 2 - j; omega⟩⟩, fun hgt => ⟨v, rfl, rfl, rfl, rfl, rfl, rfl, rfl, rfl, rfl, hv, fun q hq => hq.1.1.2.1, v, rfl, rfl, rfl, rfl, rfl, rfl, rfl, rfl, rfl, hv, fun q hq => hq.1.1.2.1, ⟨S2, y2, t, w⟩, rfl, rfl, rfl, rfl, rfl, rfl, rfl, rfl, rfl, rfl, rfl, rfl, rfl, ⟨good_small hS2, hw.1⟩, fun q hq => ⟨hq.2, hq.1.1.2.2⟩, ⟨S2, y2, t, w⟩, rfl, rfl, rfl, rfl, rfl, rfl, rfl, rfl, rfl, rfl, rfl, rfl, rfl, ⟨good_small hS2, good_kinds hS2, hw.1⟩, fun q hq => ⟨hq.2, hq.1.1.2.2⟩, ?_⟩⟩
  refine ⟨fun _ => ⟨⟨v, w⟩, rfl, rfl, rfl, rfl, rfl, rfl, rfl, rfl, rfl, rfl, rfl, rfl, rfl, rfl, rfl, rfl, rfl, rfl, ⟨hv.1, hw.1⟩, fun q hq => hq.1.1.2, ⟨v, w⟩, rfl, rfl, rfl, rfl, rfl, rfl, rfl, rfl, rfl, rfl, rfl, rfl, rfl, rfl, rfl, rfl, rfl, rfl, ⟨hv.1, hw.1⟩, fun q hq => hq.1.1.2, fun _ => ⟨fun _ => ⟨⟨v, v⟩, rfl, rfl, rfl, rfl, rfl, rfl, rfl, rfl, rfl, rfl, rfl, rfl, rfl, rfl, rfl, rfl, rfl, rfl, ⟨hv.1, hv.1⟩, fun q hq => ⟨hq.1.1.2.1, hq.1.1.2.1⟩, ?_⟩, fun h => absurd rfl h⟩, fun h => absurd rfl h⟩, fun h => absurd rfl h⟩
  simp [same_refl]
abbrev blk {H : Type} (d : DataW H) : Nat := Rows.uptoBulk d
abbrev blks {H : Type} (l : List (DataW H)) : Nat := Rows.uptoBulkAll l
abbrev pubW (w : World) : Pub := PubF (fun _ b => b < w.heap.size) w
theorem cell_pub {w : World} {a : Addr} {v : Value} (h : w.cell? a = some v) : cellP (pubW w) a = some v ∧ a.spot = none := by
  unfold World.cell? at h
  cases ho : w.heap[a.block]? with
  | none => rw [ho] at h; cases h
  | some o =>
    have hlt : a.block < w.heap.size := (Array.getElem?_eq_some_iff.1 ho).1
    have hp : pubW w a.block = some o := PubF_some.2 ⟨hlt, ho⟩
    rw [ho] at h
    unfold cellP
    rw [hp]
    cases o <;> simp only at h <;> first | cases h | skip
    cases hs : a.spot with
    | none => rw [hs] at h; simp [cellO, hs] at h ⊢; exact h
    | some k => rw [hs] at h; simp at h
theorem cells_pub {w : World} {base : Nat} {a : Addr} {n : Nat} {cs : List Value} (h : w.cells? base a n = some cs) : cs.length = n ∧ cellsP (pubW w) a cs ∧ (0 < n → a.spot = none) := by
  obtain ⟨_, h1, h2⟩ := World.cells?_some h
  refine ⟨h1, fun j v hj => ?_, fun hn => ?_⟩
  · have hjn : j < n := by have := (List.getElem?_eq_some_iff.1 hj).1; omega
    exact (cell_pub ((h2 j hjn).trans hj)).1
  · have hj : cs[0]? = some cs[0] := List.getElem?_eq_getElem (by omega)
    have := (cell_pub ((h2 0 hn).trans hj)).2
    have e : a.add 0 = a := by unfold Addr.add; rw [if_pos rfl]
    rw [e] at this; exact this
theorem cellsP_app {p : Pub} {a : Addr} {x y : List Value} (h1 : cellsP p a x) (h2 : cellsP p (a.add x.length) y) : cellsP p a (x ++ y) := fun j v hj => by
  by_cases hx : j < x.length
  · rw [List.getElem?_append_left hx] at hj; exact h1 j v hj
  · rw [List.getElem?_append_right (by omega)] at hj
    have := h2 _ v hj
    rw [Addr.add_add, show x.length + (j - x.length) = j by omega] at this; exact this
theorem rows_read {α : Type} {f : α → List Value} {p : Pub} {k : Nat} : ∀ (l : List α) (a : Addr), (∀ g ∈ l, (f g).length = k) → (∀ (i : Nat) (h : i < l.length), cellsP p (a.add (i * k)) (f l[i])) → cellsP p a (rowsV f l)
  | [], a, _, _ => fun j v hj => by simp [rowsV] at hj
  | g :: l, a, hf, h => by
    have h0 := h 0 (by simp)
    have e : a.add (0 * k) = a := by unfold Addr.add; rw [if_pos (by omega)]
    rw [e] at h0
    show cellsP p a (f g ++ rowsV f l)
    refine cellsP_app h0 ?_
    rw [hf g List.mem_cons_self]
    refine rows_read l (a.add k) (fun g hg => hf g (List.mem_cons_of_mem _ hg)) fun i hi => ?_
    have := h (i + 1) (by simp; omega)
    rw [Addr.add_add, show k + i * k = (i + 1) * k by rw [Nat.succ_mul]; omega]
    simpa using this
theorem list_of {α : Type} {p : Nat → α → Prop} : ∀ (n : Nat), (∀ i, i < n → ∃ g, p i g) → ∃ l : List α, l.length = n ∧ ∀ (i : Nat) (h : i < l.length), p i l[i]
  | 0, _ => ⟨[], rfl, fun i h => by simp at h⟩
  | n + 1, h => by
    obtain ⟨l, hl, hp⟩ := list_of n fun i hi => h i (by omega)
    obtain ⟨g, hg⟩ := h n (by omega)
    refine ⟨l ++ [g], by simp [hl], fun i hi => ?_⟩
    by_cases hil : i < l.length
    · rw [List.getElem_append_left hil]; exact hp i hil
    · obtain rfl : i = n := by simp at hi; omega
      rw [List.getElem_append_right (by omega)]; simpa [hl] using hg
def sumI {α : Type} (b : α → Int) : List α → Int
  | [] => 0
  | g :: l => b g + sumI b l
theorem sum_le {α H : Type} {b : α → Int} : ∀ (l : List α) (ds : List (DataW H)), l.length = ds.length → (∀ (i : Nat) (h : i < l.length) (h2 : i < ds.length), b l[i] ≤ blk ds[i]) → sumI b l ≤ blks ds
  | [], [], _, _ => by simp [sumI, blks, Rows.uptoBulkAll]
  | g :: l, d :: ds, he, h => by
    have h0 := h 0 (by simp) (by simp)
    have ht := sum_le l ds (by simpa using he) fun i h1 h2 => h (i + 1) (Nat.succ_lt_succ h1) (Nat.succ_lt_succ h2)
    simp only [List.getElem_cons_zero] at h0
    simp only [sumI, blks, Rows.uptoBulkAll] at ht ⊢
    simp only [blk] at h0
    omega
theorem blk_le {H : Type} : ∀ {l : List (DataW H)} {d : DataW H}, d ∈ l → blk d ≤ blks l
  | x :: r, d, h => by
    simp only [blks, Rows.uptoBulkAll]
    cases List.mem_cons.1 h with
    | inl e => subst e; simp only [blk]; omega
    | inr e => have := blk_le e; simp only [blk, blks] at this ⊢; omega
section
variable {H : Type} {enc : TypeId × Value → H} {Q : Program} {w : World} {base : Nat} {spare : Nat → Bool} {held : Bool}
theorem row_of {α : Type} {f : α → List Value} {b : α → Int} {k n : Nat} (hk : 0 < k) {e t : TypeId} (hc : Q.cellsOf e = k) (ht : Q.underlying t = some (.slice e)) {G : α → Prop} {B : Nat}
    (hQ : ∀ cs x, DataW.trod enc Q w base spare held n e cs = some x → blk x.1 ≤ B → ∃ g : α, cs = f g ∧ G g ∧ b g ≤ blk x.1) {cs : List Value} {x : DataW H × List MemPlace} (h : DataW.trod enc Q w base spare held (n + 1) t cs = some x) (hB : blk x.1 ≤ B) :
    ∃ (s : SV) (l : List α), cs = [svV s] ∧ slP f s l (pubW w) ∧ (∀ g ∈ l, G g) ∧ sumI b l + 1 ≤ blk x.1 ∧ l.length + 1 ≤ blk x.1 := by
  rcases DataW.trod_slice ht h with ⟨rfl, rfl⟩ | ⟨a, len, cap, elems, rest, m, hm, rfl, rfl, hb, hl, hcap, hlen, hel, _, _⟩
  · exact ⟨(none, 0, 0), [], rfl, slP_nil, fun g hg => by simp at hg, by simp [sumI, blk, Rows.uptoBulk], by simp [blk, Rows.uptoBulk]⟩
  obtain rfl : n = m := by omega
  have hbl : blks (elems.map (·.1)) + 1 ≤ blk (DataW.slice (elems.map (·.1)) (rest.map (·.1))) := by
    simp only [blk, blks, Rows.uptoBulk]; omega
  have hB2 : blk (DataW.slice (elems.map (·.1)) (rest.map (·.1))) ≤ B := hB
  obtain ⟨l, hll, hl2⟩ := list_of (p := fun i (g : α) => w.cells? base (a.add (i * k)) k = some (f g) ∧ G g ∧ ∀ (h2 : i < elems.length), b g ≤ blk (elems[i]).1) len fun i hi => by
    have h1 := hel i hi
    rw [List.getElem?_eq_getElem (by omega), hc] at h1
    obtain ⟨cs', g1, g2⟩ := Option.bind_eq_some_iff.1 h1
    have hle : blk (elems[i]'(by omega)).1 ≤ B := by
      have := blk_le (l := elems.map (·.1)) (d := (elems[i]'(by omega)).1) (List.mem_map.2 ⟨_, List.getElem_mem _, rfl⟩)
      omega
    obtain ⟨g, rfl, hg, hbg⟩ := hQ _ _ g2 hle
    exact ⟨g, g1, hg, fun _ => hbg⟩
  have hlen1 : blks (elems.map (·.1)) ≥ len := by
    have : ∀ (ds : List (DataW H)), ds.length ≤ blks ds := fun ds => by
      induction ds with
      | nil => simp
      | cons d ds ih =>
        have : 1 ≤ blk d := by
          cases d with
          | lit l => cases l <;> simp [blk, Rows.uptoBulk]
          | nil => simp [blk, Rows.uptoBulk]
          | ptr d => simp [blk, Rows.uptoBulk]
          | slice elems spare => simp [blk, Rows.uptoBulk]
          | agg parts => simp [blk, Rows.uptoBulk]
          | iface t d => simp [blk, Rows.uptoBulk]
          | map entries => simp [blk, Rows.uptoBulk]
          | held h => simp [blk, Rows.uptoBulk]
        simp only [blk, blks, Rows.uptoBulkAll, List.length_cons] at this ih ⊢; omega
    have := this (elems.map (·.1)); rw [List.length_map] at this; omega
  refine ⟨(some a, len, cap), l, rfl, ⟨hll.symm, hl, ?_⟩, fun g hg => ?_, ?_, ?_⟩
  · by_cases h0 : l = []
    · subst h0; exact .inl ⟨rfl, trivial⟩
    · have hpos : 0 < l.length := List.length_pos_iff.2 h0
      have hp0 := (hl2 0 hpos).1
      have e0 : a.add (0 * k) = a := by unfold Addr.add; rw [if_pos (by omega)]
      rw [e0] at hp0
      refine .inr ⟨a, rfl, (cells_pub hp0).2.2 hk, rows_read l a (fun g hg => ?_) fun i hi => (cells_pub (hl2 i hi).1).2.1⟩
      obtain ⟨i, hi, rfl⟩ := List.getElem_of_mem hg
      exact (cells_pub (hl2 i hi).1).1
  · obtain ⟨i, hi, rfl⟩ := List.getElem_of_mem hg
    exact (hl2 i hi).2.1
  · have := sum_le (b := b) l (elems.map (·.1)) (by rw [List.length_map]; omega) fun i h1 h2 => by
      rw [List.getElem_map]; exact (hl2 i h1).2.2 (by omega)
    have h3 : blk ((DataW.slice (elems.map (·.1)) (rest.map (·.1)), MemPlace.row a ((elems.length + rest.length) * Q.cellsOf e) ++ (elems ++ rest).flatMap (·.2)) : DataW H × List MemPlace).1 = blk (DataW.slice (elems.map (·.1)) (rest.map (·.1))) := rfl
    rw [h3]; omega
  · have h3 : blk ((DataW.slice (elems.map (·.1)) (rest.map (·.1)), MemPlace.row a ((elems.length + rest.length) * Q.cellsOf e) ++ (elems ++ rest).flatMap (·.2)) : DataW H × List MemPlace).1 = blk (DataW.slice (elems.map (·.1)) (rest.map (·.1))) := rfl
    rw [h3]; omega
end
section
variable {H : Type} {enc : TypeId × Value → H} {Q : Program} {w : World} {base : Nat} {spare : Nat → Bool} {held : Bool}
open Go.ChangeShapes Go.WideShapes Go.Joins Go.Deep in
theorem open5 {t : TypeId} {n : Nat} {f0 f1 f2 f3 f4 : Field} {cs : List Value} {x : DataW H × List MemPlace} (hs : Q.underlying t = some (.struct #[f0, f1, f2, f3, f4])) (hone : oneCellFields Q #[f0, f1, f2, f3, f4] = true) (hC : Q.cellsOf t = 5) (h : DataW.trod enc Q w base spare held (n + 1) t cs = some x) :
    ∃ c0 c1 c2 c3 c4 y0 y1 y2 y3 y4, cs = [c0, c1, c2, c3, c4] ∧ blk x.1 = blk y0.1 + blk y1.1 + blk y2.1 + blk y3.1 + blk y4.1 + 1 ∧ DataW.trod enc Q w base spare held n f0.type [c0] = some y0 ∧ DataW.trod enc Q w base spare held n f1.type [c1] = some y1 ∧ DataW.trod enc Q w base spare held n f2.type [c2] = some y2 ∧ DataW.trod enc Q w base spare held n f3.type [c3] = some y3 ∧ DataW.trod enc Q w base spare held n f4.type [c4] = some y4 := by
  obtain ⟨xs, m, hm, rfl, hsz, hlen, hg⟩ := DataW.trod_struct hs h
  obtain rfl : n = m := by omega
  rw [hC] at hsz
  match cs, hsz with
  | [c0, c1, c2, c3, c4], _ =>
    obtain ⟨o0, k0⟩ := hone_of hone 0 f0 rfl
    obtain ⟨o1, k1⟩ := hone_of hone 1 f1 rfl
    obtain ⟨o2, k2⟩ := hone_of hone 2 f2 rfl
    obtain ⟨o3, k3⟩ := hone_of hone 3 f3 rfl
    obtain ⟨o4, k4⟩ := hone_of hone 4 f4 rfl
    match xs, hlen with
    | [y0, y1, y2, y3, y4], _ =>
      refine ⟨c0, c1, c2, c3, c4, y0, y1, y2, y3, y4, rfl, ?_, ?_, ?_, ?_, ?_, ?_⟩
      · simp only [blk, Rows.uptoBulk, Rows.uptoBulkAll, List.map_cons, List.map_nil]; omega
      · simpa [o0, k0] using hg 0 f0 rfl
      · simpa [o1, k1] using hg 1 f1 rfl
      · simpa [o2, k2] using hg 2 f2 rfl
      · simpa [o3, k3] using hg 3 f3 rfl
      · simpa [o4, k4] using hg 4 f4 rfl
theorem str_read {n : Nat} {t : TypeId} (ht : Q.underlying t = some .string) {B : Nat} : ∀ cs x, DataW.trod enc Q w base spare held n t cs = some x → blk x.1 ≤ B → ∃ s : ByteArray, cs = txV s ∧ s.size < 9223372036854775808 ∧ (1 : Int) ≤ blk x.1 := fun cs x h _ => by
  obtain ⟨s, rfl, rfl, hs⟩ := DataW.trod_string ht h
  exact ⟨s, rfl, by unfold maxLen at hs; omega, by simp [blk, Rows.uptoBulk]; omega⟩
theorem byte_read {n : Nat} {t : TypeId} (ht : Q.underlying t = some (.int .u8)) {B : Nat} : ∀ cs x, DataW.trod enc Q w base spare held n t cs = some x → blk x.1 ≤ B → ∃ i : Int, cs = byV i ∧ (0 ≤ i ∧ i < 256) ∧ (1 : Int) ≤ blk x.1 := fun cs x h _ => by
  obtain ⟨a, rfl, rfl, hw⟩ := DataW.trod_int ht h
  refine ⟨a, rfl, ?_, by simp [blk, Rows.uptoBulk]⟩
  simp only [Lit.wf, Bool.and_eq_true, decide_eq_true_eq] at hw
  have h1 : IntKind.min .u8 = 0 := by decide
  have h2 : IntKind.max .u8 = 255 := by decide
  omega
end
theorem sum_one {α : Type} : ∀ l : List α, sumI (fun _ => 1) l = (l.length : Int)
  | [] => rfl
  | g :: l => by rw [sumI, sum_one l, List.length_cons]; omega
theorem sum_cn : ∀ l : List GV, sumI (fun g => PV.cn g.pv) l = PV.cns (GV.pvs l)
  | [] => by rw [sumI, GV.pvs, PV.cns]
  | g :: l => by rw [sumI, GV.pvs, PV.cns, sum_cn l]
theorem oks_of : ∀ {l : List GV} {p : Pub}, (∀ g ∈ l, g.ok p) → GV.oks l p
  | [], p, h => by unfold GV.oks; trivial
  | g :: l, p, h => by unfold GV.oks; exact ⟨h g List.mem_cons_self, oks_of fun g hg => h g (List.mem_cons_of_mem _ hg)⟩
theorem sms_of : ∀ {l : List GV}, (∀ g ∈ l, g.pv.sm) → PV.sms (GV.pvs l)
  | [], h => by rw [GV.pvs]; unfold PV.sms; trivial
  | g :: l, h => by rw [GV.pvs]; unfold PV.sms; exact ⟨h g List.mem_cons_self, sms_of fun g hg => h g (List.mem_cons_of_mem _ hg)⟩
theorem gv_read {H : Type} {enc : TypeId × Value → H} {w : World} {base : Nat} {spare : Nat → Bool} {held : Bool} : ∀ (n : Nat) (cs : List Value) (x : DataW H × List MemPlace), DataW.trod enc P w base spare held n 27 cs = some x → blk x.1 ≤ 1500000 → ∃ g : GV, cs = g.cells ∧ (g.ok (pubW w) ∧ g.pv.sm) ∧ PV.cn g.pv ≤ blk x.1
  | 0, cs, x, h, _ => by simp [DataW.trod] at h
  | 1, cs, x, h, _ => by
    obtain ⟨_, _, _, _, _, y0, _, _, _, _, _, _, e0, _⟩ := open5 (Q := P) Try.underlying27 (by kernel_rfl) (by kernel_rfl) h
    simp [DataW.trod] at e0
  | m + 2, cs, x, h, hB => by
    obtain ⟨c0, c1, c2, c3, c4, y0, y1, y2, y3, y4, rfl, hb, e0, e1, e2, e3, e4⟩ := open5 (Q := P) Try.underlying27 (by kernel_rfl) (by kernel_rfl) h
    obtain ⟨a, ha, _, hw⟩ := DataW.trod_int Try.underlying23 e0
    obtain ⟨s, hs, _, hsz⟩ := DataW.trod_string Try.underlying9 e1
    obtain ⟨b, hbb, _, _⟩ := DataW.trod_int Try.underlying3 e4
    obtain ⟨X, l, hX, hl, hG, hsum, hlen⟩ := row_of (Q := P) (f := GV.cells) (b := fun g => PV.cn g.pv) (k := 5) (by decide) (by kernel_rfl) Try.underlying24 (G := fun g => g.ok (pubW w) ∧ g.pv.sm) (B := 1500000) (gv_read m) e2 (by omega)
    obtain ⟨Y, ks, hY, hks, hK, hsum2, hlen2⟩ := row_of (Q := P) (f := txV) (b := fun _ => 1) (k := 1) (by decide) (by kernel_rfl) Try.underlying25 (G := fun s => s.size < 9223372036854775808) (B := 1500000) (str_read Try.underlying9) e3 (by omega)
    simp only [List.cons.injEq, and_true] at ha hs hbb hX hY
    subst ha hs hbb hX hY
    rw [sum_one] at hsum2
    rw [sum_cn] at hsum
    refine ⟨.mk a s X l Y ks b, rfl, ⟨?_, ?_⟩, ?_⟩
    · unfold GV.ok; exact ⟨hl, hks, oks_of fun g hg => (hG g hg).1⟩
    · rw [GV.sm_eq]
      have hw2 : 0 ≤ a ∧ a < 18446744073709551616 := by
        simp only [Lit.wf, Bool.and_eq_true, decide_eq_true_eq] at hw
        have h1 : IntKind.min .u64 = 0 := by decide
        have h2 : IntKind.max .u64 = 18446744073709551615 := by decide
        omega
      exact ⟨hw2, by show s.size < _; unfold maxLen at hsz; omega, by show l.length < _; omega, by show ks.length < _; omega, hK, sms_of fun g hg => (hG g hg).2⟩
    · have hc := cn_v (.mk a s X l Y ks b)
      rw [hc]
      show 1 + (ks.length : Int) + PV.cns (GV.pvs l) ≤ _
      omega
theorem law_of2 {f : Nat} {C : Ct} (h : CtOK P f C) (s : C.σ) (vs : List Value) (ha : ∀ I, VRs I (C.args s) vs) (hh : C.h s = []) (r : Value) (hr : C.r s = .sv r) (w : World) (hp : C.pre s) (hm : (C.mem s).ok (pubW w)) :
    Calls P f ⟨vs⟩ w fun e w' => e = .returned r ∧ Below w.heap.size w w' := by
  obtain ⟨h1, h2, _, h4⟩ := h
  obtain ⟨h0, h1', e1, e2, h5⟩ := h4 s
  rw [hh] at e1
  cases e1
  refine (h5 (fun _ b => b < w.heap.size) (fun i => if i = 0 then some (0, 0, 0) else none) w vs (ha _) ⟨fun id o b t h => ?_, fun id id' o o' b t t' h => ?_, fun id o b t h => ?_⟩ (fun _ h => h) (fun _ h => h) hp hm (fun i hi => if_neg (by omega)) (if_pos rfl)).mono fun e w' he => ?_
  · rw [T.get_e] at h; cases h
  · rw [T.get_e] at h; cases h
  · rw [T.get_e] at h; cases h
  obtain ⟨z, I', rfl, hz, hg, _⟩ := he
  rw [hr] at hz
  cases hz
  exact ⟨rfl, ⟨hg.same.1, hg.same.2, hg.same.3, hg.size, fun k hk => hg.fr k hk⟩⟩
theorem gv_vr (I : In) (v : GV) : VR I v.av (.agg ⟨v.cells⟩) := .agg (VRs.svs v.cells)
theorem aval_law_wf (x : SV) (L : List Int) (v w : GV) (t : Int) (W : World) (hx : slP byV x L (pubW W)) (hL : L.length < 4611686018427387904) (hb : ∀ b ∈ L, 0 ≤ b ∧ b < 256) (hv : vLt v) (hw : vLt w) (hvo : v.ok (pubW W)) (hwo : w.ok (pubW W)) : Calls P 3 #[svV x, .agg ⟨v.cells⟩, .agg ⟨w.cells⟩, .int .i64 t] W fun e w' => e = .returned (.bool true) ∧ Below W.heap.size W w' :=
  law_of2 lawAA_ok ⟨x, L, v, w, t⟩ [svV x, .agg ⟨v.cells⟩, .agg ⟨w.cells⟩, .int .i64 t] (fun I => .cons (.sv _) (.cons (gv_vr I v) (.cons (gv_vr I w) (.cons (.sv _) .nil)))) rfl (.bool true) rfl W ⟨hL, hb, hv, hw⟩ ⟨hx, hvo, hwo⟩
end
end Go.Proofs.Ytabfjgbidbibgaa.Wd
