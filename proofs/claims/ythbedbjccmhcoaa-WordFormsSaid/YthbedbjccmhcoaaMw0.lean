/-
  Calls of proclitic/procliticlaw7.WordForms, one by one, by the machine. No condition.
-/
import Derived.Test.YthbedbjccmhcoaaWf
namespace Go.Proofs.Ythbedbjccmhcoaa
open Go.RowKit
namespace Wf
open Eng
set_option linter.unusedVariables false
set_option maxRecDepth 1000000
set_option maxHeartbeats 0
/-- A call of proclitic/word.Lex. -/
noncomputable def Mwm0 : Memo := { f := nat_lit 10, args := [.str [nat_lit 49, nat_lit 56, nat_lit 52, nat_lit 52, nat_lit 54, nat_lit 55, nat_lit 52, nat_lit 52, nat_lit 48, nat_lit 55, nat_lit 51, nat_lit 55, nat_lit 48, nat_lit 57, nat_lit 53, nat_lit 53, nat_lit 49, nat_lit 54, nat_lit 49, nat_lit 53]], hin := (.n .e (some gw0) .e), nx := nat_lit 119, r := .tup [.gsl (nat_lit 128) (nat_lit 0) (nat_lit 2) (nat_lit 4), .int .i64 (.ofNat (nat_lit 0)), .int .i64 (.ofNat (nat_lit 0))], hout := (.n .e (some gw0) (.n (.n (.n (.n (.n (.n (.n .e (some (.cells (nat_lit 37) (some (nat_lit 0)) true [.int .i64 (.ofNat (nat_lit 2)), .str [], .int .u64 (.ofNat (nat_lit 18446744073709551615)), .int .i64 (.ofNat (nat_lit 0)), .int .i64 (.ofNat (nat_lit 5)), .str [], .int .u64 (.ofNat (nat_lit 0)), .int .i64 (.ofNat (nat_lit 20))])) .e) none .e) none .e) none .e) none .e) none .e) none .e)), nx' := nat_lit 129 }
noncomputable def Mww0 : CallF → CallF := fun c => callS [] (Wx.idxW c)
theorem Mwm0_run : memoRun (callH Try.prog exts gl Mww0 100) Mwm0 = true := by decide +kernel
theorem Mwm0_ok : MemoOK gl Try.prog Mwm0 := memo_of_run (callH_ok mixed exts_ok (noNum_ok nums) Mww0 (fun _ h => callS_ok (Wx.idxW_ok h) _ (fun _ h => by cases h)) 100) (by kernel_rfl) Mwm0_run
/-- A call of proclitic/word.Lex. -/
noncomputable def Mwm1 : Memo := { f := nat_lit 10, args := [.str [nat_lit 49, nat_lit 56, nat_lit 52, nat_lit 52, nat_lit 54, nat_lit 55, nat_lit 52, nat_lit 52, nat_lit 48, nat_lit 55, nat_lit 51, nat_lit 55, nat_lit 48, nat_lit 57, nat_lit 53, nat_lit 53, nat_lit 49, nat_lit 54, nat_lit 49, nat_lit 54]], hin := (.n .e (some gw0) .e), nx := nat_lit 129, r := .tup [.nsl, .int .i64 (.ofNat (nat_lit 3)), .int .i64 (.ofNat (nat_lit 0))], hout := (.n .e (some gw0) .e), nx' := nat_lit 133 }
noncomputable def Mww1 : CallF → CallF := fun c => callS [] (Wx.idxW c)
theorem Mwm1_run : memoRun (callH Try.prog exts gl Mww1 100) Mwm1 = true := by decide +kernel
theorem Mwm1_ok : MemoOK gl Try.prog Mwm1 := memo_of_run (callH_ok mixed exts_ok (noNum_ok nums) Mww1 (fun _ h => callS_ok (Wx.idxW_ok h) _ (fun _ h => by cases h)) 100) (by kernel_rfl) Mwm1_run
/-- A call of proclitic/word.Lex. -/
noncomputable def Mwm2 : Memo := { f := nat_lit 10, args := [.str [nat_lit 49, nat_lit 56, nat_lit 52, nat_lit 52, nat_lit 54, nat_lit 55, nat_lit 52, nat_lit 52, nat_lit 48, nat_lit 55, nat_lit 51, nat_lit 55, nat_lit 48, nat_lit 57, nat_lit 53, nat_lit 53, nat_lit 49, nat_lit 54, nat_lit 49, nat_lit 54, nat_lit 97]], hin := (.n .e (some gw0) .e), nx := nat_lit 133, r := .tup [.nsl, .int .i64 (.ofNat (nat_lit 3)), .int .i64 (.ofNat (nat_lit 0))], hout := (.n .e (some gw0) .e), nx' := nat_lit 137 }
noncomputable def Mww2 : CallF → CallF := fun c => callS [] (Wx.idxW c)
theorem Mwm2_run : memoRun (callH Try.prog exts gl Mww2 100) Mwm2 = true := by decide +kernel
theorem Mwm2_ok : MemoOK gl Try.prog Mwm2 := memo_of_run (callH_ok mixed exts_ok (noNum_ok nums) Mww2 (fun _ h => callS_ok (Wx.idxW_ok h) _ (fun _ h => by cases h)) 100) (by kernel_rfl) Mwm2_run
/-- A call of proclitic/word.Lex. -/
noncomputable def Mwm3 : Memo := { f := nat_lit 10, args := [.str [nat_lit 123, nat_lit 125, nat_lit 40, nat_lit 41, nat_lit 91, nat_lit 93, nat_lit 61, nat_lit 59, nat_lit 44, nat_lit 60, nat_lit 62, nat_lit 45]], hin := (.n .e (some gw0) .e), nx := nat_lit 241, r := .tup [.gsl (nat_lit 305) (nat_lit 0) (nat_lit 13) (nat_lit 4), .int .i64 (.ofNat (nat_lit 0)), .int .i64 (.ofNat (nat_lit 0))], hout := (.n (.n .e none (.n (.n (.n .e none (.n .e none (.n (.n (.n .e (some (.cells (nat_lit 37) (some (nat_lit 0)) true [.int .i64 (.ofNat (nat_lit 4)), .str [nat_lit 123], .int .u64 (.ofNat (nat_lit 0)), .int .i64 (.ofNat (nat_lit 0)), .int .i64 (.ofNat (nat_lit 4)), .str [nat_lit 125], .int .u64 (.ofNat (nat_lit 0)), .int .i64 (.ofNat (nat_lit 1)), .int .i64 (.ofNat (nat_lit 4)), .str [nat_lit 40], .int .u64 (.ofNat (nat_lit 0)), .int .i64 (.ofNat (nat_lit 2)), .int .i64 (.ofNat (nat_lit 4)), .str [nat_lit 41], .int .u64 (.ofNat (nat_lit 0)), .int .i64 (.ofNat (nat_lit 3)), .int .i64 (.ofNat (nat_lit 4)), .str [nat_lit 91], .int .u64 (.ofNat (nat_lit 0)), .int .i64 (.ofNat (nat_lit 4)), .int .i64 (.ofNat (nat_lit 4)), .str [nat_lit 93], .int .u64 (.ofNat (nat_lit 0)), .int .i64 (.ofNat (nat_lit 5)), .int .i64 (.ofNat (nat_lit 4)), .str [nat_lit 61], .int .u64 (.ofNat (nat_lit 0)), .int .i64 (.ofNat (nat_lit 6)), .int .i64 (.ofNat (nat_lit 4)), .str [nat_lit 59], .int .u64 (.ofNat (nat_lit 0)), .int .i64 (.ofNat (nat_lit 7)), .int .i64 (.ofNat (nat_lit 4)), .str [nat_lit 44], .int .u64 (.ofNat (nat_lit 0)), .int .i64 (.ofNat (nat_lit 8)), .int .i64 (.ofNat (nat_lit 4)), .str [nat_lit 60], .int .u64 (.ofNat (nat_lit 0)), .int .i64 (.ofNat (nat_lit 9)), .int .i64 (.ofNat (nat_lit 4)), .str [nat_lit 62], .int .u64 (.ofNat (nat_lit 0)), .int .i64 (.ofNat (nat_lit 10)), .int .i64 (.ofNat (nat_lit 4)), .str [nat_lit 45], .int .u64 (.ofNat (nat_lit 0)), .int .i64 (.ofNat (nat_lit 11)), .int .i64 (.ofNat (nat_lit 5)), .str [], .int .u64 (.ofNat (nat_lit 0)), .int .i64 (.ofNat (nat_lit 12))])) .e) none .e) none .e))) none .e) none .e)) (some gw0) .e), nx' := nat_lit 306 }
noncomputable def Mww3 : CallF → CallF := fun c => callS [] (Wx.idxW c)
theorem Mwm3_run : memoRun (callH Try.prog exts gl Mww3 100) Mwm3 = true := by decide +kernel
theorem Mwm3_ok : MemoOK gl Try.prog Mwm3 := memo_of_run (callH_ok mixed exts_ok (noNum_ok nums) Mww3 (fun _ h => callS_ok (Wx.idxW_ok h) _ (fun _ h => by cases h)) 100) (by kernel_rfl) Mwm3_run
/-- A call of proclitic/word.Lex. -/
noncomputable def Mwm4 : Memo := { f := nat_lit 10, args := [.str [nat_lit 39, nat_lit 92, nat_lit 110, nat_lit 92, nat_lit 39, nat_lit 92, nat_lit 92, nat_lit 39, nat_lit 32, nat_lit 46, nat_lit 97, nat_lit 46, nat_lit 98, nat_lit 32, nat_lit 48, nat_lit 49, nat_lit 55]], hin := (.n .e (some gw0) .e), nx := nat_lit 326, r := .tup [.gsl (nat_lit 352) (nat_lit 0) (nat_lit 4) (nat_lit 4), .int .i64 (.ofNat (nat_lit 0)), .int .i64 (.ofNat (nat_lit 0))], hout := (.n .e (some gw0) (.n (.n (.n (.n (.n .e none (.n .e none (.n (.n .e (some (.cells (nat_lit 37) (some (nat_lit 0)) true [.int .i64 (.ofNat (nat_lit 3)), .str [nat_lit 10, nat_lit 39, nat_lit 92], .int .u64 (.ofNat (nat_lit 0)), .int .i64 (.ofNat (nat_lit 0)), .int .i64 (.ofNat (nat_lit 1)), .str [nat_lit 46, nat_lit 97, nat_lit 46, nat_lit 98], .int .u64 (.ofNat (nat_lit 0)), .int .i64 (.ofNat (nat_lit 9)), .int .i64 (.ofNat (nat_lit 2)), .str [], .int .u64 (.ofNat (nat_lit 15)), .int .i64 (.ofNat (nat_lit 14)), .int .i64 (.ofNat (nat_lit 5)), .str [], .int .u64 (.ofNat (nat_lit 0)), .int .i64 (.ofNat (nat_lit 17))])) .e) none .e))) none .e) none .e) none .e) none .e)), nx' := nat_lit 353 }
noncomputable def Mww4 : CallF → CallF := fun c => callS [] (Wx.idxW c)
theorem Mwm4_run : memoRun (callH Try.prog exts gl Mww4 100) Mwm4 = true := by decide +kernel
theorem Mwm4_ok : MemoOK gl Try.prog Mwm4 := memo_of_run (callH_ok mixed exts_ok (noNum_ok nums) Mww4 (fun _ h => callS_ok (Wx.idxW_ok h) _ (fun _ h => by cases h)) 100) (by kernel_rfl) Mwm4_run
end Wf
end Go.Proofs.Ythbedbjccmhcoaa
