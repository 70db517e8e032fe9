/-
  Calls of proclitic/procliticlaw8.PfileForms, one by one, by the machine. No condition.
-/
import Derived.Test.YtdbkjlacdeapfaaDoorPf
namespace Go.Proofs.YtdbkjlacdeapfaaDoor
open Go.RowKit
namespace Pf
open Eng
set_option linter.unusedVariables false
set_option maxRecDepth 1000000
set_option maxHeartbeats 0
/-- A call of proclitic/pfile.Parse. -/
noncomputable def Mfm35 : Memo := { f := nat_lit 5, args := [.str [nat_lit 115, nat_lit 121, nat_lit 110, nat_lit 116, nat_lit 97, nat_lit 120, nat_lit 61, nat_lit 39, nat_lit 112, nat_lit 114, nat_lit 111, nat_lit 116, nat_lit 111, nat_lit 51, nat_lit 39, nat_lit 59, nat_lit 109, nat_lit 101, nat_lit 115, nat_lit 115, nat_lit 97, nat_lit 103, nat_lit 101, nat_lit 32, nat_lit 65, nat_lit 32, nat_lit 123, nat_lit 32, nat_lit 105, nat_lit 110, nat_lit 116, nat_lit 51, nat_lit 50, nat_lit 32, nat_lit 109, nat_lit 101, nat_lit 115, nat_lit 115, nat_lit 97, nat_lit 103, nat_lit 101, nat_lit 32, nat_lit 61, nat_lit 32, nat_lit 49, nat_lit 59, nat_lit 32, nat_lit 125]], hin := (.n .e (some gw0) .e), nx := nat_lit 2832, r := .tup [.agg [.str [], .nsl, .gsl (nat_lit 2933) (nat_lit 0) (nat_lit 1) (nat_lit 7), .nsl], .int .i64 (.ofNat (nat_lit 0)), .int .i64 (.ofNat (nat_lit 0))], hout := (.n (.n (.n .e none (.n (.n .e none (.n .e none (.n .e none (.n (.n .e none (.n .e none (.n (.n .e (some (.cells (nat_lit 39) (some (nat_lit 0)) true [.int .i64 (.ofNat (nat_lit 0)), .str [nat_lit 105, nat_lit 110, nat_lit 116, nat_lit 51, nat_lit 50], .str [], .str [nat_lit 109, nat_lit 101, nat_lit 115, nat_lit 115, nat_lit 97, nat_lit 103, nat_lit 101], .int .u64 (.ofNat (nat_lit 1)), .int .i64 (.ofNat (nat_lit 0)), .int .i64 (.ofNat (nat_lit 0))])) .e) none .e))) none .e)))) none .e)) none (.n .e none (.n (.n .e none (.n .e none (.n .e none (.n (.n .e none (.n .e none (.n (.n .e (some (.cells (nat_lit 36) (some (nat_lit 0)) true [.str [nat_lit 65], .gsl (nat_lit 2931) (nat_lit 0) (nat_lit 1) (nat_lit 7), .nsl, .nsl, .nsl, .nsl, .nsl])) .e) none .e))) none .e)))) none .e))) (some gw0) .e), nx' := nat_lit 2934 }
noncomputable def Mfw35 : CallF → CallF := fun c => callS [] c
theorem Mfm35_run : memoRun (callG Tryd.prog exts gl Mfw35 100) Mfm35 = true := by decide +kernel
theorem Mfm35_ok : MemoOK gl Tryd.prog Mfm35 := memo_of_run (callF_ok mixed exts_ok (noNum_ok nums) Mfw35 (fun _ h => callS_ok h _ (fun _ h => by cases h)) 100) Mfm35_run
/-- A call of proclitic/pfile.Parse. -/
noncomputable def Mfm36 : Memo := { f := nat_lit 5, args := [.str [nat_lit 115, nat_lit 121, nat_lit 110, nat_lit 116, nat_lit 97, nat_lit 120, nat_lit 61, nat_lit 39, nat_lit 112, nat_lit 114, nat_lit 111, nat_lit 116, nat_lit 111, nat_lit 51, nat_lit 39, nat_lit 59, nat_lit 109, nat_lit 101, nat_lit 115, nat_lit 115, nat_lit 97, nat_lit 103, nat_lit 101, nat_lit 32, nat_lit 65, nat_lit 32, nat_lit 123, nat_lit 32, nat_lit 114, nat_lit 101, nat_lit 113, nat_lit 117, nat_lit 105, nat_lit 114, nat_lit 101, nat_lit 100, nat_lit 32, nat_lit 105, nat_lit 110, nat_lit 116, nat_lit 51, nat_lit 50, nat_lit 32, nat_lit 98, nat_lit 32, nat_lit 61, nat_lit 32, nat_lit 49, nat_lit 59, nat_lit 32, nat_lit 125]], hin := (.n .e (some gw0) .e), nx := nat_lit 2935, r := .tup [.agg [.str [], .nsl, .nsl, .nsl], .int .i64 (.ofNat (nat_lit 2)), .int .i64 (.ofNat (nat_lit 43))], hout := (.n .e (some gw0) .e), nx' := nat_lit 3042 }
noncomputable def Mfw36 : CallF → CallF := fun c => callS [] c
theorem Mfm36_run : memoRun (callG Tryd.prog exts gl Mfw36 100) Mfm36 = true := by decide +kernel
theorem Mfm36_ok : MemoOK gl Tryd.prog Mfm36 := memo_of_run (callF_ok mixed exts_ok (noNum_ok nums) Mfw36 (fun _ h => callS_ok h _ (fun _ h => by cases h)) 100) Mfm36_run
/-- A call of proclitic/pfile.Parse. -/
noncomputable def Mfm37 : Memo := { f := nat_lit 5, args := [.str [nat_lit 115, nat_lit 121, nat_lit 110, nat_lit 116, nat_lit 97, nat_lit 120, nat_lit 32, nat_lit 61, nat_lit 32, nat_lit 39, nat_lit 112, nat_lit 114, nat_lit 111, nat_lit 116, nat_lit 111, nat_lit 50, nat_lit 39, nat_lit 59]], hin := (.n .e (some gw0) .e), nx := nat_lit 3043, r := .tup [.agg [.str [], .nsl, .nsl, .nsl], .int .i64 (.ofNat (nat_lit 2)), .int .i64 (.ofNat (nat_lit 9))], hout := (.n .e (some gw0) .e), nx' := nat_lit 3083 }
noncomputable def Mfw37 : CallF → CallF := fun c => callS [] c
theorem Mfm37_run : memoRun (callG Tryd.prog exts gl Mfw37 100) Mfm37 = true := by decide +kernel
theorem Mfm37_ok : MemoOK gl Tryd.prog Mfm37 := memo_of_run (callF_ok mixed exts_ok (noNum_ok nums) Mfw37 (fun _ h => callS_ok h _ (fun _ h => by cases h)) 100) Mfm37_run
end Pf
end Go.Proofs.YtdbkjlacdeapfaaDoor
