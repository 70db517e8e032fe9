/-
  Calls of proclitic/procliticlaw6.JsonForms, one by one, by the machine. No condition.
-/
import Derived.Test.YtdecogndpnghkaaDoorJs
namespace Go.Proofs.YtdecogndpnghkaaDoor
open Go.RowKit
namespace Js
open Eng
set_option linter.unusedVariables false
set_option maxRecDepth 1000000
set_option maxHeartbeats 0
/-- A call of proclitic/json.Parse. -/
noncomputable def Mjm0 : Memo := { f := nat_lit 8, args := [.str [nat_lit 57, nat_lit 50, nat_lit 50, nat_lit 51, nat_lit 51, nat_lit 55, nat_lit 50, nat_lit 48, nat_lit 51, nat_lit 54, nat_lit 56, nat_lit 53, nat_lit 52, nat_lit 55, nat_lit 55, nat_lit 53, nat_lit 56, nat_lit 48, nat_lit 55]], hin := (.n (.n .e (some gw1) .e) none (.n .e (some gw2) .e)), nx := nat_lit 182, r := .tup [.agg [.int .i64 (.ofNat (nat_lit 3)), .int .i64 (.ofNat (nat_lit 9223372036854775807)), .str [], .nsl, .nsl], .int .i64 (.ofNat (nat_lit 0))], hout := (.n (.n .e (some gw1) .e) none (.n .e (some gw2) .e)), nx' := nat_lit 187 }
noncomputable def Mjw0 : CallF → CallF := fun c => callS [] c
theorem Mjm0_run : memoRun (callG Tryd.prog exts gl Mjw0 100) Mjm0 = true := by decide +kernel
theorem Mjm0_ok : MemoOK gl Tryd.prog Mjm0 := memo_of_run (callF_ok mixed exts_ok (noNum_ok nums) Mjw0 (fun _ h => callS_ok h _ (fun _ h => by cases h)) 100) Mjm0_run
/-- A call of proclitic/json.Parse. -/
noncomputable def Mjm1 : Memo := { f := nat_lit 8, args := [.str [nat_lit 57, nat_lit 50, nat_lit 50, nat_lit 51, nat_lit 51, nat_lit 55, nat_lit 50, nat_lit 48, nat_lit 51, nat_lit 54, nat_lit 56, nat_lit 53, nat_lit 52, nat_lit 55, nat_lit 55, nat_lit 53, nat_lit 56, nat_lit 48, nat_lit 56]], hin := (.n (.n .e (some gw1) .e) none (.n .e (some gw2) .e)), nx := nat_lit 188, r := .tup [.agg [.int .i64 (.ofNat (nat_lit 0)), .int .i64 (.ofNat (nat_lit 0)), .str [], .nsl, .nsl], .int .i64 (.ofNat (nat_lit 2))], hout := (.n (.n .e (some gw1) .e) none (.n .e (some gw2) .e)), nx' := nat_lit 195 }
noncomputable def Mjw1 : CallF → CallF := fun c => callS [] c
theorem Mjm1_run : memoRun (callG Tryd.prog exts gl Mjw1 100) Mjm1 = true := by decide +kernel
theorem Mjm1_ok : MemoOK gl Tryd.prog Mjm1 := memo_of_run (callF_ok mixed exts_ok (noNum_ok nums) Mjw1 (fun _ h => callS_ok h _ (fun _ h => by cases h)) 100) Mjm1_run
/-- A call of proclitic/json.Parse. -/
noncomputable def Mjm2 : Memo := { f := nat_lit 8, args := [.str [nat_lit 45, nat_lit 57, nat_lit 50, nat_lit 50, nat_lit 51, nat_lit 51, nat_lit 55, nat_lit 50, nat_lit 48, nat_lit 51, nat_lit 54, nat_lit 56, nat_lit 53, nat_lit 52, nat_lit 55, nat_lit 55, nat_lit 53, nat_lit 56, nat_lit 48, nat_lit 56]], hin := (.n (.n .e (some gw1) .e) none (.n .e (some gw2) .e)), nx := nat_lit 196, r := .tup [.agg [.int .i64 (.ofNat (nat_lit 3)), .int .i64 (.negSucc (nat_lit 9223372036854775807)), .str [], .nsl, .nsl], .int .i64 (.ofNat (nat_lit 0))], hout := (.n (.n .e (some gw1) .e) none (.n .e (some gw2) .e)), nx' := nat_lit 201 }
noncomputable def Mjw2 : CallF → CallF := fun c => callS [] c
theorem Mjm2_run : memoRun (callG Tryd.prog exts gl Mjw2 100) Mjm2 = true := by decide +kernel
theorem Mjm2_ok : MemoOK gl Tryd.prog Mjm2 := memo_of_run (callF_ok mixed exts_ok (noNum_ok nums) Mjw2 (fun _ h => callS_ok h _ (fun _ h => by cases h)) 100) Mjm2_run
/-- A call of proclitic/json.Parse. -/
noncomputable def Mjm3 : Memo := { f := nat_lit 8, args := [.str [nat_lit 45, nat_lit 57, nat_lit 50, nat_lit 50, nat_lit 51, nat_lit 51, nat_lit 55, nat_lit 50, nat_lit 48, nat_lit 51, nat_lit 54, nat_lit 56, nat_lit 53, nat_lit 52, nat_lit 55, nat_lit 55, nat_lit 53, nat_lit 56, nat_lit 48, nat_lit 57]], hin := (.n (.n .e (some gw1) .e) none (.n .e (some gw2) .e)), nx := nat_lit 202, r := .tup [.agg [.int .i64 (.ofNat (nat_lit 0)), .int .i64 (.ofNat (nat_lit 0)), .str [], .nsl, .nsl], .int .i64 (.ofNat (nat_lit 2))], hout := (.n (.n .e (some gw1) .e) none (.n .e (some gw2) .e)), nx' := nat_lit 209 }
noncomputable def Mjw3 : CallF → CallF := fun c => callS [] c
theorem Mjm3_run : memoRun (callG Tryd.prog exts gl Mjw3 100) Mjm3 = true := by decide +kernel
theorem Mjm3_ok : MemoOK gl Tryd.prog Mjm3 := memo_of_run (callF_ok mixed exts_ok (noNum_ok nums) Mjw3 (fun _ h => callS_ok h _ (fun _ h => by cases h)) 100) Mjm3_run
end Js
end Go.Proofs.YtdecogndpnghkaaDoor
