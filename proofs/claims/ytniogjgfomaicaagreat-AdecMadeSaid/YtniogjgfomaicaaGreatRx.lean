/-
  Numbers of a wire: their contracts. No condition.
-/
import Derived.Test.YtniogjgfomaicaaGreatRows
import Derived.WalkKit
import Derived.ProofKit
import Derived.OpenShut
import Derived.ShutString
import Derived.WalkLawsBesides
import Derived.WalkSpells
import Derived.Outline
import Derived.Laws.BitsAllLaws
import Derived.Laws.Bits64
import Derived.Lib.Hide
import Derived.Lib.SlBytesRow
import Derived.Laws.AppendOwn
import Derived.RangeFuncBox
import Derived.Deep.RegionLaw
namespace Go.Proofs.YtniogjgfomaicaaGreat.Rv
open Go.Proofs.YtniogjgfomaicaaGreat Go.ChangeShapes Go.WideShapes Go.ChangeAt Go.RowKit
set_option linter.unusedVariables false
set_option linter.unusedSimpArgs false
def venc (v : Nat) : List UInt8 :=
  if h : v < 128 then [UInt8.ofNat v] else UInt8.ofNat (v % 128 + 128) :: venc (v / 128)
termination_by v
decreasing_by omega
theorem venc_lt{v:Nat} (h:v<128):venc v=[UInt8.ofNat v]:=by rw[venc,dif_pos h]
theorem venc_ge{v:Nat} (h:128<=v):venc v=UInt8.ofNat (v % 128+128)::venc (v / 128):=by rw[venc,dif_neg (by omega)]
def vdec:List UInt8->Nat->Nat->Option (Nat×Nat)
  | [],_,_=>none
  | c::r,i,acc=>
    if 10<=i then none else if i=9/\1<c.toNat % 128 then none
    else if c.toNat<128 then some (acc+c.toNat % 128*2 ^ (7*i),i+1)else vdec r (i+1) (acc+c.toNat % 128*2 ^ (7*i))
theorem vdec_ten(l:List UInt8) (i acc:Nat) (h:10<=i):vdec l i acc=none:=by
  cases l with
  |nil=>rfl
  |cons c r=>rw[vdec,if_pos h]
def vval(l:List UInt8):Nat:=((vdec l 0 0).getD (0,0)).1
def vlen(l:List UInt8):Nat:=((vdec l 0 0).getD (0,0)).2
def verr(l:List UInt8):Nat:=if(vdec l 0 0).isSome then 0 else 2
def vend(l:List UInt8):Ending:= .returned (.tuple #[.int .u64 (vval l:Nat), .int .i64 (vlen l:Nat), .int .i64 (verr l:Nat)])
theorem vend_some{l:List UInt8} {v n:Nat} (h:vdec l 0 0=some (v,n)):vend l= .returned (.tuple #[.int .u64 (v:Int), .int .i64 (n:Int), .int .i64 0]):=by
  simp[vend,vval,vlen,verr,h]
theorem vend_none{l:List UInt8} (h:vdec l 0 0=none):vend l= .returned (.tuple #[.int .u64 0, .int .i64 0, .int .i64 2]):=by
  simp[vend,vval,vlen,verr,h]
theorem drop_at(s:ByteArray) (k:Nat) (h:k<s.size):s.data.toList.drop k=s[k]::s.data.toList.drop (k+1):=by
  rw[List.drop_eq_getElem_cons (by simpa using h)];rfl
structure At(s:ByteArray) (k acc:Nat):Prop where
  le:k<=s.size
  ten:k<=10
  lt:acc<2 ^ (7*k)
  lt64:acc<18446744073709551616
  eq:vdec (s.data.toList.drop k) k acc=vdec s.data.toList 0 0
theorem At.start(s:ByteArray):At s 0 0:=⟨Nat.zero_le _,Nat.zero_le _,by simp,by decide,rfl⟩
theorem At.stop{s:ByteArray} {k acc:Nat} (a:At s k acc) (h:k=s.size\/k=10):vdec s.data.toList 0 0=none:=by
  rw[←a.eq]
  rcases h with h|h
  · rw[h,List.drop_of_length_le (by simp)];rfl
  · exact vdec_ten _ _ _ (by omega)
theorem At.bad{s:ByteArray} {k acc:Nat} (a:At s k acc) (hk:k<s.size) (h9:k=9) (hc:1<s[k].toNat % 128):vdec s.data.toList 0 0=none:=by
  rw[←a.eq,drop_at s k hk,vdec,if_neg (by omega),if_pos ⟨h9,hc⟩]
theorem At.bad2{s:ByteArray} {k acc:Nat} (a:At s k acc) (hk:k<s.size) (h9:k=9) (hc:1<s[k].toNat):vdec s.data.toList 0 0=none:=by
  by_cases h:1<s[k].toNat % 128
  · exact a.bad hk h9 h
  · rw[←a.eq,drop_at s k hk,vdec,if_neg (by omega),if_neg (by omega),if_neg (by omega)]
    exact vdec_ten _ _ _ (by omega)
theorem At.hit{s:ByteArray} {k acc:Nat} (a:At s k acc) (hk:k<s.size) (h10:k<10) (h9:¬(k=9/\1<s[k].toNat % 128)) (hc:s[k].toNat<128):vdec s.data.toList 0 0=some (acc+s[k].toNat % 128*2 ^ (7*k),k+1):=by
  rw[←a.eq,drop_at s k hk,vdec,if_neg (by omega),if_neg h9,if_pos hc]
theorem pow7(k:Nat):2 ^ (7*(k+1))=128*2 ^ (7*k):=by
  rw[show 7*(k+1)=7+7*k by omega,Nat.pow_add]
theorem group_lt{k g:Nat} (h10:k<10) (hg:g<128) (h9:¬(k=9/\1<g)):g*2 ^ (7*k)+2 ^ (7*k)<=18446744073709551616:=by
  rcases(show k=0\/k=1\/k=2\/k=3\/k=4\/k=5\/k=6\/k=7\/k=8\/k=9 by omega)with rfl|rfl|rfl|rfl|rfl|rfl|rfl|rfl|rfl|rfl<;>simp only[Nat.reduceMul,Nat.reducePow]<;>omega
theorem At.next{s:ByteArray} {k acc:Nat} (a:At s k acc) (hk:k<s.size) (h10:k<10) (h9:¬(k=9/\1<s[k].toNat % 128)) (hc:¬s[k].toNat<128):At s (k+1) (acc+s[k].toNat % 128*2 ^ (7*k)):=by
  have hg:s[k].toNat % 128<128:=Nat.mod_lt _ (by decide)
  have h1:=group_lt h10 hg h9
  have h2:=a.lt
  refine⟨by omega,by omega,?_,by omega,?_⟩
  · rw[pow7]
    have:s[k].toNat % 128*2 ^ (7*k)<=127*2 ^ (7*k):=Nat.mul_le_mul_right _ (by omega)
    omega
  · rw[←a.eq,drop_at s k hk]
    conv=>rhs;rw[vdec,if_neg (by omega),if_neg h9,if_neg hc]
theorem wrap64n(N:Nat) (h:N<18446744073709551616):IntKind.u64.wrap (N:Int)=(N:Int):=by
  rw[IntKind.wrap_u64];omega
theorem or_group{k acc g:Nat} (h10:k<10) (hg:g<128) (h9:¬(k=9/\1<g)) (ha:acc<2 ^ (7*k)):bits .or .u64 (acc:Int) (IntKind.u64.wrap ((g:Int)*2 ^ (7*k)))=((acc+g*2 ^ (7*k):Nat):Int):=by
  have h1:=group_lt h10 hg h9
  have hp:0<2 ^ (7*k):=Nat.two_pow_pos _
  have e1:(g:Int)*2 ^ (7*k)=((g*2 ^ (7*k):Nat):Int):=by simp
  have e2:IntKind.u64.wrap ((g:Int)*2 ^ (7*k))=((g*2 ^ (7*k):Nat):Int):=by
    rw[e1];exact wrap64n _ (by omega)
  rw[e2,u64_or_nat _ _ (by omega) (by omega)]
  congr 1
  rw[Nat.or_comm,Nat.mul_comm,←Nat.two_pow_add_eq_or_of_lt ha,Nat.add_comm]
theorem or_group'{k acc:Nat} {c:UInt8} (h10:k<10) (h9:¬(k=9/\1<c.toNat % 128)) (ha:acc<2 ^ (7*k)):bits .or .u64 (acc:Int) (IntKind.u64.wrap ((c.toNat:Int) % 128*2 ^ (7*k)))=((acc+c.toNat % 128*2 ^ (7*k):Nat):Int):=by
  rw[show(c.toNat:Int) % 128=((c.toNat % 128:Nat):Int)by omega]
  exact or_group h10 (Nat.mod_lt _ (by decide)) h9 ha
theorem or_nine{acc:Nat} {c:UInt8} (h9:¬1<c.toNat % 128) (ha:acc<2 ^ (7*9)):bits .or .u64 (acc:Int) ((c.toNat:Int) % 128*9223372036854775808)=((acc+c.toNat % 128*2 ^ (7*9):Nat):Int):=by
  rw[←or_group' (by decide) (by omega) ha,IntKind.wrap_u64]
  congr 1
  have:(2:Int) ^ (7*9)=9223372036854775808:=by decide
  rw[this];omega
theorem and127(c:UInt8):bits .and .u8 (c.toNat:Int) 127=((c.toNat % 128:Nat):Int):=by
  have:=u8_and_nat c.toNat 127 c.toNat_lt (by decide)
  rw[show c.toNat&&&127=c.toNat % 128 from Nat.and_two_pow_sub_one_eq_mod _ 7]at this
  exact this
set_option maxHeartbeats 1000000 in
set_option maxRecDepth 20000 in
theorem varint_any (s : ByteArray) (w : World) (hs : s.size ≤ maxLen) :
    Calls Tryz.prog 115 #[.string s] w fun e w' => e = vend s.data.toList ∧ w = w' := by
  unfold maxLen at hs
  have HS := Lib.hid (At.start s)
  go_enter Tryz.func115, Tryz.ntmps115
  go_wp2
  go_loop [2, 5] (fun v i => ∃ k acc : Nat, i = .int .i64 k ∧ v = .int .u64 acc ∧ At s k acc) (fun _ i => s.size - (intOf i).toNat)
  case atStart => exact ⟨0, 0, rfl, rfl, HS.out⟩
  case round =>
    obtain ⟨k, acc, rfl, rfl, ha⟩ := hrel
    have hkt := ha.ten
    have hks := ha.le
    have ha64 := ha.lt64
    have HA := Lib.hid ha
    clear ha
    by_cases hlt : k < s.size
    · by_cases hten : k < 10
      · have hc := and127 s[k]
        have hcb : s[k].toNat < 256 := s[k].toNat_lt
        by_cases h9 : k = 9
        · subst h9
          have hlt' : (9 : Int) < (s.size : Int) := by omega
          by_cases hg : 1 < s[9].toNat % 128
          · have HE := Lib.hid (vend_none (HA.out.bad hlt rfl hg))
            go_wp2
            exact bodyPost_ret (v := .tuple #[.int .u64 0, .int .i64 0, .int .i64 2]) (by simp [results, Tryz.results115, go_sem]) rfl ⟨HE.out.symm, rfl⟩
          · by_cases hb : s[9].toNat < 128
            · have HE := Lib.hid (vend_some (HA.out.hit hlt hten (by omega) hb))
              go_wp2
              exact bodyPost_ret (v := .tuple #[.int .u64 (bits .or .u64 (acc : Int) ((s[9].toNat : Int) % 128 * 9223372036854775808)), .int .i64 10, .int .i64 0]) (by simp [results, Tryz.results115, go_sem]) rfl ⟨by rw [HE.out, or_nine hg HA.out.lt]; rfl, rfl⟩
            · have HE := Lib.hid (HA.out.next hlt hten (by omega) hb)
              go_wp2
              go_round
              case rel => exact ⟨10, _, rfl, congrArg _ (or_nine hg HA.out.lt), HE.out⟩
              case measure => simp [intOf]; omega
        · have h9' : ((k : Int) == 9) = false := by rw [beq_eq_false_iff_ne]; omega
          by_cases hb : s[k].toNat < 128
          · have HE := Lib.hid (vend_some (HA.out.hit hlt hten (by omega) hb))
            go_wp2
            exact bodyPost_ret (v := .tuple #[.int .u64 (bits .or .u64 (acc : Int) (IntKind.u64.wrap ((s[k].toNat : Int) % 128 * 2 ^ (7 * k)))), .int .i64 ((k : Int) + 1), .int .i64 0]) (by simp [results, Tryz.results115, go_sem]) rfl ⟨by rw [HE.out, or_group' hten (by omega) HA.out.lt]; rfl, rfl⟩
          · have HE := Lib.hid (HA.out.next hlt hten (by omega) hb)
            go_wp2
            go_round
            case rel => exact ⟨k + 1, _, by go_num, congrArg _ (or_group' hten (by omega) HA.out.lt), HE.out⟩
            case measure => simp [intOf]; omega
      · obtain rfl : k = 10 := by omega
        have hz := HA.out.stop (.inr rfl)
        have HE := Lib.hid (vend_none hz)
        clear hz
        go_wp2
        exact bodyPost_ret (v := .tuple #[.int .u64 0, .int .i64 0, .int .i64 2]) (by simp [results, Tryz.results115, go_sem]) rfl ⟨HE.out.symm, rfl⟩
    · obtain rfl : k = s.size := by omega
      have hz := HA.out.stop (.inl rfl)
      have HE := Lib.hid (vend_none hz)
      clear hz
      go_wp2
      exact bodyPost_ret (v := .tuple #[.int .u64 0, .int .i64 0, .int .i64 2]) (by simp [results, Tryz.results115, go_sem]) rfl ⟨HE.out.symm, rfl⟩
set_option maxHeartbeats 1000000 in
set_option maxRecDepth 20000 in
theorem rvarint_any (s : ByteArray) (w : World) (hs : s.size ≤ maxLen) :
    Calls Tryz.prog 94 #[.string s] w fun e w' => e = vend s.data.toList ∧ w = w' := by
  unfold maxLen at hs
  have HS := Lib.hid (At.start s)
  go_enter Tryz.func94, Tryz.ntmps94
  go_wp2
  go_loop [5, 6] (fun v i => ∃ k acc : Nat, i = .int .i64 k ∧ v = .int .u64 acc ∧ At s k acc) (fun _ i => s.size - (intOf i).toNat)
  case atStart => exact ⟨0, 0, rfl, rfl, HS.out⟩
  case round =>
    obtain ⟨k, acc, rfl, rfl, ha⟩ := hrel
    have hkt := ha.ten
    have hks := ha.le
    have ha64 := ha.lt64
    have HA := Lib.hid ha
    clear ha
    by_cases hten : k < 10
    · by_cases hlt : k < s.size
      · have hcb : s[k].toNat < 256 := s[k].toNat_lt
        have hne : ((k : Int) == (s.size : Int)) = false := by rw [beq_eq_false_iff_ne]; omega
        by_cases h9 : k = 9
        · subst h9
          have hlt' : (9 : Int) < (s.size : Int) := by omega
          by_cases hg : 1 < s[9].toNat
          · have HE := Lib.hid (vend_none (HA.out.bad2 hlt rfl hg))
            go_wp2
            exact bodyPost_ret (v := .tuple #[.int .u64 0, .int .i64 0, .int .i64 2]) (by simp [results, Tryz.results94, go_sem]) rfl ⟨HE.out.symm, rfl⟩
          · have hb : s[9].toNat < 128 := by omega
            have HE := Lib.hid (vend_some (HA.out.hit hlt hten (by omega) hb))
            go_wp2
            exact bodyPost_ret (v := .tuple #[.int .u64 (bits .or .u64 (acc : Int) ((s[9].toNat : Int) % 128 * 9223372036854775808)), .int .i64 10, .int .i64 0]) (by simp [results, Tryz.results94, go_sem]) rfl ⟨by rw [HE.out, or_nine (by omega) HA.out.lt]; rfl, rfl⟩
        · have h9' : ((k : Int) == 9) = false := by rw [beq_eq_false_iff_ne]; omega
          by_cases hb : s[k].toNat < 128
          · have HE := Lib.hid (vend_some (HA.out.hit hlt hten (by omega) hb))
            go_wp2
            exact bodyPost_ret (v := .tuple #[.int .u64 (bits .or .u64 (acc : Int) (IntKind.u64.wrap ((s[k].toNat : Int) % 128 * 2 ^ (7 * k)))), .int .i64 ((k : Int) + 1), .int .i64 0]) (by simp [results, Tryz.results94, go_sem]) rfl ⟨by rw [HE.out, or_group' hten (by omega) HA.out.lt]; rfl, rfl⟩
          · have HE := Lib.hid (HA.out.next hlt hten (by omega) hb)
            go_wp2
            go_round
            case rel => exact ⟨k + 1, _, by go_num, congrArg _ (or_group' hten (by omega) HA.out.lt), HE.out⟩
            case measure => simp [intOf]; omega
      · obtain rfl : k = s.size := by omega
        have hz := HA.out.stop (.inl rfl)
        have HE := Lib.hid (vend_none hz)
        clear hz
        go_wp2
        exact bodyPost_ret (v := .tuple #[.int .u64 0, .int .i64 0, .int .i64 2]) (by simp [results, Tryz.results94, go_sem]) rfl ⟨HE.out.symm, rfl⟩
    · obtain rfl : k = 10 := by omega
      have hz := HA.out.stop (.inr rfl)
      have HE := Lib.hid (vend_none hz)
      clear hz
      go_wp2
      exact bodyPost_ret (v := .tuple #[.int .u64 0, .int .i64 0, .int .i64 2]) (by simp [results, Tryz.results94, go_sem]) rfl ⟨HE.out.symm, rfl⟩
theorem one_src(W:World) (x:Value) (e:TypeId):∀(j:Nat) u,[x][j]? =some u->(W.alloc (.cells #[x] e)).cell? ((⟨W.heap.size,0,none⟩:Addr).add j)=some u:=by
  intro j u hj
  cases j with
  | zero=>
    simp at hj;subst hj
    rw[Addr.add_lit,Nat.zero_add]
    have hp:(W.alloc (.cells #[x] e)).heap[W.heap.size]? =some (.cells #[x] e (0,0)):=by
      show(W.heap.push _)[W.heap.size]? =_
      simp
    simp only[World.cell?,hp];rfl
  |succ j=>simp at hj
theorem venc_len:∀(k v:Nat),v<128 ^ (k+1)->(venc v).length<=k+1
  |0,v,h=>by rw[venc_lt (by omega)];simp
  | k +1,v,h=>by
    by_cases hv:v<128
    · rw[venc_lt hv];simp
    · rw[venc_ge (by omega)]
      have:=venc_len k (v / 128) (by rw[Nat.div_lt_iff_lt_mul (by decide),←Nat.pow_succ];exact h)
      simp;omega
theorem venc_ten(v:Nat) (h:v<18446744073709551616):(venc v).length<=10:=venc_len 9 v (Nat.lt_of_lt_of_le h (by decide))
theorem one_text{P:Program} (W:World) {s d el e:TypeId} (hs:P.underlying s=some (.slice el)) (hel:P.underlying el=some (.int .u8)) (hd:P.underlying d=some .string) (c:UInt8) {x:Int} (hx:x=(c.toNat:Int)) {W':World} (hb:W'.heap[W.heap.size]? =(W.alloc (.cells #[.int .u8 x] e)).heap[W.heap.size]?):
    (convert s d (.slice (some ⟨W.heap.size,0,none⟩) 1 1)).run P W'= .ok (.string ⟨#[c]⟩) W':=by
  have hB:Lib.Bytes W' W.heap.size 0 ⟨#[c]⟩:=λi hi=>by
    have hi0 : i = 0 := by have:(ByteArray.mk #[c]).size=1:=rfl
                           omega
    subst hi0
    have h2:=one_src W (.int .u8 x) e 0 (.int .u8 x) rfl
    rw[Addr.add_lit,Nat.zero_add]at h2
    rw[World.cell?_of_block (w:=W.alloc (.cells #[.int .u8 x] e)) hb,h2,hx]
    rfl
  exact Lib.run_convert_whole (P:=P) W' s el d hs hel hd W.heap.size 0 ⟨#[c]⟩ hB 1
theorem cat_one(c:UInt8) (l:List UInt8):(ByteArray.mk #[c]++ByteArray.mk l.toArray)=ByteArray.mk (c::l).toArray:=by
  apply ByteArray.ext;simp
set_option maxHeartbeats 1000000 in
set_option maxRecDepth 20000 in
theorem rput_any : ∀ (v : Nat) (w : World), v < 18446744073709551616 →
    Calls Tryz.prog 38 #[.int .u64 (v : Int)] w fun e w' => e = .returned (.string ⟨(venc v).toArray⟩) ∧ Below w.heap.size w w' := by
  intro v
  induction v using Nat.strongRecOn with
  | _ v ih =>
    intro w hv
    have hvi : (v : Int) ≤ 18446744073709551615 := by omega
    by_cases hlt : v < 128
    · have HD := Lib.hid (venc_lt hlt)
      have hcv := one_text (P := Tryz.prog) w Tryz.underlying22 Tryz.underlying5 Tryz.underlying9 (UInt8.ofNat v) (x := (v : Int)) (e := 5) (by rw [UInt8.toNat_ofNat']; omega) (W' := w.alloc (.cells #[.int .u8 (v : Int)] 5)) rfl
      have HB := Lib.hid ((Below.refl w.heap.size w).alloc (Nat.le_refl _) (.cells #[.int .u8 (v : Int)] 5))
      clear hv ih
      go_enter Tryz.func38, Tryz.ntmps38
      go_wp2
      go_ret
      exact ⟨by rw [HD.out]; rfl, HB.out⟩
    · have HD := Lib.hid (venc_ge (v := v) (by omega))
      obtain ⟨c, hc⟩ : ∃ c, c = UInt8.ofNat (v % 128 + 128) := ⟨_, rfl⟩
      rw [← hc] at HD
      obtain ⟨X, hX⟩ : ∃ X, X = IntKind.u8.wrap (IntKind.u8.wrap ((v : Int).tmod 128) + 128) := ⟨_, rfl⟩
      have hXc : X = (c.toNat : Int) := by
        have h1 : (v : Int).tmod 128 = ((v % 128 : Nat) : Int) := by rw [Int.tmod_eq_emod_of_nonneg (by omega)]; omega
        rw [hX, hc, h1, UInt8.toNat_ofNat', IntKind.wrap_u8', IntKind.wrap_u8']; omega
      have c1 := Lib.hid (fun W => ih (v / 128) (by omega) W (by omega))
      rw [show ((v / 128 : Nat) : Int) = IntKind.u64.wrap ((v : Int) / 128) from by rw [IntKind.wrap_u64]; omega] at c1
      have hd : decide ((v : Int) < 128) = false := by simp; omega
      have cvA := one_text (P := Tryz.prog) w Tryz.underlying22 Tryz.underlying5 Tryz.underlying9 c (e := 5) hXc (W' := (w.alloc (.cells #[.int .u8 X] 5)).drew) rfl
      have HX := Lib.hid hXc
      have hvl : (venc (v / 128)).length ≤ 10 := venc_ten _ (by omega)
      clear hv ih hXc hc
      rw [hX] at cvA
      go_enter Tryz.func38, Tryz.ntmps38
      go_wp2_with fail
      go_region_with (first | (go_at_call 38; refine (c1.out _).mono ?_; rintro e w2 ⟨rfl, hB2⟩; have cvB := one_text (P := Tryz.prog) w2 Tryz.underlying22 Tryz.underlying5 Tryz.underlying9 c (e := 5) HX.out (W' := w2.alloc (.cells #[.int .u8 X] 5)) rfl; rw [hX] at cvB; try (have cvC := one_text (P := Tryz.prog) w Tryz.underlying22 Tryz.underlying5 Tryz.underlying9 c (e := 5) HX.out (W' := w2) (by rw [hX]; exact hB2.block _ (by simp)))))
      all_goals (
        go_wp2
        go_ret
        refine ⟨by rw [HD.out]; exact congrArg (fun x => Ending.returned (Value.string x)) (cat_one c _), ?_⟩
        first
          | exact (((Below.refl _ _).alloc (Nat.le_refl _) _).drew).trans (hB2.mono (by simp))
          | exact (((Below.refl w.heap.size w).drew).trans hB2).alloc hB2.size _)
end Go.Proofs.YtniogjgfomaicaaGreat.Rv
