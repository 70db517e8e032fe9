/-
  The two PutVarint: their contracts. No condition.
-/
import Derived.Test.YtpanaicglidfjaaRows
import Derived.WalkKit
import Derived.ProofKit
import Derived.OpenShut
import Derived.ShutString
import Derived.WalkLawsBesides
import Derived.WalkSpells
import Derived.Outline
import Derived.Laws.BitsAllLaws
import Derived.Laws.Bits64
import Derived.Lib.Hide
import Derived.Lib.SlBytesRow
import Derived.Laws.AppendOwn
import Derived.RangeFuncBox
import Derived.Deep.RegionLaw
namespace Go.Proofs.Ytpanaicglidfjaa.Rv
open Go.ChangeShapes Go.WideShapes Go.ChangeAt Go.RowKit
set_option linter.unusedVariables false
set_option linter.unusedSimpArgs false
def venc(v:Nat):List UInt8:=
  if h:v<128 then [UInt8.ofNat v]else UInt8.ofNat (v % 128+128)::venc (v / 128)
termination_by v
decreasing_by omega
theorem venc_lt{v:Nat} (h:v<128):venc v=[UInt8.ofNat v]:=by rw[venc,dif_pos h]
theorem venc_ge{v:Nat} (h:128<=v):venc v=UInt8.ofNat (v % 128+128)::venc (v / 128):=by rw[venc,dif_neg (by omega)]
theorem info8:(Try.prog.info? 5).map (λi=>(i.zero,i.size,i.bytes))=some (some (.int .u8 0),1,1):=by kernel_rfl
theorem info_parts{i:Option TypeInfo} {z:Option Value} {n b:Nat} (h:i.map (λi=>(i.zero,i.size,i.bytes))=some (z,n,b)):∃i0,i=some i0/\i0.zero=z/\i0.size=n/\i0.bytes=b:=by
  cases i with
  |none=>cases h
  |some i0=>simp at h;exact⟨i0,rfl,h.1,h.2.1,h.2.2⟩
def vals(l:List UInt8):List Value:=l.map λb=> .int .u8 (b.toNat:Int)
theorem vals_len(l:List UInt8):(vals l).length=l.length:=by simp[vals]
theorem one_src(W:World) (x:Value) (e:TypeId):∀(j:Nat) u,[x][j]? =some u->(W.alloc (.cells #[x] e)).cell? ((⟨W.heap.size,0,none⟩:Addr).add j)=some u:=by
  intro j u hj
  cases j with
  | zero=>
    simp at hj;subst hj
    rw[Addr.add_lit,Nat.zero_add]
    have hp:(W.alloc (.cells #[x] e)).heap[W.heap.size]? =some (.cells #[x] e (0,0)):=by
      show(W.heap.push _)[W.heap.size]? =_
      simp
    simp only[World.cell?,hp];rfl
  |succ j=>simp at hj
theorem one_int(k:IntKind) (n:Int):∀u∈[Value.int k n],u.oneCell'=true:=by
  intro u hu
  simp at hu;subst hu;rfl
theorem or128(y:Nat):bits .or .u8 ((y:Int) % 256) 128=((UInt8.ofNat (y % 128+128)).toNat:Int):=by
  have h:=u8_or_nat (y % 256) 128 (by omega) (by decide)
  rw[show((y % 256:Nat):Int)=(y:Int) % 256 by omega]at h
  refine Eq.trans h ?_
  rw[UInt8.toNat_ofNat']
  congr 1
  have h2:y % 256|||128=y % 128+128:=by
    have:∀z:Fin 256,z.1|||128=z.1 % 128+128:=by decide+kernel
    have:=this ⟨y % 256,by omega⟩
    simp only at this
    rw[this];omega
  rw[h2];omega
theorem own_snoc{W:World} {base e:Nat} {v:Value} {p:List UInt8} {c:UInt8} {z:Int} (hz:z=(c.toNat:Int)) (h:W.ownsRow base e 1 v (p.length+1) (vals p++[Value.int .u8 z])):W.ownsRow base e 1 v (p++[c]).length (vals (p++[c])):=by
  have e1:(p++[c]).length=p.length+1:=by simp
  have e2:vals (p++[c])=vals p++[Value.int .u8 (c.toNat:Int)]:=by simp[vals]
  rw[e1,e2,←hz];exact h
theorem own_bytes{W:World} {base e g cap:Nat} {l:List UInt8} (h:W.ownsRow base e 1 (.slice (some ⟨g,0,none⟩) l.length cap) l.length (vals l)):Lib.Bytes W g 0 ⟨l.toArray⟩:=by
  intro i hi
  have hi':i<l.length:=by simpa[ByteArray.size]using hi
  have:=h.cellAt i (by omega)
  rw[Nat.zero_add,this]
  simp[vals,hi']
  rfl
theorem own_text{P:Program} {W:World} {base e g cap:Nat} {s d el:TypeId} (hs:P.underlying s=some (.slice el)) (hel:P.underlying el=some (.int .u8)) (hd:P.underlying d=some .string) {l:List UInt8} (h:W.ownsRow base e 1 (.slice (some ⟨g,0,none⟩) l.length cap) l.length (vals l)):
    (convert s d (.slice (some ⟨g,0,none⟩) l.length cap)).run P W= .ok (.string ⟨l.toArray⟩) W:=by
  have:=Lib.run_convert_whole (P:=P) W s el d hs hel hd g 0 ⟨l.toArray⟩ (own_bytes h) cap
  have hl:(ByteArray.mk l.toArray).size=l.length:=by simp[ByteArray.size]
  rw[hl]at this;exact this
theorem wrap_last(y:Nat) (h:y<128):IntKind.u8.wrap (y:Int)=((UInt8.ofNat y).toNat:Int):=by
  rw[UInt8.toNat_ofNat',IntKind.wrap_u8'];omega
theorem venc_len:∀(k v:Nat),v<128 ^ (k+1)->(venc v).length<=k+1
  |0,v,h=>by rw[venc_lt (by omega)];simp
  | k +1,v,h=>by
    by_cases hv:v<128
    · rw[venc_lt hv];simp
    · rw[venc_ge (by omega)]
      have:=venc_len k (v / 128) (by rw[Nat.div_lt_iff_lt_mul (by decide),←Nat.pow_succ];exact h)
      simp;omega
theorem venc_ten(v:Nat) (h:v<18446744073709551616):(venc v).length<=10:=venc_len 9 v (Nat.lt_of_lt_of_le h (by decide))
theorem venc_pos(v:Nat):1<=(venc v).length:=by
  by_cases hv:v<128
  · rw[venc_lt hv];simp
  · rw[venc_ge (by omega)];simp
set_option maxHeartbeats 1000000 in
set_option maxRecDepth 20000 in
theorem put_any(v:Nat) (w:World) (hv:v<18446744073709551616):
    Calls Try.prog 102 #[.int .u64 (v:Int)] w λe w'=>e= .returned (.string ⟨(venc v).toArray⟩)/\Below w.heap.size w w':=by
  obtain⟨i0,hi,hz0,hz1,hz2⟩:=info_parts info8
  have hvi:(v:Int)<=18446744073709551615:=by omega
  have hten:=venc_ten v hv
  clear hv
  go_enter Try.func102,Try.ntmps102
  go_wp2_with fail
  go_loopw [0,3] (λx b wr=>∃(y:Nat) (p:List UInt8),x= .int .u64 (y:Int)/\y<18446744073709551616/\wr.ownsRow w.heap.size 5 1 b p.length (vals p)/\p++venc y=venc v/\Below w.heap.size w wr) (λx _ _=>(intOf x).toNat)
  case atStart=>exact⟨v,[],rfl,by omega,World.ownsRow_nil _ _ _ _,rfl,Below.refl _ _⟩
  case round=>
    obtain⟨y,p,rfl,hy,ho,he,hb⟩:=hrel
    have hpl:p.length<=9:=by
      have h1:=congrArg List.length he
      have h2:=venc_pos y
      rw[List.length_append]at h1;omega
    have HO:=Lib.hid ho
    have HB:=Lib.hid hb
    have HE:=Lib.hid he
    have hw:=hb.size
    clear ho hb he hten
    have hyi:(y:Int)<=18446744073709551615:=by omega
    by_cases hlt:128<=y
    · have HD:=Lib.hid (venc_ge hlt)
      have HN:Hid (y / 128<18446744073709551616):=by show _<_;omega
      clear hy
      have hd:decide ((128:Int)<=(y:Int))=true:=by simp;omega
      go_wp2_with (at_builtin;refine wpList_append_own _ rfl _ _ 22 rfl w.heap.size 5 i0 (.int .u8 0) 1 1 Try.underlying22 hi hz0 hz1 hz2 rfl (by decide) _ p.length (vals p) rfl (HO.out.alloc _) ⟨wr.heap.size,0,none⟩ 1 1 [.int .u8 (bits .or .u8 ((y:Int) % 256) 128)] rfl rfl (one_src _ _ _) (one_int _ _) (by unfold maxLen;omega) (by omega) (by simp;omega) ?_)
      intro v' w1 hown' hgrow _
      have HO2:=Lib.hid (own_snoc (or128 y) hown')
      have HB2:=Lib.hid ((HB.out.alloc hw _).grown hgrow (by simp;omega) (λk hk=>(HO.out.lt k hk).1))
      clear hown' hgrow
      go_wp2
      go_roundw
      case rel=>exact⟨y / 128,p++[UInt8.ofNat (y % 128+128)],by go_num,HN.out,HO2.out,by rw[List.append_assoc,←HE.out,HD.out];rfl,HB2.out⟩
      case measure=>simp[intOf];omega
    · have hlt':y<128:=by omega
      have HD:=Lib.hid (venc_lt hlt')
      clear hy
      have hd:decide ((128:Int)<=(y:Int))=false:=by simp;omega
      go_wp2_with (at_builtin;refine wpList_append_own _ rfl _ _ 22 rfl w.heap.size 5 i0 (.int .u8 0) 1 1 Try.underlying22 hi hz0 hz1 hz2 rfl (by decide) _ p.length (vals p) rfl (HO.out.alloc _) ⟨wr.heap.size,0,none⟩ 1 1 [.int .u8 (y:Int)] rfl rfl (one_src _ _ _) (one_int _ _) (by unfold maxLen;omega) (by omega) (by simp;omega) ?_)
      intro v' w1 hown' hgrow _
      obtain⟨g,cap,rfl⟩:=ownsRow_succ hown'
      have HO2:=Lib.hid (own_snoc (c:=UInt8.ofNat y) (by rw[UInt8.toNat_ofNat'];omega) hown')
      have HB2:=Lib.hid ((HB.out.alloc hw _).grown hgrow (by simp;omega) (λk hk=>(HO.out.lt k hk).1))
      have hcv:(convert 22 9 (.slice (some ⟨g,0,none⟩) (p.length+1) cap)).run Try.prog w1= .ok (.string ⟨(p++[UInt8.ofNat y]).toArray⟩) w1:=by
        have e1:(p++[UInt8.ofNat y]).length=p.length+1:=by simp
        have h2:=HO2.out
        rw[←e1]at h2⊢
        exact own_text Try.underlying22 Try.underlying5 Try.underlying9 h2
      clear hown' hgrow
      go_wp2
      go_ret
      exact⟨by rw[←HE.out,HD.out];rfl,HB2.out⟩
theorem one_text{P:Program} (W:World) {s d el e:TypeId} (hs:P.underlying s=some (.slice el)) (hel:P.underlying el=some (.int .u8)) (hd:P.underlying d=some .string) (c:UInt8) {x:Int} (hx:x=(c.toNat:Int)) {W':World} (hb:W'.heap[W.heap.size]? =(W.alloc (.cells #[.int .u8 x] e)).heap[W.heap.size]?):
    (convert s d (.slice (some ⟨W.heap.size,0,none⟩) 1 1)).run P W'= .ok (.string ⟨#[c]⟩) W':=by
  have hB:Lib.Bytes W' W.heap.size 0 ⟨#[c]⟩:=λi hi=>by
    have hi0 : i = 0 := by have:(ByteArray.mk #[c]).size=1:=rfl
                           omega
    subst hi0
    have h2:=one_src W (.int .u8 x) e 0 (.int .u8 x) rfl
    rw[Addr.add_lit,Nat.zero_add]at h2
    rw[World.cell?_of_block (w:=W.alloc (.cells #[.int .u8 x] e)) hb,h2,hx]
    rfl
  exact Lib.run_convert_whole (P:=P) W' s el d hs hel hd W.heap.size 0 ⟨#[c]⟩ hB 1
theorem cat_one(c:UInt8) (l:List UInt8):(ByteArray.mk #[c]++ByteArray.mk l.toArray)=ByteArray.mk (c::l).toArray:=by
  apply ByteArray.ext;simp
set_option maxHeartbeats 1000000 in
set_option maxRecDepth 20000 in
theorem rput_any:∀(v:Nat) (w:World),v<18446744073709551616->
    Calls Try.prog 104 #[.int .u64 (v:Int)] w λe w'=>e= .returned (.string ⟨(venc v).toArray⟩)/\Below w.heap.size w w':=by
  intro v
  induction v using Nat.strongRecOn with
  | _ v ih=>
    intro w hv
    have hvi:(v:Int)<=18446744073709551615:=by omega
    by_cases hlt:v<128
    · have HD:=Lib.hid (venc_lt hlt)
      have hcv:=one_text (P:=Try.prog) w Try.underlying22 Try.underlying5 Try.underlying9 (UInt8.ofNat v) (x:=(v:Int)) (e:=5) (by rw[UInt8.toNat_ofNat'];omega) (W':=w.alloc (.cells #[.int .u8 (v:Int)] 5)) rfl
      have HB:=Lib.hid ((Below.refl w.heap.size w).alloc (Nat.le_refl _) (.cells #[.int .u8 (v:Int)] 5))
      clear hv ih
      go_enter Try.func104,Try.ntmps104
      go_wp2
      go_ret
      exact⟨by rw[HD.out];rfl,HB.out⟩
    · have HD:=Lib.hid (venc_ge (v:=v) (by omega))
      obtain⟨c,hc⟩:∃c,c=UInt8.ofNat (v % 128+128):=⟨_,rfl⟩
      rw[←hc]at HD
      obtain⟨X,hX⟩:∃X,X=IntKind.u8.wrap (IntKind.u8.wrap ((v:Int).tmod 128)+128):=⟨_,rfl⟩
      have hXc:X=(c.toNat:Int):=by
        have h1:(v:Int).tmod 128=((v % 128:Nat):Int):=by rw[Int.tmod_eq_emod_of_nonneg (by omega)];omega
        rw[hX,hc,h1,UInt8.toNat_ofNat',IntKind.wrap_u8',IntKind.wrap_u8'];omega
      have c1:=Lib.hid (λW=>ih (v / 128) (by omega) W (by omega))
      rw[show((v / 128:Nat):Int)=IntKind.u64.wrap ((v:Int) / 128)from by rw[IntKind.wrap_u64];omega]at c1
      have hd:decide ((v:Int)<128)=false:=by simp;omega
      have cvA:=one_text (P:=Try.prog) w Try.underlying22 Try.underlying5 Try.underlying9 c (e:=5) hXc (W':=(w.alloc (.cells #[.int .u8 X] 5)).drew) rfl
      have HX:=Lib.hid hXc
      have hvl:(venc (v / 128)).length<=10:=venc_ten _ (by omega)
      clear hv ih hXc hc
      rw[hX]at cvA
      go_enter Try.func104,Try.ntmps104
      go_wp2_with fail
      go_region_with (first| (go_at_call 104;refine(c1.out _).mono ?_;rintro e w2 ⟨rfl,hB2⟩;have cvB:=one_text (P:=Try.prog) w2 Try.underlying22 Try.underlying5 Try.underlying9 c (e:=5) HX.out (W':=w2.alloc (.cells #[.int .u8 X] 5)) rfl;rw[hX]at cvB;try (have cvC:=one_text (P:=Try.prog) w Try.underlying22 Try.underlying5 Try.underlying9 c (e:=5) HX.out (W':=w2) (by rw[hX];exact hB2.block _ (by simp)))))
      all_goals (
        go_wp2
        go_ret
        refine⟨by rw[HD.out];exact congrArg (λx=>Ending.returned (Value.string x)) (cat_one c _),?_⟩
        first
          |exact(((Below.refl _ _).alloc (Nat.le_refl _) _).drew).trans (hB2.mono (by simp))
          |exact(((Below.refl w.heap.size w).drew).trans hB2).alloc hB2.size _)
end Go.Proofs.Ytpanaicglidfjaa.Rv
