/-
  What the functions do: contracts, and their questions answered. No condition but what its theorems ask.
-/
import Derived.Test.YtpanaicglidfjaaT1
namespace Go.Proofs.Ytpanaicglidfjaa.Wd
open Go.Proofs.Ytpanaicglidfjaa.Eng Go.Proofs.Ytpanaicglidfjaa.Sen Go.RowKit
set_option linter.defProp false
set_option linter.unusedVariables false
set_option linter.unusedSimpArgs false
set_option maxRecDepth 1000000
noncomputable section
theorem wrap_i32(n:Int):IntKind.wrap .i32 n=(n+2147483648) % 4294967296- 2147483648:=by
 simp[IntKind.wrap,IntKind.bits,IntKind.signed]
 omega
theorem qa3(n:Int):IntKind.wrap .u64 n=n % 18446744073709551616:=by
 simp[IntKind.wrap,IntKind.bits,IntKind.signed]
theorem shr32(n:Int) (h:0<=n):shP .shr .u64 n 32=n / 4294967296:=by
 show Int.fdiv n (2 ^ min (32:Int).toNat 64)=_
 rw[show(2:Int) ^ min (32:Int).toNat 64=4294967296 from rfl,Int.fdiv_eq_ediv_of_nonneg _ (by omega)]
theorem qzb:q15 P 40 qw6:=by
 refine q0h mixed q1o (W:=λ_=>{}) Try.func40 (by kernel_rfl) (by decide) (by decide) (λs=>by kernel_rfl) λ(v:GV)=>(whole_eq v).mpr ?_
 simp only[decide_eq_true_eq,decide_eq_false_iff_not,and_true]
 intro _
 unfold qgc
 refine⟨λh=>⟨λg=> ?_,λg=> ?_⟩,λh=> ?_⟩
 ·rw[decide_eq_true (by omega:v.x.2.1=0),decide_eq_true (by omega:v.y.2.1=0)];rfl
 ·rw[decide_eq_false (by omega:¬v.y.2.1=0),Bool.and_false];rfl
 ·rw[decide_eq_false (by omega:¬v.x.2.1=0)];rfl
theorem fitsN_ok:q15 P 39 qtk:=by
 refine q0h mixed q1o (W:=λ_=>{}) Try.func39 (by kernel_rfl) (by decide) (by decide) (λs=>by kernel_rfl) λ⟨a,(n:Int)⟩=>(fitsN_eq a n).mpr ?_
 rintro⟨h0,h1,hs,hl⟩
 simp only[decide_eq_true_eq,decide_eq_false_iff_not,and_true]
 unfold okN
 refine⟨λh=>(if_pos h),λh2=>⟨λh=> ?_,λh3=>⟨λh=>⟨?_,?_⟩,λh4=>⟨λh=>⟨by omega,?_⟩,λh5=>⟨λh=> ?_,λh6=> ?_⟩⟩⟩⟩⟩
 ·rw[if_neg h2,if_pos h]
 ·rw[wrap_i32];omega
 ·rw[if_neg h2,if_neg h3,if_pos h,wrap_i32,qa3]
  exact q11 (by omega)
 ·rw[if_neg h2,if_neg h3,if_neg h4,if_pos h,shr32 n h0]
  exact q11 (by omega)
 ·rw[if_neg h2,if_neg h3,if_neg h4,if_neg h5,if_pos h,qa3]
  exact q11 (by omega)
 ·rw[if_neg h2,if_neg h3,if_neg h4,if_neg h5,if_neg h6]
theorem qxr:q15 P 41 qpr:=by
 refine q0h mixed (q05 (q01 qjf q06)) (W:=λ_=>{}) Try.func41 (by kernel_rfl) (by decide) (by decide) (λs=>by kernel_rfl) λ⟨a,s⟩=>(qzk a s).mpr ?_
 intro hs
 simp only[decide_eq_true_eq,decide_eq_false_iff_not,and_true]
 unfold okT
 refine⟨λh=>⟨trivial,hs,if_pos h⟩,λh2=>⟨λh=> ?_,λh3=> ?_⟩⟩
 ·rw[if_neg h2,if_pos h]
 ·rw[if_neg h2,if_neg h3]
theorem qa8{y:SV} {ks:List ByteArray} {p:Pub} (h:slP txV y ks p) {i:Nat} (hi:i<ks.length):y.1≠noA/\q02 p (adr y.1 (i*1)) [.string ks[i]]:=q1m q13 (by decide) h hi
theorem q9q{ks:List ByteArray} {j:Nat} (h:j+1<ks.length):q31 (ks.drop j)=(vld (ks[j]'(by omega))&&q2y (ks[j]'(by omega)) ks[j+1]&&q31 (ks.drop (j+1))):=by
 rw[List.drop_eq_getElem_cons (by omega),List.drop_eq_getElem_cons h,q31]
theorem qcp:∀{ks:List ByteArray} {i:Nat} (hi:i<ks.length),vld ks[i]=false->q31 ks=false
 | [k],0,_,h=>by rw[q31];exact h
 |k::j::l,0,_,h=>by rw[q31];simp at h;rw[h];rfl
 |k::j::l,i+1,hi,h=>by rw[q31,qcp (ks:=j::l) (i:=i) (by simpa using hi) (by simpa using h),Bool.and_false]
theorem keys_ok:q15 P 60 cKeys:=by
 refine q0h mixed (q05 (q01 qjf q06)) (W:=wKeys) Try.func60 (by kernel_rfl) (by decide) (by decide) (λs=>by kernel_rfl) λ⟨(y:SV),ks⟩=>(keys_eq y ks).mpr ?_
 rintro⟨hl,hsz⟩ ⟨p,_,hp⟩
 have hy:y.2.1=ks.length:=hp.1
 simp only[decide_eq_true_eq,decide_eq_false_iff_not,Bool.not_eq_true',Bool.not_eq_false',true_and,and_true,eq_self,imp_self,implies_true,Int.toNat_natCast]
 refine⟨⟨0,rfl,by omega,rfl,λh=>absurd h (by omega)⟩,?_⟩
 rintro j ⟨hj,hk,hv⟩
 refine⟨λhlt=>⟨⟨by omega,hlt⟩,(qa8 hp (show j<ks.length by omega)).1,ks[j]'(by omega),λq hq=>(qa8 hq (show j<ks.length by omega)).2,hsz _ (List.getElem_mem _),λhb=>qcp _ hb,λhg=>⟨λh0=> ?_,λh0=> ?_⟩⟩,λhge=> ?_⟩
 ·have e:((j:Int)- 1).toNat=j- 1:=by omega
  rw[e]
  refine⟨by omega,by omega,(qa8 hp (show j- 1<ks.length by omega)).1,ks[j- 1]'(by omega),λq hq=>(qa8 hq (show j- 1<ks.length by omega)).2,λhb=> ?_,λhb=> ?_⟩
  ·rw[if_neg (by omega)]at hk
   rw[hk]
   have:=q9q (ks:=ks) (j:=j- 1) (by omega)
   simp only[show j- 1+1=j by omega]at this
   rw[this,hb,Bool.and_false];rfl
  ·refine⟨by omega,j+1,rfl,⟨by omega,?_,λ_ _=> ?_⟩,by omega⟩
   ·rw[if_neg (by omega)]at hk⊢
    have:=q9q (ks:=ks) (j:=j- 1) (by omega)
    simp only[show j- 1+1=j by omega]at this
    rw[hk,this,hb,hv (by omega) (by omega)]
    simp
   ·simpa using hg
 ·obtain rfl:j=0:=by omega
  exact⟨by omega,1,rfl,⟨by omega,by simp,λ_ _=>by simpa using hg⟩,by omega⟩
 ·obtain rfl:j=ks.length:=by omega
  by_cases h0:ks.length=0
  ·rw[List.length_eq_zero_iff]at h0;rw[h0,q31]
  ·rw[if_neg h0]at hk
   have:=hv (by omega) (Nat.le_refl _)
   rw[hk,List.drop_eq_getElem_cons (by omega),show ks.length- 1+1=ks.length by omega,List.drop_length,q31]
   exact this
theorem eqS_ok:q15 P 54 cEqS:=by
 refine q0h mixed q1o (W:=wEqS) Try.func54 (by kernel_rfl) (by decide) (by decide) (λs=>by kernel_rfl) λ⟨(x:SV),l,(y:SV),m⟩=>(qk0 x l y m).mpr ?_
 rintro⟨hl,hm⟩ ⟨p,_,hx,hy⟩
 have hxl:x.2.1=l.length:=hx.1
 have hyl:y.2.1=m.length:=hy.1
 simp only[decide_eq_true_eq,decide_eq_false_iff_not,Bool.not_eq_true',Bool.not_eq_false',true_and,and_true,eq_self,imp_self,implies_true,Int.toNat_natCast]
 refine⟨λh e=>h (by rw[hxl,hyl,e]),λh=>⟨⟨0,rfl,by omega,by omega,by simp⟩,?_⟩⟩
 rintro j ⟨hj,hlm,ht⟩
 refine⟨λhlt=>⟨by omega,(qa8 hx (show j<l.length by omega)).1,l[j]'(by omega),λq hq=>(qa8 hq.1 (show j<l.length by omega)).2,by omega,(qa8 hy (show j<m.length by omega)).1,m[j]'(by omega),λq hq=>(qa8 hq.2 (show j<m.length by omega)).2,λhb e=>hb ?_,λhb=> ?_⟩,λhge=> ?_⟩
 ·subst e;rfl
 ·refine⟨by omega,j+1,rfl,⟨by omega,hlm,?_⟩,by omega⟩
  rw[List.take_succ_eq_append_getElem (by omega),List.take_succ_eq_append_getElem (by omega),ht,hb]
 ·obtain rfl:j=l.length:=by omega
  rw[List.take_length,hlm,List.take_length]at ht
  exact ht
theorem qnr:∀{l m:List PV} {j:Nat} (h1:j<l.length) (h2:j<m.length),PV.sames (l.drop j) (m.drop j)=(PV.same l[j] m[j]&&PV.sames (l.drop (j+1)) (m.drop (j+1))):=λ{l m j} h1 h2=>by
 rw[List.drop_eq_getElem_cons h1,List.drop_eq_getElem_cons h2,PV.sames]
theorem qes:∀{l m:List PV},l.length≠m.length->PV.sames l m=false
 | [],[],h=>absurd rfl h
 | [],_::_,h=>by rw[PV.sames]<;>simp
 |_::_,[],h=>by rw[PV.sames]<;>simp
 |v::l,w::m,h=>by rw[PV.sames,qes (l:=l) (m:=m) (by simpa using h),Bool.and_false]
theorem q5p{l:List GV} {j:Nat} (h:j<l.length):(GV.pvs l)[j]'(by rw[GV.pvs_len];exact h)=(l[j]).pv:=by simp[GV.pvs_map]
theorem q9z{l:List GV} {j:Nat} (h:j<l.length):SizeOf.sizeOf l[j]<SizeOf.sizeOf l:=List.sizeOf_lt_of_mem (List.getElem_mem h)
theorem eqF_ok(n:Nat) (hs:q15 P 34 (qgt.below muSa n)):q15 P 55 (cEqF.below muEf (n+1)):=by
 refine q0h mixed (q05 (q01 hs q06)) (W:=wEqF) Try.func55 (by kernel_rfl) (show 1<=1 by decide) (show 1<=1 by decide) (λs=>by kernel_rfl) λ⟨(x:SV),l,(y:SV),m⟩=>(eqF_eq n x l y m).mpr ?_
 rintro⟨hmu,⟨hl,hls⟩,hm,hms⟩ ⟨p,_,⟨hx,hxs⟩,hy,hys⟩
 have hmu:SizeOf.sizeOf l<n+1:=hmu
 have hxl:x.2.1=l.length:=hx.1
 have hyl:y.2.1=m.length:=hy.1
 simp only[decide_eq_true_eq,decide_eq_false_iff_not,Bool.not_eq_true',Bool.not_eq_false',true_and,and_true,eq_self,imp_self,implies_true,Int.toNat_natCast]
 refine⟨λh=>qes (by rw[GV.pvs_len,GV.pvs_len];omega),λh=>⟨⟨0,rfl,by omega,by omega,by simp⟩,?_⟩⟩
 rintro j ⟨hj,hlm,ht⟩
 refine⟨λhlt=> ?_,λhge=> ?_⟩
 ·have hjl:j<l.length:=by omega
  have hjm:j<m.length:=by omega
  have hd:=qnr (l:=GV.pvs l) (m:=GV.pvs m) (j:=j) (by rw[GV.pvs_len];exact hjl) (by rw[GV.pvs_len];exact hjm)
  rw[q5p hjl,q5p hjm]at hd
  refine⟨by omega,(q1m q0y (by decide) hx hjl).1,l[j].n,l[j].s,l[j].x.1,l[j].x.2.1,l[j].x.2.2,l[j].y.1,l[j].y.2.1,l[j].y.2.2,l[j].b,λq hq=>(q1m q0y (by decide) hq.1.1 hjl).2,by omega,(q1m q0y (by decide) hy hjm).1,m[j].n,m[j].s,m[j].x.1,m[j].x.2.1,m[j].x.2.2,m[j].y.1,m[j].y.2.1,m[j].y.2.2,m[j].b,λq hq=>(q1m q0y (by decide) hq.2.1 hjm).2,⟨l[j],m[j]⟩,?_⟩
  simp only[true_and,eq_self]
  have s1:=PV.sms_at hls (i:=j) (by rw[GV.pvs_len];exact hjl)
  have s2:=PV.sms_at hms (i:=j) (by rw[GV.pvs_len];exact hjm)
  rw[q5p hjl]at s1
  rw[q5p hjm]at s2
  have:=q9z hjl
  refine⟨⟨by show SizeOf.sizeOf l[j]<n;omega,s1,s2⟩,λq hq=>⟨GV.oks_at hq.1.2 hjl,GV.oks_at hq.2.2 hjm⟩,λhb=> ?_,λhb=>⟨by omega,j+1,rfl,⟨by omega,hlm,?_⟩,by omega⟩⟩
  ·rw[←ht,hd,hb];rfl
  ·rw[←ht,hd,hb];rfl
 ·obtain rfl:j=l.length:=by omega
  rw[←ht,List.drop_of_length_le (by rw[GV.pvs_len];exact Nat.le_refl _),List.drop_of_length_le (by rw[GV.pvs_len];omega)]
  rw[PV.sames]
theorem same_ok(n:Nat) (hf:q15 P 55 (cEqF.below muEf n)):q15 P 34 (qgt.below muSa (n+1)):=by
 refine q0h mixed (q05 (q01 eqS_ok (q01 hf q06))) (W:=λ_=>{}) Try.func34 (by kernel_rfl) (show 1<=1 by decide) (show 1<=1 by decide) (λs=>by kernel_rfl) λ⟨v,w⟩=>(same_eq n v w).mpr ?_
 rintro⟨hmu,hv,hw⟩ ⟨p,_,hpv,hpw⟩
 have hmu:SizeOf.sizeOf v<n+1:=hmu
 simp only[decide_eq_true_eq,decide_eq_false_iff_not,Bool.not_eq_true',Bool.not_eq_false',true_and,and_true,eq_self,imp_self,implies_true,Int.toNat_natCast]
 rw[GV.pv_eq v,GV.pv_eq w,PV.same]
 rw[GV.sm_eq]at hv hw
 refine⟨λh1=>⟨λh2=>⟨λh3=>⟨⟨v.y,v.ks,w.y,w.ks⟩,?_⟩,λh=> ?_⟩,λh=> ?_⟩,λh=> ?_⟩
 ·simp only[true_and,eq_self]
  refine⟨⟨hv.2.2.2.1,hw.2.2.2.1⟩,λq hq=>⟨by have:=hq.1;rw[GV.ok_eq]at this;exact this.2.1,by have:=hq.2;rw[GV.ok_eq]at this;exact this.2.1⟩,λh4=>⟨⟨v.x,v.l,w.x,w.l⟩,?_⟩,λh=> ?_⟩
  ·simp only[true_and,eq_self]
   refine⟨⟨?_,⟨hv.2.2.1,hv.2.2.2.2.2⟩,hw.2.2.1,hw.2.2.2.2.2⟩,λq hq=> ?_,?_⟩
   ·show SizeOf.sizeOf v.l<n
    have:SizeOf.sizeOf v.l<SizeOf.sizeOf v:=by cases v;simp[GV.l];omega
    omega
   ·have a1:=hq.1;have a2:=hq.2
    rw[GV.ok_eq]at a1 a2
    exact⟨⟨a1.1,a1.2.2⟩,a2.1,a2.2.2⟩
   ·rw[decide_eq_true h1,decide_eq_true h2,decide_eq_true h3,decide_eq_true h4];rfl
  ·rw[decide_eq_false h];simp
 ·rw[decide_eq_false h];simp
 ·rw[decide_eq_false h];simp
 ·rw[decide_eq_false h];rfl
theorem qdc:∀n,q15 P 34 (qgt.below muSa n)/\q15 P 55 (cEqF.below muEf n)
 |0=>⟨Ct.below_zero (by decide) (by decide) (Sen.enters_of Try.func34 (by kernel_rfl)) λs=>⟨rfl,rfl⟩,Ct.below_zero (by decide) (by decide) (Sen.enters_of Try.func55 (by kernel_rfl)) λs=>⟨rfl,rfl⟩⟩
 |n+1=>⟨same_ok n (qdc n).2,eqF_ok n (qdc n).1⟩
theorem same_fin:q15 P 34 qgt:=Ct.of_below λn=>(qdc n).1
mutual
theorem qft:∀v:PV,PV.same v v=true
 | .mk n s l ks b=>by rw[PV.same,sames_refl l];simp
theorem sames_refl:∀l:List PV,PV.sames l l=true
 | []=>by rw[PV.sames]
 |v::l=>by rw[PV.sames,qft v,sames_refl l];rfl
end
theorem qg0{S:List AT} {f:Nat->Int} {l:List PV} {j:Nat} (h:j<l.length):PV.fitL S f j (l.drop j)=(PV.fits S (f j) l[j]&&PV.fitL S f (j+1) (l.drop (j+1))):=by
 rw[List.drop_eq_getElem_cons h,PV.fitL]
theorem q5n{a:AT} {p:Pub} (h:a.ok p) {j:Nat} (hj:j<a.fs.length):a.f.1≠noA/\q02 p (adr a.f.1 (j*9)) a.fs[j].cells:=q1m qjj (by decide) h.2.2.1 hj
theorem q4b{a:AT} {p:Pub} (h:a.ok p) {j:Nat} (hj:j<a.brs.length):a.br.1≠noA/\q02 p (adr a.br.1 (j*1)) [.int .i64 a.brs[j]]:=q1m q3r (by decide) h.2.2.2.1 hj
theorem q5r{S:List AT} {x:SV} {p:Pub} (h:q0l S x p) {j:Nat} (hj:j<S.length):x.1≠noA/\q02 p (adr x.1 (j*10)) S[j].cells:=q1m q3g (by decide) h.1 hj
theorem fitsP_ok(n:Nat) (hf:q15 P 16 (qfn.below muFt n)):q15 P 42 (qka.below muFp (n+1)):=by
 refine q0h mixed (q05 (q01 keys_ok (q01 hf q06))) (W:=wFitsP) Try.func42 (by kernel_rfl) (show 1<=1 by decide) (show 1<=1 by decide) (λs=>by kernel_rfl) λ⟨S,(x:SV),a,v⟩=>(fitsP_eq n S x a v).mpr ?_
 rintro⟨hmu,hS,haf,hv,hq⟩ ⟨p,_,hx,ha,hvo⟩
 have hmu:SizeOf.sizeOf v<n+1:=hmu
 have xl:=GV.x_len hvo
 have yl:=GV.y_len hvo
 have fl:a.f.2.1=a.fs.length:=ha.2.2.1.1
 have bl:a.br.2.1=a.brs.length:=ha.2.2.2.1.1
 have hvs:=hv
 rw[GV.sm_eq]at hvs
 obtain⟨_,_,vl,kl,ksz,_⟩:=hvs
 simp only[decide_eq_true_eq,decide_eq_false_iff_not,Bool.not_eq_true',Bool.not_eq_false',true_and,and_true,eq_self,imp_self,implies_true,Int.toNat_natCast,xl,yl,fl,bl]
 have hbad:(0<v.ks.length/\a.k≠13\/v.b≠0/\a.k≠14)->okP a v.l.length v.ks v.b=false:=λh=>by
  unfold okP;rw[if_pos h]
 have bad:okP a v.l.length v.ks v.b=false->(okP a v.l.length v.ks v.b&&PV.fitL S (q2p a v.b) 0 (GV.pvs v.l))=false:=λh=>by rw[h];rfl
 have child:∀{j:Nat} (hj:j<v.l.length),SizeOf.sizeOf v.l[j]<n:=λ{j} hj=>by
  have h1:=q9z hj
  have:SizeOf.sizeOf v.l<SizeOf.sizeOf v:=by cases v;simp[GV.l];omega
  omega
 have fdrop:∀{j:Nat} (hj:j<v.l.length),PV.fitL S (q2p a v.b) j ((GV.pvs v.l).drop j)=(PV.fits S (q2p a v.b j) (v.l[j]).pv&&PV.fitL S (q2p a v.b) (j+1) ((GV.pvs v.l).drop (j+1))):=λ{j} hj=>by
  have:=qg0 (S:=S) (f:=q2p a v.b) (l:=GV.pvs v.l) (j:=j) (by rw[GV.pvs_len];exact hj)
  rw[q5p hj]at this;exact this
 have fend:PV.fitL S (q2p a v.b) v.l.length ((GV.pvs v.l).drop v.l.length)=true:=by
  rw[List.drop_of_length_le (by rw[GV.pvs_len];exact Nat.le_refl _),PV.fitL]
 refine⟨⟨λh1=>⟨λh2=>bad (hbad (by omega)),λh2=>⟨λh3=>⟨λh4=>bad (hbad (by omega)),λh4=>by omega⟩,λh3=>⟨(),by omega⟩⟩⟩,λh1=>⟨λh3=>⟨λh4=>bad (hbad (by omega)),λh4=>⟨(),by omega⟩⟩,λh3=>⟨(),by omega⟩⟩⟩,?_⟩
 intro _ hnb
 have ok0:okP a v.l.length v.ks v.b=if a.k=9 then decide (v.l.length=a.fs.length)else if a.k=14 then decide (0<=v.b/\v.b<a.brs.length/\v.l.length=1)else if a.k=13 then decide (v.l.length=v.ks.length)&&q31 v.ks else true:=by
  unfold okP;rw[if_neg hnb]
 refine⟨⟨λh9=>⟨λh=>bad (by rw[ok0,if_pos h9];exact decide_eq_false (by omega)),λh=>⟨⟨0,rfl,by omega,by omega,by simp⟩,?_⟩⟩,λh9=>⟨λh14=> ?_,λh14=>⟨λh13=>⟨λh=>bad (by rw[ok0,if_neg h9,if_neg h14,if_pos h13,decide_eq_false (by omega)];rfl),λh=>⟨⟨v.y,v.ks⟩,?_⟩⟩,λh13=>⟨(),h9,h14,by rw[ok0,if_neg h9,if_neg h14,if_neg h13]⟩⟩⟩⟩,?_⟩
 ·rintro j ⟨hj,hl,ht⟩
  refine⟨λhlt=> ?_,λhge=> ?_⟩
  ·have hjf:j<a.fs.length:=by omega
   have hjl:j<v.l.length:=by omega
   have hd:=fdrop hjl
   have hty:q2p a v.b j=a.fs[j].ty:=by unfold q2p;rw[if_pos h9,List.getElem?_eq_getElem hjf]
   refine⟨by omega,(q5n ha hjf).1,a.fs[j].nm,a.fs[j].al.1,a.fs[j].al.2.1,a.fs[j].al.2.2,a.fs[j].ty,a.fs[j].hd,a.fs[j].df.k,a.fs[j].df.n,a.fs[j].df.s,a.fs[j].df.y.1,a.fs[j].df.y.2.1,a.fs[j].df.y.2.2,a.fs[j].df.x.1,a.fs[j].df.x.2.1,a.fs[j].df.x.2.2,λq hq=>(q5n hq.2.1 hjf).2,by omega,(GV.cells_at hvo hjl).1,v.l[j].n,v.l[j].s,v.l[j].x.1,v.l[j].x.2.1,v.l[j].x.2.2,v.l[j].y.1,v.l[j].y.2.1,v.l[j].y.2.2,v.l[j].b,λq hq=>(GV.cells_at hq.2.2 hjl).2,⟨S,x,a.fs[j].ty,v.l[j]⟩,?_⟩
   simp only[true_and,eq_self]
   refine⟨⟨child hjl,hS,GV.sm_at hv hjl⟩,λq hq=>⟨hq.1,GV.ok_at hq.2.2 hjl⟩,λhb=> ?_,λhb=>⟨by omega,j+1,by omega,⟨by omega,hl,?_⟩,by omega⟩⟩
   ·rw[←ht,hd,hty,hb,Bool.false_and,Bool.and_false]
   ·rw[←ht,hd,hty,hb,Bool.true_and]
  ·obtain rfl:j=v.l.length:=by omega
   rw[ok0,if_pos h9,decide_eq_true hl,←ht,fend];rfl
 ·have hok:okP a v.l.length v.ks v.b=decide (0<=v.b/\v.b<a.brs.length/\v.l.length=1):=by rw[ok0,if_neg h9,if_pos h14]
  have c1:0<=v.b\/¬0<=v.b:=by omega
  refine⟨λd1=>⟨λ_=>⟨λd2=>⟨λ_=>⟨λd3=> ?_,λd3=>⟨λh=>d3 h,λ_=>bad (by rw[hok];exact decide_eq_false (by omega))⟩⟩,λh=>absurd d2 h⟩,λd2=>⟨λh=>d2 h,λ_=>bad (by rw[hok];exact decide_eq_false (by omega))⟩⟩,λh=>absurd d1 h⟩,λd1=>⟨λh=>d1 h,λ_=>bad (by rw[hok];exact decide_eq_false (by omega))⟩⟩
  have hl1:v.l.length=1:=by omega
  have h0:0<v.l.length:=by omega
  obtain⟨b,hb⟩:=Int.eq_ofNat_of_zero_le d1
  have hbl:b<a.brs.length:=by omega
  have hbt:v.b.toNat=b:=by omega
  rw[hbt]
  have hty:q2p a v.b 0=a.brs[b]:=by
   unfold q2p
   rw[if_neg h9,if_pos h14,hbt,List.getD_eq_getElem?_getD,List.getElem?_eq_getElem hbl];rfl
  have hd:=fdrop h0
  refine⟨⟨by omega,by omega⟩,(q4b ha hbl).1,a.brs[b],λq hq=>(q4b hq.2.1 hbl).2,⟨by omega,by omega⟩,(GV.cells_at hvo h0).1,v.l[0].n,v.l[0].s,v.l[0].x.1,v.l[0].x.2.1,v.l[0].x.2.2,v.l[0].y.1,v.l[0].y.2.1,v.l[0].y.2.2,v.l[0].b,λq hq=>(GV.cells_at hq.2.2 h0).2,⟨S,x,a.brs[b],v.l[0]⟩,?_⟩
  simp only[true_and,eq_self]
  refine⟨⟨child h0,hS,GV.sm_at hv h0⟩,λq hq=>⟨hq.1,GV.ok_at hq.2.2 h0⟩,λ_=> ?_,λh=>absurd d3 h⟩
  have fe:=fend
  rw[hl1]at fe
  rw[List.drop_zero,hty,Nat.zero_add,fe]at hd
  rw[hok,decide_eq_true ⟨d1,d2,hl1⟩,hd,Bool.and_true,Bool.true_and]
 ·simp only[true_and,eq_self]
  refine⟨yl,⟨kl,ksz⟩,λq hq=>by have:=hq.2.2;rw[GV.ok_eq]at this;exact this.2.1,λhk=>bad (by rw[ok0,if_neg h9,if_neg h14,if_pos h13,hk,Bool.and_false]),λhk=>⟨(),h9,h14,by rw[ok0,if_neg h9,if_neg h14,if_pos h13,hk,decide_eq_true (by omega)];rfl⟩⟩
 ·rintro _ ⟨h9,h14,hok⟩
  have hty:∀j,q2p a v.b j=a.it:=λj=>by unfold q2p;rw[if_neg h9,if_neg h14]
  refine⟨⟨0,rfl,by omega,by simp⟩,?_⟩
  rintro j ⟨hj,ht⟩
  refine⟨λhlt=> ?_,λhge=> ?_⟩
  ·have hjl:j<v.l.length:=by omega
   have hd:=fdrop hjl
   refine⟨by omega,(GV.cells_at hvo hjl).1,v.l[j].n,v.l[j].s,v.l[j].x.1,v.l[j].x.2.1,v.l[j].x.2.2,v.l[j].y.1,v.l[j].y.2.1,v.l[j].y.2.2,v.l[j].b,λq hq=>(GV.cells_at hq.2.2 hjl).2,⟨S,x,a.it,v.l[j]⟩,?_⟩
   simp only[true_and,eq_self]
   refine⟨⟨child hjl,hS,GV.sm_at hv hjl⟩,λq hq=>⟨hq.1,GV.ok_at hq.2.2 hjl⟩,λhb=> ?_,λhb=>⟨by omega,j+1,by omega,⟨by omega,?_⟩,by omega⟩⟩
   ·rw[←ht,hd,hty,hb,Bool.false_and,Bool.and_false]
   ·rw[←ht,hd,hty,hb,Bool.true_and]
  ·obtain rfl:j=v.l.length:=by omega
   rw[hok,←ht,fend];rfl
theorem qd1{s:ByteArray}:s=mkS []↔s.size=0:=⟨λh=>by rw[h];rfl,λh=>by
 apply ByteArray.ext
 apply Array.ext
 ·exact h
 ·intro i h1 h2;exact absurd h2 (by show¬i<0;omega)⟩
theorem fits_ok(n:Nat) (hf:q15 P 42 (qka.below muFp (n+1))):q15 P 16 (qfn.below muFt (n+1)):=by
  refine q0h mixed (q05 (q01 fitsN_ok (q01 qxr (q01 qzb (q01 hf q06))))) (W:=wFits) Try.func16 (by kernel_rfl) (show 1<=1 by decide) (show 1<=1 by decide) (λs=>by kernel_rfl) λ⟨S,(x:SV),(t:Int),v⟩=>(fits_eq n S x t v).mpr ?_
  rintro⟨hmu,hS,hv⟩ ⟨p,_,hx,hvo⟩
  have hmu:SizeOf.sizeOf v<n+1:=hmu
  have xs:x.2.1=S.length:=hx.1.1
  have xl:=GV.x_len hvo
  have yl:=GV.y_len hvo
  have hvs:=hv
  rw[GV.sm_eq]at hvs
  obtain⟨hn,hss,vl,kl,ksz,_⟩:=hvs
  have hfit:PV.fits S t v.pv=if t<0\/S.length<=t then false else match S[t.toNat]? with
    |none=>false
    | some a=>if isN a.k=true then okN a v.n&&decide (v.s.size=0)&&qgc v.l.length v.ks.length v.b else
      if isT a.k=true then okT a v.s&&decide (v.n=0)&&qgc v.l.length v.ks.length v.b else
      if isQ a.k=true then okP a v.l.length v.ks v.b&&PV.fitL S (q2p a v.b) 0 (GV.pvs v.l)&&decide (v.n=0)&&decide (v.s.size=0)else false:=by
    rw[GV.pv_eq,PV.fits,GV.pvs_len]<;>rfl
  simp only[decide_eq_true_eq,decide_eq_false_iff_not,Bool.not_eq_true',Bool.not_eq_false',true_and,and_true,eq_self,imp_self,implies_true,Int.toNat_natCast,xl,yl,xs,exists_const]
  refine⟨λh=>by rw[hfit,if_pos (.inl h)],λh=>⟨λh2=>by rw[hfit,if_pos (.inr h2)],λh2=> ?_⟩⟩
  obtain⟨j,rfl⟩:=Int.eq_ofNat_of_zero_le (show 0<=t by omega)
  have hj:j<S.length:=by omega
  rw[if_neg (by omega)]at hfit
  simp only[Int.toNat_natCast,List.getElem?_eq_getElem hj]at hfit⊢
  have hat:=λq (hq:q0l S x q/\v.ok q)=>q5r hq.1 hj
  have hao:=λq (hq:q0l S x q/\v.ok q)=>hq.1.2 S[j] (List.getElem_mem hj)
  refine⟨by omega,(hat p ⟨hx,hvo⟩).1,S[j].k,S[j].nm,S[j].al.1,S[j].al.2.1,S[j].al.2.2,S[j].it,S[j].sy.1,S[j].sy.2.1,S[j].sy.2.2,S[j].hd,S[j].df,S[j].sz,S[j].f.1,S[j].f.2.1,S[j].f.2.2,S[j].br.1,S[j].br.2.1,S[j].br.2.2,λq hq=>(hat q hq).2,?_⟩
  have hsm:=hS.2 S[j] (List.getElem_mem hj)
  have syl:S[j].sy.2.1=S[j].sys.length:=(hao p ⟨hx,hvo⟩).2.1.1
  have hao2:=λq (hq:q0l S x q/\v.ok q)=>hao q hq
  generalize S[j]=a at*
  have e0:∀{b:Bool} {k:Int},(∀d:Int,d=k->a.k=d->b=true)->a.k=k->b=decide (a.k=k):=λh g=>by rw[h _ rfl g,decide_eq_true g]
  refine⟨⟨λh=>by unfold isN;exact q11 (by omega),λh1=>⟨λh=>by unfold isN;exact q11 (by omega),λh2=>⟨λh=>by unfold isN;exact q11 (by omega),λh3=>⟨λh=>by unfold isN;exact q11 (by omega),λh4=>⟨λh=>by unfold isN;exact q11 (by omega),λh5=>⟨λh=>by unfold isN;exact q11 (by omega),λh6=>by unfold isN;exact q11 (by omega)⟩⟩⟩⟩⟩⟩,?_⟩
  rintro _ _
  refine⟨λhN=>⟨⟨a,v.n⟩,?_⟩,λhN=>⟨⟨λh=>by unfold isT;exact q11 (by omega),λh1=>⟨λh=>by unfold isT;exact q11 (by omega),λh2=>by unfold isT;exact q11 (by omega)⟩⟩,?_⟩⟩
  · rw[if_pos hN]at hfit
    simp only[true_and,eq_self]
    refine⟨⟨hn.1,hn.2,syl,hsm.2.2⟩,λho=>⟨λhs=>⟨v,?_⟩,λhs=> ?_⟩,λho=>by rw[hfit,ho];rfl⟩
    · simp only[true_and,eq_self,xl,yl]
      rw[hfit,ho,decide_eq_true (qd1.1 hs)];rfl
    · rw[hfit,decide_eq_false (λh=>hs (qd1.2 h))];simp
  rintro _ _
  rw[hN,if_neg (by simp)]at hfit
  refine⟨λhT=>⟨⟨a,v.s⟩,?_⟩,λhT=>⟨⟨λh=>by unfold isQ;exact q11 (by omega),λh1=>⟨λh=>by unfold isQ;exact q11 (by omega),λh2=>⟨λh=>by unfold isQ;exact q11 (by omega),λh3=>by unfold isQ;exact q11 (by omega)⟩⟩⟩,?_⟩⟩
  · rw[if_pos hT]at hfit
    simp only[true_and,eq_self]
    refine⟨hss,λho=>⟨λhs=>⟨v,?_⟩,λhs=> ?_⟩,λho=>by rw[hfit,ho];rfl⟩
    · simp only[true_and,eq_self,xl,yl]
      rw[hfit,ho,decide_eq_true hs];rfl
    · rw[hfit,decide_eq_false hs];simp
  rintro _ _
  rw[hT,if_neg (by simp)]at hfit
  refine⟨λhQ=>⟨⟨S,x,a,v⟩,?_⟩,λhQ=>by rw[hfit,hQ];rfl⟩
  rw[if_pos hQ]at hfit
  simp only[true_and,eq_self,xl,yl,xs,and_true]
  refine⟨⟨hmu,hS,hsm.1,hv,hQ⟩,λq hq=>⟨hq.1,hao2 q hq,hq.2⟩,?_⟩
  refine⟨λho=>⟨λhs=> ?_,λhs=> ?_⟩,λho=>by rw[hfit,ho];rfl⟩
  · rw[hfit,ho,decide_eq_true hs]
    exact q11 qd1.symm
  · rw[hfit,ho,decide_eq_false hs];rfl
theorem qj0:∀n,q15 P 16 (qfn.below muFt n)
 |0=>Ct.below_zero (by decide) (by decide) (Sen.enters_of Try.func16 (by kernel_rfl)) λs=>⟨rfl,rfl⟩
 |n+1=>fits_ok n (fitsP_ok n (qj0 n))
theorem qkz:q15 P 16 qfn:=Ct.of_below qj0
def ctQ(σ:Type) (args:σ->List AV) (pre:σ->Prop) (mem:σ->PF) (r:σ->AV):Ct where
 σ:=σ
 args:=args
 h:=λ_=>[]
 m:=1
 pre:=pre
 mem:=mem
 r:=r
 h':=λ_=>[]
 m':=1
 g:=λ_=>none
def byV(b:Int):List Value:=[.int .u8 b]
theorem by_len(b:Int):(byV b).length=1:=rfl
def byM(x:SV) (L:List Int):PF:=⟨true,slP byV x L,λ_ _ h e=>q0i h e⟩
def q0t(L:List Int):Prop:=L.length<1000000/\∀b∈L,0<=b/\b<256
def q0s(L:List Int) (n m:Int):Int:=if L.length<=n then 0 else Int.tmod (L.getD n.toNat 0) m
def q0f(L:List Int) (n:Int):Int:=if L.length<=n then n else n+1
def pkO(x:SV) (n:Int):List (Nat×AO):=[(1, .cells 63 (some 0) false [svA x, .sv (.int .i64 n)])]
def pkOf(h:T AO) (id:Nat):Option (SV×Int):=match h.get id with
  | some (.cells _ _ _ [a,i])=>match a with
    | .sv (.slice a n c)=>match gi i with
      |some (_,i)=>some ((a,n,c),i)
      |none=>none
    |_=>none
  |_=>none
def selNum(l:List AV) (h:T AO):Option (Sel (SV×List Int×Int×Int)):=match l with
  | [.ptr id _,m]=>match pkOf h id with
    | some (x,n)=>match gi m with
      |some (_,m)=>some ⟨List Int,λL=>(x,L,n,m)⟩
      |none=>none
    |none=>none
  |_=>none
def cNum:Ct where
 σ:=SV×List Int×Int×Int
 args:=λ⟨x,L,n,m⟩=>[.ptr 1 0, .sv (.int .i64 m)]
 h:=λ⟨x,L,n,m⟩=>pkO x n
 m:=2
 pre:=λ⟨x,L,n,m⟩=>0<=n/\n<=L.length/\0<m/\m<1000000/\q0t L
 mem:=λ⟨x,L,n,m⟩=>byM x L
 sel:=some selNum
 r:=λ⟨x,L,n,m⟩=> .sv (.int .i64 (q0s L n m))
 h':=λ⟨x,L,n,m⟩=>pkO x (q0f L n)
 m':=2
 g:=λ_=>none
def selOver(l:List AV) (h:T AO):Option (Sel (SV×List Int×Int)):=match l with
  | [.ptr id _]=>match pkOf h id with
    |some (x,n)=>some ⟨List Int,λL=>(x,L,n)⟩
    |none=>none
  |_=>none
def qrr:Ct where
 σ:=SV×List Int×Int
 args:=λ⟨x,L,n⟩=>[.ptr 1 0]
 h:=λ⟨x,L,n⟩=>pkO x n
 m:=2
 pre:=λ⟨x,L,n⟩=>True
 mem:=λ⟨x,L,n⟩=>byM x L
 sel:=some selOver
 r:=λ⟨x,L,n⟩=> .sv (.bool (decide ((L.length:Int)<=n)))
 h':=λ⟨x,L,n⟩=>pkO x n
 m':=2
 g:=λ_=>none
def qlq:Ct:={ctQ ByteArray (λs=>[.sv (.string s)]) (λ_=>True) (λ_=>{}) (λs=> .agg [.int .i64 4, .int .i64 0, .sv (.string s), .nsl, .nsl])with find:=some λl _=>match l with
 | [a]=>gs a
 |_=>none}
inductive N3 where
 |two
 |three
 |four
def N3.v:N3->Nat
 | .two=>2
 | .three=>3
 | .four=>4
def qbo:Ct where
  σ:=N3
  args:=λn=>[.sl 1 0 n.v n.v, .sl 2 0 n.v n.v]
  h:=λ_=>[]
  m:=3
  find:=some λl _=>match l with
    | [.sl _ _ n _,_]=>match n with
      |2=>some .two
      |3=>some .three
      |4=>some .four
      |_=>none
    |_=>none
  r:=λn=> .agg [.int .i64 6, .int .i64 0, .str [], .sl 2 0 n.v n.v, .sl 1 0 n.v n.v]
  h':=λ_=>[]
  m':=3
  g:=λ_=>none
mutual
def GJ.wf:GJ->Prop
 | .mk k n s y l x nm=>s.size<1000/\l.length<1000/\nm.length<=l.length/\(∀t∈nm,t.size<1000)/\(-9223372036854775808<=n/\n<9223372036854775808)/\(k=6->nm.length=l.length)/\GJ.wfs l
def GJ.wfs:List GJ->Prop
 | []=>True
 |g::l=>GJ.wf g/\GJ.wfs l
end
theorem GJ.wf_eq(g:GJ):g.wf=(g.s.size<1000/\g.l.length<1000/\g.nm.length<=g.l.length/\(∀t∈g.nm,t.size<1000)/\(-9223372036854775808<=g.n/\g.n<9223372036854775808)/\(g.k=6->g.nm.length=g.l.length)/\GJ.wfs g.l):=by cases g;rw[GJ.wf];rfl
theorem GJ.ok_eq(g:GJ) (p:Pub):g.ok p=(slP GJ.cells g.y g.l p/\slP txV g.x g.nm p/\GJ.oks g.l p):=by cases g;unfold GJ.ok;rfl
theorem GJ.wfs_at:∀{l:List GJ},GJ.wfs l->∀{i:Nat} (h:i<l.length),l[i].wf
 |v::l,e,0,h=>by unfold GJ.wfs at e;exact e.1
 |v::l,e,i+1,h=>by unfold GJ.wfs at e;exact GJ.wfs_at e.2 (by simpa using h)
theorem GJ.oks_at:∀{l:List GJ} {p:Pub},GJ.oks l p->∀{i:Nat} (h:i<l.length),l[i].ok p
 |v::l,p,e,0,h=>by unfold GJ.oks at e;exact e.1
 |v::l,p,e,i+1,h=>by unfold GJ.oks at e;exact GJ.oks_at e.2 (by simpa using h)
def gM(g:GJ):PF:=⟨true,g.ok,λ_ _ h e=>GJ.ok_mono h e⟩
def zJ:GJ:= .mk 0 0 (mkS []) (none,0,0) [] (none,0,0) []
def q8c(s:ByteArray):List ByteArray->List GJ->Option GJ
 |t::nm,g::l=>if t=s then some g else q8c s nm l
 |_,_=>none
def cGet:Ct:=ctQ (GJ×ByteArray) (λ⟨g,s⟩=>[g.av, .sv (.string s)]) (λ⟨g,s⟩=>g.wf) (λ⟨g,s⟩=>gM g) λ⟨g,s⟩=> .tup [((q8c s g.nm g.l).getD zJ).av, .sv (.bool (q8c s g.nm g.l).isSome)]
def wGet:cGet.σ->WayF:=λ⟨g,s⟩=>{
 ann:=λ_ _ _=>some {σ:=Nat,pre:=λj=>j<=g.nm.length/\q8c s (g.nm.drop j) (g.l.drop j)=q8c s g.nm g.l,t:=λj=>[(6, .sv (.int .i64 (j:Int)))],h:=λ_=>[],more:=0,μ:=λj=>g.nm.length- j,keep:=[1,2,4,5]}}
def isNum(s:ByteArray):Bool:=decide (s=mkS [105,110,116])||decide (s=mkS [108,111,110,103])||decide (s=mkS [102,108,111,97,116])||decide (s=mkS [100,111,117,98,108,101])
def q88(s:ByteArray):Bool:=decide (s=mkS [115,116,114,105,110,103])||decide (s=mkS [98,121,116,101,115])
def qgz(s:ByteArray):Bool:=decide (s=mkS [98,111,111,108,101,97,110])
def qn7(s:ByteArray):Bool:=decide (s=mkS [110,117,108,108])
def qz1(i:Int):ByteArray:=if i=0 then mkS []else if i=1 then mkS [100]else mkS [195,164]
def q61(g:GJ) (L:List Int) (n:Int):Int×Int×ByteArray×Int:=
 if g.k=4/\isNum g.s=true then(3,q0s L n 200- 50,mkS [],q0f L n)else
 if g.k=4/\q88 g.s=true then(4,0,qz1 (q0s L n 3),q0f L n)else
 if g.k=4/\qgz g.s=true then(2,q0s L n 2,mkS [],q0f L n)else
 if g.k=4/\qn7 g.s=true then(1,0,mkS [],n)else
 if g.k=5 then(1,0,mkS [],n)else
 if((q8c (mkS [116,121,112,101]) g.nm g.l).getD zJ).s=mkS [97,114,114,97,121]then(5,0,mkS [],n)else
 if((q8c (mkS [116,121,112,101]) g.nm g.l).getD zJ).s=mkS [101,110,117,109]then(4,0,mkS [88],n)else(6,0,mkS [],n)
def selDef(l:List AV) (h:T AO):Option (Sel (SV×List Int×Int×GJ)):=match l with
  | [.ptr id _,_]=>match pkOf h id with
    |some (x,n)=>some ⟨List Int×GJ,λL=>(x,L.1,n,L.2)⟩
    |none=>none
  |_=>none
def q8n:Ct where
 σ:=SV×List Int×Int×GJ
 args:=λ⟨x,L,n,g⟩=>[.ptr 1 0,g.av]
 h:=λ⟨x,L,n,g⟩=>pkO x n
 m:=2
 pre:=λ⟨x,L,n,g⟩=>0<=n/\n<=L.length/\q0t L/\g.wf
 mem:=λ⟨x,L,n,g⟩=>⟨true,λp=>slP byV x L p/\g.ok p,λ_ _ h e=>⟨q0i h e.1,GJ.ok_mono h e.2⟩⟩
 sel:=some selDef
 r:=λ⟨x,L,n,g⟩=> .agg [.sv (.int .i64 (q61 g L n).1), .sv (.int .i64 (q61 g L n).2.1), .sv (.string (q61 g L n).2.2.1), .nsl, .nsl]
 h':=λ⟨x,L,n,g⟩=>pkO x (q61 g L n).2.2.2
 m':=2
 g:=λ_=>none
def swS(f:ByteArray->Bool) (i k:Nat) (keep:List Nat) (t:T AV):Option LT:=match slS t k with
 |some a=>some {σ:=Unit,t:=λ_=>[(i, .sv (.bool (f a)))],h:=λ_=>[],more:=0,μ:=λ_=>0,keep:=keep}
 |none=>none
def qjb:q8n.σ->WayF:=λ⟨x,L,n,g⟩=>{
 cut:=λi t _=>match i with
  |7=>swS isNum 12 11 [0,3,4,11] t
  |10=>swS q88 21 11 [0,3,4,11] t
  |15=>some {σ:=Unit,pre:=λ_=>¬(g.k=4/\(isNum g.s=true\/q88 g.s=true\/qgz g.s=true\/qn7 g.s=true)),t:=λ_=>[],h:=λ_=>[],more:=0,μ:=λ_=>0,keep:=[0,3,4]}
  |_=>none}
noncomputable section
variable (x0:SV) (x1:Int) (x2:List Int) (x3:Int) (x4:Prop)
 abbrev zat3:=x0.1=x0.1/\x0.2.1=x0.2.1/\x0.2.2=x0.2.2/\x4
 abbrev zat2:=q0s x2 x1 x3=0/\zat3 x0 (q0f x2 x1=x1/\True)
 abbrev zat1:=((-9223372036854775808:Int)<=x1+1/\x1+1<=9223372036854775807)/\((-9223372036854775808:Int)<=x1+1- 1/\x1+1- 1<=9223372036854775807)/\(0<=x1+1- 1/\x1+1- 1<(↑x0.2.1:Int))/\x0.1≠noA/\∃(i0:Int),(∀(i1:Pub),True/\slP byV x0 x2 i1->q02 i1 (adr x0.1 (Int.toNat (x1+1- 1)*1)) [Value.int IntKind.u8 i0])/\((-9223372036854775808:Int)<=i0/\i0<=9223372036854775807)/\x3≠0/\q0s x2 x1 x3=Int.tmod i0 x3/\zat3 x0 (q0f x2 x1=x1+1/\True)
 abbrev zat0:=(decide ((↑x0.2.1:Int)<=x1)=true->zat2 x0 x1 x2 x3)/\(decide ((↑x0.2.1:Int)<=x1)=false->zat1 x0 x1 x2 x3)
end
theorem num_eqz(x:SV) (L:List Int) (n m:Int):q2h P (λ_=>none) Try.f37 cNum (λ_=>{}) ⟨x,L,n,m⟩=(0<=n/\n<=(↑(List.length L):Int)/\0<m/\m<1000000/\q0t L->(∃(p:Pub),True/\slP byV x L p)->zat0 x n L m):=by kernel_rfl
def num_eq(x:SV) (L:List Int) (n m:Int):=Eq.trans (num_eqz x L n m) (by delta zat3 zat2 zat1 zat0;exact rfl)
theorem over_eq(x:SV) (L:List Int) (n:Int):q2h P (λ_=>none) Try.f36 qrr (λ_=>{}) ⟨x,L,n⟩=(True->(∃(p:Nat->Option Obj),True/\slP byV x L p)->decide ((↑(List.length L):Int)<=n)=decide ((↑(Prod.fst (Prod.snd x)):Int)<=n)/\Prod.fst x=Prod.fst x/\Prod.fst (Prod.snd x)=Prod.fst (Prod.snd x)/\Prod.snd (Prod.snd x)=Prod.snd (Prod.snd x)/\n=n/\True):=by kernel_rfl
theorem text_eq(s:ByteArray):q2h P (λ_=>none) Try.f81 qlq (λ_=>{}) s=(True->s=s/\True):=by kernel_rfl
theorem qr2(u:Unit):q2h P (λ_=>none) Try.f80 qbo (λ_=>{}) N3.two=(True->True):=by kernel_rfl
theorem qra(u:Unit):q2h P (λ_=>none) Try.f80 qbo (λ_=>{}) N3.three=(True->True):=by kernel_rfl
theorem qru(u:Unit):q2h P (λ_=>none) Try.f80 qbo (λ_=>{}) N3.four=(True->True):=by kernel_rfl
noncomputable section
variable (x0:ByteArray) (x1:GJ) (x2:Nat) (x3:Prop)
 abbrev zau8:=x2<=List.length (GJ.nm x1)/\q8c x0 (List.drop x2 (GJ.nm x1)) (List.drop x2 (GJ.l x1))=q8c x0 (GJ.nm x1) (GJ.l x1)
 abbrev zau6:=GJ.k x1=GJ.k x1/\GJ.n x1=GJ.n x1/\GJ.s x1=GJ.s x1/\(GJ.y x1).1=(GJ.y x1).1/\(GJ.y x1).2.1=(GJ.y x1).2.1/\(GJ.y x1).2.2=(GJ.y x1).2.2/\(GJ.x x1).1=(GJ.x x1).1/\(GJ.x x1).2.1=(GJ.x x1).2.1/\(GJ.x x1).2.2=(GJ.x x1).2.2/\(∀(i0:Pub),True/\GJ.ok x1 i0->True/\GJ.ok x1 i0)/\(zau8 x0 x1 x2)/\x3
 abbrev zau9:=(↑x2:Int)<(↑(GJ.x x1).2.1:Int)
 abbrev qec:=Option.getD (q8c x0 (GJ.nm x1) (GJ.l x1)) zJ
 abbrev zau3:=(0<=(↑x2:Int)/\(↑x2:Int)<(↑(GJ.y x1).2.1:Int))/\(GJ.y x1).1≠noA/\∃(i0:Int),∃(i1:Int),∃(i2:ByteArray),∃(i3:Option Addr),∃(i4:Nat),∃(i5:Nat),∃(i6:Option Addr),∃(i7:Nat),∃(i8:Nat),(∀(i9:Pub),True/\GJ.ok x1 i9->q02 i9 (adr (GJ.y x1).1 (Int.toNat (↑x2:Int)*5)) [Value.int IntKind.i64 i0,Value.int IntKind.i64 i1,Value.string i2,Value.slice i3 i4 i5,Value.slice i6 i7 i8])/\GJ.k (qec x0 x1)=i0/\GJ.n (qec x0 x1)=i1/\GJ.s (qec x0 x1)=i2/\(GJ.y (qec x0 x1)).1=i3/\(GJ.y (qec x0 x1)).2.1=i4/\(GJ.y (qec x0 x1)).2.2=i5/\(GJ.x (qec x0 x1)).1=i6/\(GJ.x (qec x0 x1)).2.1=i7/\(GJ.x (qec x0 x1)).2.2=i8/\Option.isSome (q8c x0 (GJ.nm x1) (GJ.l x1))=true/\True
 abbrev zau4:=((-9223372036854775808:Int)<=(↑x2:Int)+1/\(↑x2:Int)+1<=9223372036854775807)/\∃(i0:Nat),x0=x0/\(↑i0:Int)=(↑x2:Int)+1/\zau6 x0 x1 i0 (List.length (GJ.nm x1)- i0<List.length (GJ.nm x1)- x2/\True)
 abbrev zau2:=(0<=(↑x2:Int)/\zau9 x1 x2)/\(GJ.x x1).1≠noA/\∃(i0:ByteArray),(∀(i1:Pub),True/\GJ.ok x1 i1->q02 i1 (adr (GJ.x x1).1 (Int.toNat (↑x2:Int)*1)) [Value.string i0])/\(decide (i0=x0)=true->zau3 x0 x1 x2)/\(decide (i0=x0)=false->zau4 x0 x1 x2)
 abbrev zau5:=GJ.k (qec x0 x1)=0/\GJ.n (qec x0 x1)=0/\GJ.s (qec x0 x1)=mkS []/\(GJ.y (qec x0 x1)).1=noA/\(GJ.y (qec x0 x1)).2.1=0/\(GJ.y (qec x0 x1)).2.2=0/\(GJ.x (qec x0 x1)).1=noA/\(GJ.x (qec x0 x1)).2.1=0/\(GJ.x (qec x0 x1)).2.2=0/\Option.isSome (q8c x0 (GJ.nm x1) (GJ.l x1))=false/\True
 abbrev zau1:=(decide (zau9 x1 x2)=true->zau2 x0 x1 x2)/\(decide (zau9 x1 x2)=false->zau5 x0 x1)
 abbrev zau0:=(∃(i0:Nat),x0=x0/\(↑i0:Int)=0/\zau6 x0 x1 i0 True)/\∀(i2:Nat),zau8 x0 x1 i2->zau1 x0 x1 i2
end
theorem get_eqz(g:GJ) (s:ByteArray):q2h P (λ_=>none) Try.f116 cGet (wGet) ⟨g,s⟩=(GJ.wf g->(∃(p:Pub),True/\GJ.ok g p)->zau0 s g):=by kernel_rfl
def get_eq(g:GJ) (s:ByteArray):=Eq.trans (get_eqz g s) (by delta zau8 zau6 zau9 qec zau3 zau4 zau2 zau5 zau1 zau0;exact rfl)
noncomputable section
variable (x0:GJ) (x1:SV) (x2:Int) (x3:List Int) (x4:Prop) (x5:Int) (x6:GJ×ByteArray) (x7:List Int)
 abbrev qzs:=GJ.s x0=mkS [105,110,116]
 abbrev qwg:=x1.1=x1.1/\x1.2.1=x1.2.1/\x1.2.2=x1.2.2/\x4
 abbrev qwn:=qwg x1 (x2=x2/\GJ.k x0=GJ.k x0/\GJ.n x0=GJ.n x0/\GJ.s x0=GJ.s x0/\(GJ.y x0).1=(GJ.y x0).1/\(GJ.y x0).2.1=(GJ.y x0).2.1/\(GJ.y x0).2.2=(GJ.y x0).2.2/\(GJ.x x0).1=(GJ.x x0).1/\(GJ.x x0).2.1=(GJ.x x0).2.1/\(GJ.x x0).2.2=(GJ.x x0).2.2/\(∀(i0:Pub),True/\slP byV x1 x3 i0/\GJ.ok x0 i0->True/\slP byV x1 x3 i0/\GJ.ok x0 i0)/\x4)
 abbrev qwq:=GJ.s x0=mkS [108,111,110,103]
 abbrev zav18:=GJ.s x0=mkS [102,108,111,97,116]
 abbrev zav12:=(decide (zav18 x0)=true->∃(i0:Unit),GJ.s x0=GJ.s x0/\isNum (GJ.s x0)=decide (zav18 x0)/\qwn x0 x1 x2 x3 (True/\True))/\(decide (zav18 x0)=false->∃(i1:Unit),GJ.s x0=GJ.s x0/\isNum (GJ.s x0)=decide (GJ.s x0=mkS [100,111,117,98,108,101])/\qwn x0 x1 x2 x3 (True/\True))
 abbrev zav10:=(decide (qwq x0)=true->∃(i0:Unit),GJ.s x0=GJ.s x0/\isNum (GJ.s x0)=decide (qwq x0)/\qwn x0 x1 x2 x3 (True/\True))/\(decide (qwq x0)=false->zav12 x0 x1 x2 x3)
 abbrev zav13:=x2=x2/\(0<=x2/\x2<=(↑(List.length x3):Int)/\0<x5/\x5<1000000/\q0t x3)/\(∀(i0:Pub),True/\slP byV x1 x7 i0/\GJ.ok x0 i0->slP byV (x1.1,x1.2.1,x1.2.2) x3 i0)/\x4
 abbrev qa1:=(q61 x0 x3 x2).2.2
 abbrev qy0:=GJ.s x0=mkS [115,116,114,105,110,103]
 abbrev zav22:=GJ.s x0=mkS [98,111,111,108,101,97,110]
 abbrev zav7:=(q61 x0 x3 x2).1=x5/\(q61 x0 x3 x2).2.1=0/\(qa1 x0 x2 x3).1=mkS []/\qwg x1 ((qa1 x0 x2 x3).2=x2/\True)
 abbrev zav16:=GJ.k x0=4/\(isNum (GJ.s x0)=true\/q88 (GJ.s x0)=true\/qgz (GJ.s x0)=true\/qn7 (GJ.s x0)=true)
 abbrev zav14:=(decide (GJ.s x0=mkS [110,117,108,108])=true->zav7 x0 x1 x2 x3 1)/\(decide (GJ.s x0=mkS [110,117,108,108])=false->∃(i0:Unit),qwn x0 x1 x2 x3 (¬(zav16 x0)/\True))
 abbrev zav8:=(decide (zav22 x0)=true->∃(i0:List Int),(2:Int)=2/\qwg x1 (zav13 x0 x1 x2 i0 ((q61 x0 x3 x2).1=2/\(q61 x0 x3 x2).2.1=q0s i0 x2 2/\(qa1 x0 x2 x3).1=mkS []/\qwg x1 ((qa1 x0 x2 x3).2=q0f i0 x2/\True)) 2 x3))/\(decide (zav22 x0)=false->zav14 x0 x1 x2 x3)
 abbrev zav5:=(q88 (GJ.s x0)=true->∃(i0:List Int),(3:Int)=3/\qwg x1 (zav13 x0 x1 x2 i0 ((0<=q0s i0 x2 3/\q0s i0 x2 (3:Int)<(↑(nat_lit 3):Int))/\∃(i2:ByteArray),(∀(i3:Nat) (i4:Value),[Value.string i2][i3]? =some i4->[Value.string (mkS []),Value.string (mkS [100]),Value.string (mkS [195,164])][nat_lit 0+Int.toNat (q0s i0 x2 3)*1+i3]? =some i4)/\i2=i2/\True/\(q61 x0 x3 x2).1=4/\(q61 x0 x3 x2).2.1=0/\(qa1 x0 x2 x3).1=i2/\qwg x1 ((qa1 x0 x2 x3).2=q0f i0 x2/\True)) 3 x3))/\(q88 (GJ.s x0)=false->zav8 x0 x1 x2 x3)
 abbrev zav3:=((decide (qy0 x0)=true->∃(i0:Unit),GJ.s x0=GJ.s x0/\q88 (GJ.s x0)=decide (qy0 x0)/\qwn x0 x1 x2 x3 (True/\True))/\(decide (qy0 x0)=false->∃(i2:Unit),GJ.s x0=GJ.s x0/\q88 (GJ.s x0)=decide (GJ.s x0=mkS [98,121,116,101,115])/\qwn x0 x1 x2 x3 (True/\True)))/\∀(i4:Unit),True->zav5 x0 x1 x2 x3
 abbrev zav2:=(isNum (GJ.s x0)=true->∃(i0:List Int),(200:Int)=200/\qwg x1 (zav13 x0 x1 x2 i0 (((-9223372036854775808:Int)<=q0s i0 x2 200- 50/\q0s i0 x2 200- 50<=9223372036854775807)/\(q61 x0 x3 x2).1=3/\(q61 x0 x3 x2).2.1=q0s i0 x2 200- 50/\(qa1 x0 x2 x3).1=mkS []/\qwg x1 ((qa1 x0 x2 x3).2=q0f i0 x2/\True)) 200 x3))/\(isNum (GJ.s x0)=false->zav3 x0 x1 x2 x3)
 abbrev zav1:=((decide (qzs x0)=true->∃(i0:Unit),GJ.s x0=GJ.s x0/\isNum (GJ.s x0)=decide (qzs x0)/\qwn x0 x1 x2 x3 (True/\True))/\(decide (qzs x0)=false->zav10 x0 x1 x2 x3))/\∀(i8:Unit),True->zav2 x0 x1 x2 x3
 abbrev zav20:=Option.getD (q8c x6.2 (GJ.nm x6.1) (GJ.l x6.1)) zJ
 abbrev zav24:=GJ.s (zav20 x6)=mkS [97,114,114,97,121]
 abbrev zav15:=mkS [88]=mkS [88]/\True/\(q61 x0 x3 x2).1=4/\(q61 x0 x3 x2).2.1=0/\(qa1 x0 x2 x3).1=mkS [88]/\qwg x1 ((qa1 x0 x2 x3).2=x2/\True)
 abbrev zav11:=(decide (GJ.s (zav20 x6)=mkS [101,110,117,109])=true->zav15 x0 x1 x2 x3)/\(decide (GJ.s (zav20 x6)=mkS [101,110,117,109])=false->zav7 x0 x1 x2 x3 6)
 abbrev zav6:=(decide (GJ.k x0=5)=true->zav7 x0 x1 x2 x3 1)/\(decide (GJ.k x0=5)=false->∃(i0:GJ×ByteArray),GJ.k i0.1=GJ.k x0/\GJ.n i0.1=GJ.n x0/\GJ.s i0.1=GJ.s x0/\(GJ.y i0.1).1=(GJ.y x0).1/\(GJ.y i0.1).2.1=(GJ.y x0).2.1/\(GJ.y i0.1).2.2=(GJ.y x0).2.2/\(GJ.x i0.1).1=(GJ.x x0).1/\(GJ.x i0.1).2.1=(GJ.x x0).2.1/\(GJ.x i0.1).2.2=(GJ.x x0).2.2/\i0.2=mkS [116,121,112,101]/\GJ.wf i0.1/\(∀(i1:Pub),True/\slP byV x1 x3 i1/\GJ.ok x0 i1->GJ.ok i0.1 i1)/\(decide (zav24 i0)=true->zav7 x0 x1 x2 x3 5)/\(decide (zav24 i0)=false->zav11 x0 x1 x2 x3 i0))
 abbrev zav0:=((decide (GJ.k x0=4)=true->zav1 x0 x1 x2 x3)/\(decide (GJ.k x0=4)=false->∃(i25:Unit),qwn x0 x1 x2 x3 (¬(zav16 x0)/\True)))/\∀(i27:Unit),¬(zav16 x0)->zav6 x0 x1 x2 x3
end
theorem qxi(x:SV) (L:List Int) (n:Int) (g:GJ):q2h P (q0r [(37,cNum),(81,qlq),(116,cGet)]) Try.f82 q8n (qjb) ⟨x,L,n,g⟩=(0<=n/\n<=(↑(List.length L):Int)/\q0t L/\GJ.wf g->(∃(p:Pub),True/\slP byV x L p/\GJ.ok g p)->zav0 g x n L):=by kernel_rfl
def dflt_eq(x:SV) (L:List Int) (n:Int) (g:GJ):=Eq.trans (qxi x L n g) (by delta qzs qwg qwn qwq zav18 zav12 zav10 zav13 qa1 qy0 zav22 zav7 zav16 zav14 zav8 zav5 zav3 zav2 zav1 zav20 zav24 zav15 zav11 zav6 zav0;exact rfl)
theorem qd5:q15 P 81 qlq:=by
 refine q0h mixed q1o (W:=λ_=>{}) Try.func81 (by kernel_rfl) (by decide) (by decide) (λs=>by kernel_rfl) λ(s:ByteArray)=>(text_eq s).mpr ?_
 intro _;exact⟨rfl,trivial⟩
theorem qje:q15 P 80 qbo:=by
 refine q0h mixed q1o (W:=λ_=>{}) Try.func80 (by kernel_rfl) (by decide) (by decide) (λs=>by kernel_rfl) λn=> ?_
 cases n with
 |two=>exact(qr2 ()).mpr λ_=>trivial
 |three=>exact(qra ()).mpr λ_=>trivial
 |four=>exact(qru ()).mpr λ_=>trivial
theorem by_at{x:SV} {L:List Int} {p:Pub} (h:slP byV x L p) {i:Nat} (hi:i<L.length):x.1≠noA/\q02 p (adr x.1 (i*1)) [.int .u8 L[i]]:=q1m by_len (by decide) h hi
theorem qbp:q15 P 37 cNum:=by
 refine q0h mixed q1o (W:=λ_=>{}) Try.func37 (by kernel_rfl) (by decide) (by decide) (λs=>by kernel_rfl) λ⟨(x:SV),(L:List Int),(n:Int),(m:Int)⟩=>(num_eq x L n m).mpr ?_
 rintro⟨hn0,hn1,hm0,hm1,hL,hb⟩ ⟨p,_,hp⟩
 have hx:x.2.1=L.length:=hp.1
 simp only[decide_eq_true_eq,decide_eq_false_iff_not,Bool.not_eq_true',Bool.not_eq_false',true_and,and_true,eq_self,imp_self,implies_true,Int.toNat_natCast,hx]
 obtain⟨i,rfl⟩:=Int.eq_ofNat_of_zero_le hn0
 have e:((i:Int)+1- 1).toNat=i:=by omega
 refine⟨λh=>⟨?_,?_⟩,λh=> ?_⟩
 ·unfold q0s;rw[if_pos h]
 ·unfold q0f;rw[if_pos h]
 ·have hi:i<L.length:=by omega
  rw[e]
  refine⟨by omega,by omega,by omega,(by_at hp hi).1,L[i],λq hq=>(by_at hq hi).2,?_⟩
  have r:q0s L i m=Int.tmod L[i] m:=by
   unfold q0s
   rw[if_neg h,Int.toNat_natCast,List.getD_eq_getElem?_getD,List.getElem?_eq_getElem hi];rfl
  have hbi:=hb L[i] (List.getElem_mem hi)
  have nn:q0f L i=i+1:=by unfold q0f;rw[if_neg h]
  rw[r,nn]
  exact⟨by omega,by omega,rfl,rfl⟩
theorem qhv:q15 P 36 qrr:=by
 refine q0h mixed q1o (W:=λ_=>{}) Try.func36 (by kernel_rfl) (by decide) (by decide) (λs=>by kernel_rfl) λ⟨(x:SV),(L:List Int),(n:Int)⟩=>(over_eq x L n).mpr ?_
 rintro _ ⟨p,_,hp⟩
 have hx:x.2.1=L.length:=hp.1
 simp only[true_and,and_true,eq_self,hx]
theorem qg3{s:ByteArray} {nm:List ByteArray} {l:List GJ} {j:Nat} (h1:j<nm.length) (h2:j<l.length):q8c s (nm.drop j) (l.drop j)=if nm[j]=s then some l[j]else q8c s (nm.drop (j+1)) (l.drop (j+1)):=by
 rw[List.drop_eq_getElem_cons h1,List.drop_eq_getElem_cons h2,q8c]
theorem qz7{y:SV} {l:List GJ} {p:Pub} (h:slP GJ.cells y l p) {i:Nat} (hi:i<l.length):y.1≠noA/\q02 p (adr y.1 (i*5)) l[i].cells:=q1m q80 (by decide) h hi
theorem qks{y:SV} {ks:List ByteArray} {p:Pub} (h:slP txV y ks p) {i:Nat} (hi:i<ks.length):y.1≠noA/\q02 p (adr y.1 (i*1)) [.string ks[i]]:=q1m q13 (by decide) h hi
theorem get_ok:q15 P 116 cGet:=by
 refine q0h mixed q1o (W:=wGet) Try.func116 (by kernel_rfl) (by decide) (by decide) (λs=>by kernel_rfl) λ⟨g,s⟩=>(get_eq g s).mpr ?_
 rintro hw ⟨p,_,hp⟩
 rw[GJ.wf_eq]at hw
 obtain⟨_,hl,hnl,_⟩:=hw
 have gx:=λq (hq:g.ok q)=>(by rw[GJ.ok_eq]at hq;exact hq.2.1:slP txV g.x g.nm q)
 have gy:=λq (hq:g.ok q)=>(by rw[GJ.ok_eq]at hq;exact hq.1:slP GJ.cells g.y g.l q)
 have xl:g.x.2.1=g.nm.length:=(gx p hp).1
 have yl:g.y.2.1=g.l.length:=(gy p hp).1
 simp only[decide_eq_true_eq,decide_eq_false_iff_not,Bool.not_eq_true',Bool.not_eq_false',true_and,and_true,eq_self,imp_self,implies_true,Int.toNat_natCast,xl,yl]
 refine⟨⟨0,rfl,by omega,by simp⟩,?_⟩
 rintro j ⟨hj,ht⟩
 refine⟨λhlt=> ?_,λhge=> ?_⟩
 ·have h1:j<g.nm.length:=by omega
  have h2:j<g.l.length:=by omega
  have hd:=qg3 (s:=s) h1 h2
  rw[ht]at hd
  refine⟨⟨by omega,by omega⟩,(qks (gx p hp) h1).1,g.nm[j],λq hq=>(qks (gx q hq) h1).2,λhs=> ?_,λhs=>⟨by omega,j+1,by omega,⟨by omega,?_⟩,by omega⟩⟩
  ·rw[if_pos hs]at hd
   refine⟨⟨by omega,by omega⟩,(qz7 (gy p hp) h2).1,g.l[j].k,g.l[j].n,g.l[j].s,g.l[j].y.1,g.l[j].y.2.1,g.l[j].y.2.2,g.l[j].x.1,g.l[j].x.2.1,g.l[j].x.2.2,λq hq=>(qz7 (gy q hq) h2).2,?_⟩
   rw[hd]
   exact⟨rfl,rfl,rfl,rfl,rfl,rfl,rfl,rfl,rfl,rfl⟩
  ·rw[if_neg hs]at hd
   exact hd.symm
 ·have:g.nm.drop j=[]:=List.drop_of_length_le (by omega)
  rw[this,q8c]at ht
  ·rw[←ht]
   exact⟨rfl,rfl,rfl,rfl,rfl,rfl,rfl,rfl,rfl,rfl⟩
  ·intros;simp at*
theorem q28{L:List Int} {n m:Int} (hL:q0t L) (h:0<m):0<=q0s L n m/\q0s L n m<m:=by
 unfold q0s
 split
 ·omega
 ·have:0<=L.getD n.toNat 0:=by
   rw[List.getD_eq_getElem?_getD]
   cases hg:L[n.toNat]? with
   |none=>simp
   |some b=>exact(hL.2 b (List.mem_of_getElem? hg)).1
  rw[Int.tmod_eq_emod_of_nonneg this]
  exact⟨Int.emod_nonneg _ (by omega),Int.emod_lt_of_pos _ h⟩
theorem q2k{L:List Int} {n:Int} (h:n<=L.length):n<=q0f L n/\q0f L n<=L.length/\q0f L n<=n+1:=by
 unfold q0f;split<;>omega
theorem dflt_ok:q15 P 82 q8n:=by
  refine q0h mixed (q05 (q01 qbp (q01 qd5 (q01 get_ok q06)))) (W:=qjb) Try.func82 (by kernel_rfl) (by decide) (by decide) (λs=>by kernel_rfl) λ⟨(x:SV),(L:List Int),(n:Int),g⟩=>(dflt_eq x L n g).mpr ?_
  rintro⟨hn0,hn1,hL,hw⟩ ⟨p,_,hp,hg⟩
  simp only[decide_eq_true_eq,decide_eq_false_iff_not,Bool.not_eq_true',Bool.not_eq_false',true_and,and_true,eq_self,imp_self,implies_true,Int.toNat_natCast,exists_const]
  have hnum:=λm (h:0<m)=>q28 (n:=n) (m:=m) hL h
  refine⟨⟨λh4=>⟨⟨λh=> ?_,λh1=>⟨λh=> ?_,λh2=>⟨λh=> ?_,λh3=> ?_⟩⟩⟩,?_⟩,λh4=>λh=>h4 h.1⟩,?_⟩
  · unfold isNum;rw[h];decide
  · unfold isNum;rw[h];decide
  · unfold isNum;rw[h];decide
  · unfold isNum;rw[decide_eq_false h1,decide_eq_false h2,decide_eq_false h3];rfl
  · rintro _ _
    have d0:∀{a b c d:Int×Int×ByteArray×Int},True:=λ{_ _ _ _}=>trivial
    refine⟨λhN=>⟨L,⟨hn0,hn1,by omega,by omega,hL⟩,λq hq=>hq.1,?_,?_⟩,λhN=>⟨⟨λh=> ?_,λh=> ?_⟩,?_⟩⟩
    · have:=hnum 200 (by omega);omega
    · unfold q61;rw[if_pos ⟨h4,hN⟩];exact⟨rfl,rfl,rfl,rfl⟩
    · unfold q88;rw[h];decide
    · unfold q88;rw[decide_eq_false h];rfl
    rintro _ _
    have n1:¬(g.k=4/\isNum g.s=true):=λh=>by rw[hN]at h;exact absurd h.2 (by simp)
    refine⟨λhT=>⟨L,⟨hn0,hn1,by omega,by omega,hL⟩,λq hq=>hq.1,hnum 3 (by omega),qz1 (q0s L n 3),?_,?_⟩,λhT=> ?_⟩
    · have h3:=hnum 3 (by omega)
      generalize q0s L n 3=r at h3⊢
      intro j v hj
      cases j with
      |succ j=>simp at hj
      | zero=>
        have:r=0\/r=1\/r=2:=by omega
        rcases this with rfl|rfl|rfl<;>exact hj
    · unfold q61;rw[if_neg n1,if_pos ⟨h4,hT⟩];exact⟨rfl,rfl,rfl,rfl⟩
    have n2:¬(g.k=4/\q88 g.s=true):=λh=>by rw[hT]at h;exact absurd h.2 (by simp)
    refine⟨λhB=>⟨L,⟨hn0,hn1,by omega,by omega,hL⟩,λq hq=>hq.1,?_⟩,λhB=>⟨λhU=> ?_,λhU=> ?_⟩⟩
    · unfold q61;rw[if_neg n1,if_neg n2,if_pos ⟨h4,by unfold qgz;rw[hB];decide⟩];exact⟨rfl,rfl,rfl,rfl⟩
    · unfold q61;rw[if_neg n1,if_neg n2,if_neg (λh=>by unfold qgz at h;exact absurd h.2 (by rw[decide_eq_false hB];simp)),if_pos ⟨h4,by unfold qn7;rw[hU];decide⟩];exact⟨rfl,rfl,rfl,rfl⟩
    · rintro⟨_,h|h|h|h⟩
      · rw[hN]at h;cases h
      · rw[hT]at h;cases h
      · unfold qgz at h;rw[decide_eq_false hB]at h;cases h
      · unfold qn7 at h;rw[decide_eq_false hU]at h;cases h
  · rintro _ hno
    have n1:¬(g.k=4/\isNum g.s=true):=λh=>hno ⟨h.1, .inl h.2⟩
    have n2:¬(g.k=4/\q88 g.s=true):=λh=>hno ⟨h.1, .inr (.inl h.2)⟩
    have n3:¬(g.k=4/\qgz g.s=true):=λh=>hno ⟨h.1, .inr (.inr (.inl h.2))⟩
    have n4:¬(g.k=4/\qn7 g.s=true):=λh=>hno ⟨h.1, .inr (.inr (.inr h.2))⟩
    unfold q61
    rw[if_neg n1,if_neg n2,if_neg n3,if_neg n4]
    refine⟨λh5=>by rw[if_pos h5];exact⟨rfl,rfl,rfl,rfl⟩,λh5=>⟨⟨g,mkS [116,121,112,101]⟩,?_⟩⟩
    simp only[true_and,eq_self]
    rw[if_neg h5]
    refine⟨hw,λq hq=>hq.2,λh=>by rw[if_pos h];exact⟨rfl,rfl,rfl,rfl⟩,λh=>⟨λh2=>by rw[if_neg h,if_pos h2];exact⟨rfl,rfl,rfl,rfl⟩,λh2=>by rw[if_neg h,if_neg h2];exact⟨rfl,rfl,rfl,rfl⟩⟩⟩
theorem dfOf_bd{g:GJ} {L:List Int} {n:Int} (hL:q0t L) (h:n<=L.length):(n<=(q61 g L n).2.2.2/\(q61 g L n).2.2.2<=L.length)/\(-50<=(q61 g L n).2.1/\(q61 g L n).2.1<200)/\(q61 g L n).2.2.1.size<10:=by
 have b:=q2k h
 have h1:=q28 (n:=n) (m:=200) hL (by omega)
 have h2:=q28 (n:=n) (m:=2) hL (by omega)
 have t:(qz1 (q0s L n 3)).size<10:=by
  unfold qz1
  split
  ·decide
  ·split<;>decide
 have z:(mkS []).size<10:=by decide
 have z1:(mkS [88]).size<10:=by decide
 unfold q61
 repeat' split
 all_goals refine⟨⟨?_,?_⟩,⟨?_,?_⟩,?_⟩
 all_goals first|exact t|exact z|exact z1| (simp only;omega)
def nmO(N:List ByteArray) (r k:Nat):List (Nat×AO):=[(2, .cells 35 (some 0) false [.ssl r 0 N.length 1 k]),(r, .row 9 0 (q00 txV N))]
abbrev TrS:=SV×List Int×Int×Int×List ByteArray
abbrev TrB:=GJ×Int×List ByteArray
def namesOK(L:List Int) (n:Int) (N:List ByteArray):Prop:=N.length<=n+1/\∀t∈N,t.size<100
def q27(L:List Int) (n:Int) (N:List ByteArray):TrB->Prop:=λ⟨g,n',N'⟩=>g.wf/\n<=n'/\n'<=L.length/\N.length<=N'.length/\N'.length+n<=N.length+n'/\∀t∈N',t.size<100
def q75(most:Int):TrS->Prop:=λ⟨x,L,n,d,N⟩=>0<=n/\n<=L.length/\q0t L/\0<=d/\d<=most/\namesOK L n N
def trM:TrS->PF:=λ⟨x,L,n,d,N⟩=>byM x L
def qbj:CtR where
 σ:=TrS
 args:=λ⟨x,L,n,d,N⟩=>[.ptr 1 0, .sv (.int .i64 d), .ptr 2 0]
 h:=λ⟨x,L,n,d,N⟩=>pkO x n++nmO N 3 4
 m:=5
 pre:=q75 4
 mem:=trM
 β:=λ_=>TrB
 post:=λ⟨x,L,n,d,N⟩ b=>q27 L n N b
 pm:=λ_ ⟨g,n',N'⟩=>gM g
 r:=λ_ ⟨g,n',N'⟩=>g.av
 h':=λ⟨x,L,n,d,N⟩ ⟨g,n',N'⟩=>pkO x n'++nmO N' 5 6
 m':=7
def qkl:CtR:={qbj with pre:=q75 3}
def q40:CtR where
 σ:=ByteArray×TrS
 args:=λ⟨s,x,L,n,d,N⟩=>[.ptr 1 0, .sv (.string s), .sv (.int .i64 d), .ptr 2 0]
 h:=λ⟨s,x,L,n,d,N⟩=>pkO x n++nmO N 3 4
 m:=5
 pre:=λ⟨s,t⟩=>s.size<100/\q75 3 t
 mem:=λ⟨s,t⟩=>trM t
 β:=λ_=>TrB
 post:=λ⟨s,x,L,n,d,N⟩ b=>q27 L n N b
 pm:=λ_ ⟨g,n',N'⟩=>gM g
 r:=λ_ ⟨g,n',N'⟩=>g.av
 h':=λ⟨s,x,L,n,d,N⟩ ⟨g,n',N'⟩=>pkO x n'++nmO N' 5 6
 m':=7
def qbb:TrS->Nat:=λ⟨x,L,n,d,N⟩=>(10- d).toNat
def muRp:ByteArray×TrS->Nat:=λ⟨s,t⟩=>qbb t
def wTree:TrS->WayF:=λ⟨x,L,n,d,N⟩=>{
  cut :=λi t _=>match i with
    |4=>some {σ:=Int,pre:=λk=>0<=k/\k<20/\(8<=k->d<=3/\n<L.length),t:=λk=>[(7, .sv (.int .i64 k))],h:=λ_=>pkO x (q0f L n),more:=0,μ:=λ_=>0,keep:=[0,1,2,6]}
    | 15=>match slI t 7 with
      |some k=>some {σ:=Unit,pre:=λ_=>14<=k,t:=λ_=>[],h:=λ_=>[],more:=0,μ:=λ_=>0,keep:=[0,1,2,6,7]}
      |none=>none
    |_=>none
  pub:=λi k=>match i,k with
    |8,9=>[42]
    |10,9=>[54]
    |18,9=>[113]
    |20,7=>[120]
    |24,1=>[147]
    |_,_=>[]}
def wUnion:TrS->WayF:=λ_=>{
 pub:=λi k=>match i,k with
  |7,1=>[40]
  |_,_=>[]}
abbrev RlS:=Int×Int×List ByteArray×List GJ
def rlInv(L:List Int) (n0:Int) (N0:List ByteArray) (m:Int):RlS->Prop:=λ⟨i,n,N,fs⟩=>0<=i/\i<=m/\m<5/\(fs.length:Int)=i/\GJ.wfs fs/\n0<=n/\n<=L.length/\N0.length<=N.length/\N.length+n0<=N0.length+n/\∀t∈N,t.size<100
def fsM(fs:List GJ):PF:=⟨true,GJ.oks fs,λ_ _ h e=>GJ.oks_mono h e⟩
def qkn:ByteArray×TrS->WayF:=λ⟨s,x,L,n0,d,N0⟩=>{
 ann:=λ_ t _=>match slI t 11 with
  |some m=>some {σ:=RlS,pre:=rlInv L n0 N0 m,mem:=λ⟨i,n,N,fs⟩=>fsM fs,t:=λ⟨i,n,N,fs⟩=>[(10, .sv (.int .i64 i))],h:=λ⟨i,n,N,fs⟩=>pkO x n++nmO N 9 10++[(6, .cells 55 (some 0) false [.int .i64 5, .int .i64 0, .str [], .ssl 7 0 fs.length 5 8, .nsl]),(7, .row 55 0 (q00 GJ.cells fs))],more:=4,μ:=λ⟨i,n,N,fs⟩=>(m- i).toNat,keep:=[0,1,2,3,8,9,11],del:=[3]}
  |none=>none
 pub:=λi k=>match i,k with
  |9,3=>[56]
  |_,_=>[]
 pubE:=[1000008]}
noncomputable section
variable (x0:Int) (x1:SV) (x2:List Int) (x3:Int) (x4:List ByteArray) (x5:Int) (x6:Nat) (x7:ByteArray) (x8:List Int) (x9:Nat) (x10:List Int) (x11:Nat->Option Obj) (x12:TrB) (x13:TrS) (x14:Nat) (x15:Option Addr) (x16:Prop) (x17:Nat) (x18:TrB) (x19:Value)
 abbrev q5j:=x1.1=x1.1/\x1.2.1=x1.2.1/\x1.2.2=x1.2.2/\x16
 abbrev qpm:=0<x0/\x0<1000000/\q0t x2
 abbrev qo0:=(∀(i0:Pub),True/\slP byV x1 x2 i0->slP byV (x1.1,x1.2.1,x1.2.2) x8 i0)
 abbrev qs7:=q00 txV x4=q00 txV x4/\List.length x4=List.length x4/\(∀(i0:Pub),True/\slP byV x1 x2 i0->True/\slP byV x1 x2 i0)/\x16
 abbrev qxq:=0<=x0/\x0<20/\(8<=x0->x3<=3/\x5<(↑(List.length x2):Int))
 abbrev zaw20:=(8:Int)≠0/\∃(i0:Int),x0=x0/\i0=Int.tmod (q0s x2 x3 20) 8/\q5j x1 (q0f x8 x3=q0f x2 x3/\qs7 x1 x8 x4 ((qxq i0 x8 x0 x3)/\True))
 abbrev zaw34:=GJ.k x12.1=4/\GJ.n x12.1=0/\GJ.s x12.1=x7/\(GJ.y x12.1).1=noA/\(GJ.y x12.1).2.1=0/\(GJ.y x12.1).2.2=0/\(GJ.x x12.1).1=noA/\(GJ.x x12.1).2.1=0/\(GJ.x x12.1).2.2=0/\x16
 abbrev zaw44:=q00 txV x12.2.2=q00 txV x4/\List.length x12.2.2=List.length x4/\q27 x2 x0 x4 x12/\(∀(i0:Pub),True/\slP byV x1 x2 i0->GJ.ok x12.1 i0)/\True
 abbrev zaw19:=(0<=x0/\x0<(↑(nat_lit 8):Int))/\∃(i0:ByteArray),(∀(i1:Nat) (i2:Value),[Value.string i0][i1]? =some i2->[Value.string (mkS [105,110,116]),Value.string (mkS [108,111,110,103]),Value.string (mkS [115,116,114,105,110,103]),Value.string (mkS [98,121,116,101,115]),Value.string (mkS [98,111,111,108,101,97,110]),Value.string (mkS [110,117,108,108]),Value.string (mkS [102,108,111,97,116]),Value.string (mkS [100,111,117,98,108,101])][nat_lit 0+Int.toNat x0*1+i1]? =some i2)/\i0=i0/\True/\∃(i3:TrB),zaw34 i0 i3 (q5j x1 (i3.2.1=q0f x2 x3/\zaw44 x3 x1 x2 x4 i3))
 abbrev zaw49:=True/\((-9223372036854775808:Int)<=x0+1/\x0+1<=9223372036854775807)/\x16
 abbrev qww:=x13.1.1=x1.1/\x13.1.2.1=x1.2.1/\x13.1.2.2=x1.2.2/\x13.2.2.1=q0f x2 x0/\q00 txV x13.2.2.2.2=q00 txV x4/\List.length x13.2.2.2.2=List.length x4/\x16
 abbrev zaw46:=(∀(i0:Pub),True/\slP byV x1 x2 i0->slP byV x13.1 x13.2.1 i0)
 abbrev qao:=(True/\slP byV x1 x2 x11)/\GJ.ok x12.1 x11
 abbrev qax:=q2q x11 (Addr.add (Addr.mk x6 x9 none) x14)=some x19
 abbrev zaw23:=((qao x1 x2 x11 x12)/\∀(i0:Nat) (i1:Value),[Value.int IntKind.i64 4,Value.int IntKind.i64 0,Value.string (mkS [97,114,114,97,121]),Value.slice noA 0 0,Value.slice noA 0 0,Value.int IntKind.i64 (GJ.k x12.1),Value.int IntKind.i64 (GJ.n x12.1),Value.string (GJ.s x12.1),Value.slice (GJ.y x12.1).1 (GJ.y x12.1).2.1 (GJ.y x12.1).2.2,Value.slice (GJ.x x12.1).1 (GJ.x x12.1).2.1 (GJ.x x12.1).2.2][i0]? =some i1->qax x6 x9 x11 i0 i1)
 abbrev qb8:=mkS [116,121,112,101]
 abbrev qyh:=GJ.k x12.1=6/\GJ.n x12.1=0/\GJ.s x12.1=mkS []/\x16
 abbrev zaw50:=x12.2.1=x18.2.1/\q00 txV x12.2.2=q00 txV x18.2.2/\List.length x12.2.2=List.length x18.2.2/\x16
 abbrev zaw36:=x1.1=x13.1.1/\x1.2.1=x13.1.2.1/\x1.2.2=x13.1.2.2/\zaw50 x12 x16 x18
 abbrev zaw25:=qyh x12 ((GJ.y x12.1).1=some (Addr.mk x6 (x9+nat_lit 0) none)/\(GJ.y x12.1).2.1=nat_lit 2/\(GJ.y x12.1).2.2=nat_lit 2/\(GJ.x x12.1).1=some (Addr.mk x14 (x17+nat_lit 0) none)/\(GJ.x x12.1).2.1=nat_lit 2/\(GJ.x x12.1).2.2=nat_lit 2/\zaw36 x1 x12 x13 x16 x18)
 abbrev zaw13:=True/\∀(i0 i1 i2:Nat),(∃(i3:Pub),(qao x1 x2 i3 x12)/\q02 i3 (Addr.mk i0 i1 none) [Value.int IntKind.i64 4,Value.int IntKind.i64 0,Value.string (mkS [97,114,114,97,121]),Value.slice noA 0 0,Value.slice noA 0 0,Value.int IntKind.i64 (GJ.k x12.1),Value.int IntKind.i64 (GJ.n x12.1),Value.string (GJ.s x12.1),Value.slice (GJ.y x12.1).1 (GJ.y x12.1).2.1 (GJ.y x12.1).2.2,Value.slice (GJ.x x12.1).1 (GJ.x x12.1).2.1 (GJ.x x12.1).2.2])->∀(i4 i5 i6:Nat),(∃(i7:Pub),zaw23 x1 x2 i0 i1 i7 x12/\q02 i7 (Addr.mk i4 i5 none) [Value.string (qb8),Value.string (mkS [105,116,101,109,115])])->∃(i10:TrB),zaw25 x1 i0 i1 i10 x13 i4 (q27 x2 x0 x4 i10/\(∀(i11:Pub),(zaw23 x1 x2 i0 i1 i11 x12/\∀(i14:Nat) (i15:Value),[Value.string (qb8),Value.string (mkS [105,116,101,109,115])][i14]? =some i15->qax i4 i5 i11 i14 i15)->GJ.ok i10.1 i11)/\True) i5 x12
 abbrev zaw9:=mkS [97,114,114,97,121]=mkS [97,114,114,97,121]/\zaw49 x0 (∃(i0:TrS),i0.2.2.2.1=x0+1/\qww x3 x1 x2 x4 i0 ((qbb i0<x6/\q75 4 i0)/\zaw46 x1 x2 i0/\∀(i2:TrB),q27 i0.2.1 i0.2.2.1 i0.2.2.2.2 i2->(∃(i3:Pub),qao x1 x2 i3 i2)->zaw13 x3 x1 x2 x4 i2 i0))
 abbrev zaw24:=((qao x1 x2 x11 x12)/\∀(i0:Nat) (i1:Value),[Value.int IntKind.i64 4,Value.int IntKind.i64 0,Value.string (mkS [109,97,112]),Value.slice noA 0 0,Value.slice noA 0 0,Value.int IntKind.i64 (GJ.k x12.1),Value.int IntKind.i64 (GJ.n x12.1),Value.string (GJ.s x12.1),Value.slice (GJ.y x12.1).1 (GJ.y x12.1).2.1 (GJ.y x12.1).2.2,Value.slice (GJ.x x12.1).1 (GJ.x x12.1).2.1 (GJ.x x12.1).2.2][i0]? =some i1->qax x6 x9 x11 i0 i1)
 abbrev zaw48:=mkS [118,97,108,117,101,115]
 abbrev zaw14:=True/\∀(i0 i1 i2:Nat),(∃(i3:Pub),(qao x1 x2 i3 x12)/\q02 i3 (Addr.mk i0 i1 none) [Value.int IntKind.i64 4,Value.int IntKind.i64 0,Value.string (mkS [109,97,112]),Value.slice noA 0 0,Value.slice noA 0 0,Value.int IntKind.i64 (GJ.k x12.1),Value.int IntKind.i64 (GJ.n x12.1),Value.string (GJ.s x12.1),Value.slice (GJ.y x12.1).1 (GJ.y x12.1).2.1 (GJ.y x12.1).2.2,Value.slice (GJ.x x12.1).1 (GJ.x x12.1).2.1 (GJ.x x12.1).2.2])->∀(i4 i5 i6:Nat),(∃(i7:Pub),zaw24 x1 x2 i0 i1 i7 x12/\q02 i7 (Addr.mk i4 i5 none) [Value.string (qb8),Value.string (zaw48)])->∃(i10:TrB),zaw25 x1 i0 i1 i10 x13 i4 (q27 x2 x0 x4 i10/\(∀(i11:Pub),(zaw24 x1 x2 i0 i1 i11 x12/\∀(i14:Nat) (i15:Value),[Value.string (qb8),Value.string (zaw48)][i14]? =some i15->qax i4 i5 i11 i14 i15)->GJ.ok i10.1 i11)/\True) i5 x12
 abbrev zaw11:=mkS [109,97,112]=mkS [109,97,112]/\zaw49 x0 (∃(i0:TrS),i0.2.2.2.1=x0+1/\qww x3 x1 x2 x4 i0 ((qbb i0<x6/\q75 4 i0)/\zaw46 x1 x2 i0/\∀(i2:TrB),q27 i0.2.1 i0.2.2.1 i0.2.2.2.2 i2->(∃(i3:Pub),qao x1 x2 i3 i2)->zaw14 x3 x1 x2 x4 i2 i0))
 abbrev zaw27:=GJ.k x12.1=GJ.k x18.1/\GJ.n x12.1=GJ.n x18.1/\GJ.s x12.1=GJ.s x18.1/\(GJ.y x12.1).1=(GJ.y x18.1).1/\(GJ.y x12.1).2.1=(GJ.y x18.1).2.1/\(GJ.y x12.1).2.2=(GJ.y x18.1).2.2/\(GJ.x x12.1).1=(GJ.x x18.1).1/\(GJ.x x12.1).2.1=(GJ.x x18.1).2.1/\(GJ.x x12.1).2.2=(GJ.x x18.1).2.2/\x16
 abbrev zaw51:=0<=q0f x2 x0/\q0f x2 x0<=(↑(List.length x8):Int)/\x16
 abbrev zaw16:=(decide (0<(↑(List.length x4):Int))=true->∃(i0:List Int),(↑(List.length x4):Int)=(↑(List.length x4):Int)/\q5j x1 (q0f x2 x0=q0f x2 x0/\(zaw51 x0 x2 i0 (0<(↑(List.length x4):Int)/\(↑(List.length x4):Int)<1000000/\q0t i0))/\qo0 x1 x2 i0/\(0<=q0s i0 (q0f x2 x0) (↑(List.length x4):Int)/\q0s i0 (q0f x2 x0) (↑(List.length x4):Int)<(↑(List.length x4):Int))/\∃(i2:ByteArray),(∀(i3:Nat) (i4:Value),[Value.string i2][i3]? =some i4->(q00 txV x4)[nat_lit 0+Int.toNat (q0s i0 (q0f x2 x0) (↑(List.length x4):Int))*nat_lit 1+i3]? =some i4)/\i2=i2/\True/\AV.ssl (nat_lit 3) (nat_lit 0) (List.length x4) (nat_lit 1) (nat_lit 4)=AV.ssl (nat_lit 3) (nat_lit 0) (List.length x4) (nat_lit 1) (nat_lit 4)/\∃(i5:TrB),zaw34 i2 i5 (q5j x1 (i5.2.1=q0f i0 (q0f x2 x0)/\zaw44 x0 x1 x2 x4 i5))))/\(decide (0<(↑(List.length x4):Int))=false->∃(i7:Unit),x3=x3/\x5=x5/\q5j x1 (q0f x2 x0=q0f x2 x0/\qs7 x1 x2 x4 (14<=x5/\True)))
 abbrev zaw15:=(decide (x0=14)=true->zaw16 x3 x1 x2 x5 x4 x0)/\(decide (x0=14)=false->∃(i9:Unit),x5=x5/\x0=x0/\q5j x1 (q0f x2 x3=q0f x2 x3/\qs7 x1 x2 x4 (14<=x0/\True)))
 abbrev zaw10:=(decide (x0<14)=true->∃(i0:TrS),i0.2.2.2.1=x3/\qww x5 x1 x2 x4 i0 ((qbb i0<x6+1/\q75 3 i0)/\zaw46 x1 x2 i0/\∀(i2:TrB),q27 i0.2.1 i0.2.2.1 i0.2.2.2.2 i2->(∃(i3:Pub),qao x1 x2 i3 i2)->∃(i4:TrB),zaw27 i4 (zaw36 x1 i4 i0 (q27 x2 x5 x4 i4/\(∀(i5:Pub),qao x1 x2 i5 i2->GJ.ok i4.1 i5)/\True) i2) i2))/\(decide (x0<14)=false->zaw15 x0 x1 x2 x5 x4 x3)
 abbrev zaw6:=(decide (x0=10)=true->zaw11 x3 x1 x2 x5 x4 x6)/\(decide (x0=10)=false->zaw10 x0 x1 x2 x3 x4 x5 x6)
 abbrev zaw5:=(decide (x0<10)=true->zaw9 x3 x1 x2 x5 x4 x6)/\(decide (x0<10)=false->zaw6 x0 x1 x2 x3 x4 x5 x6)
 abbrev zaw22:=((True/\slP byV x1 x2 x11)/\∀(i0:Nat) (i1:Value),[Value.int IntKind.i64 4,Value.int IntKind.i64 0,Value.string (mkS [102,105,120,101,100]),Value.slice noA 0 0,Value.slice noA 0 0,Value.int IntKind.i64 4,Value.int IntKind.i64 0,Value.string (mkS [78]++x7),Value.slice noA 0 0,Value.slice noA 0 0,Value.int IntKind.i64 3,Value.int IntKind.i64 (q0s x8 (q0f x2 x0) 4),Value.string (mkS []),Value.slice noA 0 0,Value.slice noA 0 0][i0]? =some i1->qax x6 x9 x11 i0 i1)
 abbrev qmu:=mkS [110,97,109,101]
 abbrev zaw33:=qyh x12 ((GJ.y x12.1).1=some (Addr.mk x6 (x9+nat_lit 0) none)/\(GJ.y x12.1).2.1=nat_lit 3/\(GJ.y x12.1).2.2=nat_lit 3/\(GJ.x x12.1).1=some (Addr.mk x14 (x17+nat_lit 0) none)/\(GJ.x x12.1).2.1=nat_lit 3/\(GJ.x x12.1).2.2=nat_lit 3/\x16)
 abbrev zaw35:=q00 txV x12.2.2=q00 txV x4++[Value.string (mkS [78]++x7)]/\List.length x12.2.2=List.length x4+nat_lit 1/\q27 x2 x0 x4 x12/\x16
 abbrev zaw8:=mkS [102,105,120,101,100]=mkS [102,105,120,101,100]/\True/\mkS [78]++x7=mkS [78]++x7/\True/\∃(i0:List Int),(4:Int)=4/\q5j x1 (q0f x2 x0=q0f x2 x0/\(zaw51 x0 x2 i0 (qpm 4 i0))/\qo0 x1 x2 i0/\True/\∀(i2 i3 i4:Nat),(∃(i5:Pub),(True/\slP byV x1 x2 i5)/\q02 i5 (Addr.mk i2 i3 none) [Value.int IntKind.i64 4,Value.int IntKind.i64 0,Value.string (mkS [102,105,120,101,100]),Value.slice noA 0 0,Value.slice noA 0 0,Value.int IntKind.i64 4,Value.int IntKind.i64 0,Value.string (mkS [78]++x7),Value.slice noA 0 0,Value.slice noA 0 0,Value.int IntKind.i64 3,Value.int IntKind.i64 (q0s i0 (q0f x2 x0) 4),Value.string (mkS []),Value.slice noA 0 0,Value.slice noA 0 0])->∀(i6 i7 i8:Nat),(∃(i9:Pub),zaw22 x0 x1 x2 i2 x7 i0 i3 i9/\q02 i9 (Addr.mk i6 i7 none) [Value.string (qb8),Value.string (qmu),Value.string (mkS [115,105,122,101])])->∃(i12:TrB),zaw33 i2 i3 i12 i6 (q5j x1 (i12.2.1=q0f i0 (q0f x2 x0)/\zaw35 x0 x2 x4 x7 i12 ((∀(i13:Pub),(zaw22 x0 x1 x2 i2 x7 i0 i3 i13/\∀(i16:Nat) (i17:Value),[Value.string (qb8),Value.string (qmu),Value.string (mkS [115,105,122,101])][i16]? =some i17->qax i6 i7 i13 i16 i17)->GJ.ok i12.1 i13)/\True))) i7)
 abbrev qov:=(True/\slP byV x1 x2 x11)/\∀(i0:Nat) (i1:Value),[Value.int IntKind.i64 4,Value.int IntKind.i64 0,Value.string (mkS [88]),Value.slice noA 0 0,Value.slice noA 0 0,Value.int IntKind.i64 4,Value.int IntKind.i64 0,Value.string (mkS [89]),Value.slice noA 0 0,Value.slice noA 0 0,Value.int IntKind.i64 4,Value.int IntKind.i64 0,Value.string (mkS [90]),Value.slice noA 0 0,Value.slice noA 0 0][i0]? =some i1->qax x6 x9 x11 i0 i1
 abbrev zaw47:=mkS [101,110,117,109]
 abbrev zaw43:=slA (some (Addr.mk x6 (x9+nat_lit 0) none)) (nat_lit 3) (nat_lit 0) 5
 abbrev zaw31:=Int.rec (λ(i0:Nat)=>(λ(i1:Nat)=>(λ(i2:Nat)=>i2) i1) i0) (λ(i3:Nat)=>(λ(i4:Nat)=>(λ(i5:Nat)=>(0:Nat)) i4) i3) ((1:Int)+q0s x2 (q0f x8 x0) 3)- nat_lit 0
 abbrev qwm:=(qov x1 x2 x6 x9 x11)/\nat_lit 4<=x14/\q1l x11 x15 (List.take (nat_lit 4*nat_lit 5) ([Value.int IntKind.i64 4,Value.int IntKind.i64 0,Value.string (zaw47),Value.slice noA 0 0,Value.slice noA 0 0,Value.int IntKind.i64 4,Value.int IntKind.i64 0,Value.string (mkS [78]++x7),Value.slice noA 0 0,Value.slice noA 0 0,Value.int IntKind.i64 5,Value.int IntKind.i64 0,Value.string (mkS []),Value.slice (zaw43 x6 x9) (zaw31 x0 x8 x2) (nat_lit 3- nat_lit 0),Value.slice noA 0 0]++[Value.int IntKind.i64 4,Value.int IntKind.i64 0,Value.string (mkS [88]),Value.slice noA 0 0,Value.slice noA 0 0]))
 abbrev zaw39:=mkS [115,121,109,98,111,108,115]
 abbrev zaw32:=List.take (nat_lit 4*nat_lit 1) ([Value.string (qb8),Value.string (qmu),Value.string (zaw39)]++[Value.string (mkS [100,101,102,97,117,108,116])])
 abbrev zaw7:=(nat_lit 3+1)*16<=140737488355328/\mkS [88]=mkS [88]/\True/\(nat_lit 3+1)*80<=140737488355328/\∀(i0 i1 i2:Nat) (i3:Option Addr) (i4 i5:Nat),(∃(i6:Pub),qwm x0 x1 x2 x6 x7 x8 x9 i6 i5 i3)->∀(i15 i16 i17:Nat) (i18:Option Addr) (i19 i20:Nat),(∃(i21:Pub),(qwm x0 x1 x2 x6 x7 x8 x9 i21 i5 i3)/\nat_lit 4<=i20/\q1l i21 i18 (zaw32))->∃(i30:TrB),qyh i30 ((GJ.y i30.1).1=i3/\(GJ.y i30.1).2.1=nat_lit 4/\(GJ.y i30.1).2.2=i5/\(GJ.x i30.1).1=i18/\(GJ.x i30.1).2.1=nat_lit 4/\(GJ.x i30.1).2.2=i20/\q5j x1 (i30.2.1=q0f x10 (q0f x8 (q0f x2 x0))/\zaw35 x0 x2 x4 x7 i30 ((∀(i31:Pub),(qwm x0 x1 x2 x6 x7 x8 x9 i31 i5 i3)/\nat_lit 4<=i20/\q1l i31 i18 (zaw32)->GJ.ok i30.1 i31)/\True)))
 abbrev zaw21:=((qov x1 x2 x6 x9 x11)/\∀(i0:Nat) (i1:Value),[Value.int IntKind.i64 4,Value.int IntKind.i64 0,Value.string (zaw47),Value.slice noA 0 0,Value.slice noA 0 0,Value.int IntKind.i64 4,Value.int IntKind.i64 0,Value.string (mkS [78]++x7),Value.slice noA 0 0,Value.slice noA 0 0,Value.int IntKind.i64 5,Value.int IntKind.i64 0,Value.string (mkS []),Value.slice (zaw43 x6 x9) (zaw31 x0 x8 x2) (nat_lit 3- nat_lit 0),Value.slice noA 0 0][i0]? =some i1->qax x14 x17 x11 i0 i1)
 abbrev zaw4:=nat_lit 3<=nat_lit 3/\((0:Int)<=1+q0s x2 (q0f x8 x0) 3/\(1:Int)+q0s x2 (q0f x8 x0) (3:Int)<=(↑(nat_lit 3):Int))/\mkS [101,110,117,109]=mkS [101,110,117,109]/\True/\mkS [78]++x7=mkS [78]++x7/\True/\True/\∃(i0:List Int),(2:Int)=2/\q5j x1 (q0f x2 (q0f x8 x0)=q0f x2 (q0f x8 x0)/\(0<=q0f x2 (q0f x8 x0)/\q0f x2 (q0f x8 x0)<=(↑(List.length i0):Int)/\qpm 2 i0)/\(∀(i1:Pub),(qov x1 x8 x6 x9 i1)->slP byV (x1.1,x1.2.1,x1.2.2) i0 i1)/\(decide (q0s i0 (q0f x2 (q0f x8 x0)) (2:Int)=0)=true->zaw7 x0 x1 x8 x4 x6 x7 x2 x9 i0)/\(decide (q0s i0 (q0f x2 (q0f x8 x0)) (2:Int)=0)=false->∀(i44 i45 i46:Nat),(∃(i47:Pub),(qov x1 x8 x6 x9 i47)/\q02 i47 (Addr.mk i44 i45 none) [Value.int IntKind.i64 4,Value.int IntKind.i64 0,Value.string (zaw47),Value.slice noA 0 0,Value.slice noA 0 0,Value.int IntKind.i64 4,Value.int IntKind.i64 0,Value.string (mkS [78]++x7),Value.slice noA 0 0,Value.slice noA 0 0,Value.int IntKind.i64 5,Value.int IntKind.i64 0,Value.string (mkS []),Value.slice (zaw43 x6 x9) (zaw31 x0 x2 x8) (nat_lit 3- nat_lit 0),Value.slice noA 0 0])->∀(i56 i57 i58:Nat),(∃(i59:Pub),zaw21 x0 x1 x8 x6 x7 x2 x9 i59 i44 i45/\q02 i59 (Addr.mk i56 i57 none) [Value.string (qb8),Value.string (qmu),Value.string (zaw39)])->∃(i70:TrB),zaw33 i44 i45 i70 i56 (q5j x1 (i70.2.1=q0f i0 (q0f x2 (q0f x8 x0))/\zaw35 x0 x8 x4 x7 i70 ((∀(i71:Pub),(zaw21 x0 x1 x8 x6 x7 x2 x9 i71 i44 i45/\∀(i82:Nat) (i83:Value),[Value.string (qb8),Value.string (qmu),Value.string (zaw39)][i82]? =some i83->qax i56 i57 i71 i82 i83)->GJ.ok i70.1 i71)/\True))) i57))
 abbrev zaw3:=mkS [88]=mkS [88]/\True/\mkS [89]=mkS [89]/\True/\mkS [90]=mkS [90]/\True/\∃(i0:List Int),(3:Int)=3/\q5j x1 (q0f x2 x0=q0f x2 x0/\(zaw51 x0 x2 i0 (qpm 3 i0))/\qo0 x1 x2 i0/\((-9223372036854775808:Int)<=1+q0s i0 (q0f x2 x0) 3/\(1:Int)+q0s i0 (q0f x2 x0) (3:Int)<=9223372036854775807)/\∀(i2 i3 i4:Nat),(∃(i5:Pub),(True/\slP byV x1 x2 i5)/\q02 i5 (Addr.mk i2 i3 none) [Value.int IntKind.i64 4,Value.int IntKind.i64 0,Value.string (mkS [88]),Value.slice noA 0 0,Value.slice noA 0 0,Value.int IntKind.i64 4,Value.int IntKind.i64 0,Value.string (mkS [89]),Value.slice noA 0 0,Value.slice noA 0 0,Value.int IntKind.i64 4,Value.int IntKind.i64 0,Value.string (mkS [90]),Value.slice noA 0 0,Value.slice noA 0 0])->zaw4 x0 x1 i0 x4 i2 x7 x2 i3)
 abbrev zaw2:=(decide (x0=16)=true->zaw3 x3 x1 x2 x4 x7)/\(decide (x0=16)=false->∃(i90:ByteArray×TrS),i90.1=mkS [78]++x7/\i90.2.2.2.2.1=x5/\i90.2.1.1=x1.1/\i90.2.1.2.1=x1.2.1/\i90.2.1.2.2=x1.2.2/\i90.2.2.2.1=q0f x2 x3/\q00 txV i90.2.2.2.2.2=q00 txV x4++[Value.string (mkS [78]++x7)]/\List.length i90.2.2.2.2.2=List.length x4+nat_lit 1/\(muRp i90<x6+1/\ByteArray.size i90.1<100/\q75 3 i90.2)/\(∀(i91:Pub),True/\slP byV x1 x2 i91->slP byV i90.2.1 i90.2.2.1 i91)/\∀(i92:TrB),q27 i90.2.2.1 i90.2.2.2.1 i90.2.2.2.2.2 i92->(∃(i93:Pub),qao x1 x2 i93 i92)->∃(i94:TrB),zaw27 i94 (x1.1=i90.2.1.1/\x1.2.1=i90.2.1.2.1/\x1.2.2=i90.2.1.2.2/\zaw50 i94 (q27 x2 x3 x4 i94/\(∀(i95:Pub),qao x1 x2 i95 i92->GJ.ok i94.1 i95)/\True) i92) i92)
 abbrev zaw1:=(26:Int)≠0/\((-9223372036854775808:Int)<=97+Int.tmod (↑(List.length x4):Int) 26/\(97:Int)+Int.tmod (↑(List.length x4):Int) (26:Int)<=9223372036854775807)/\∃(i0:ByteArray),ByteArray.size i0=1/\qod [Value.int IntKind.u8 (IntKind.wrap IntKind.u8 ((97:Int)+Int.tmod (↑(List.length x4):Int) 26))] 0 (q1f i0)/\ByteArray.size (mkS [78])+ByteArray.size i0<=9223372036854775807/\List.length (q00 txV x4)=List.length x4*1/\(List.length x4+nat_lit 1)*16<=140737488355328/\(decide (x0=15)=true->zaw8 x3 x1 x2 x4 i0)/\(decide (x0=15)=false->zaw2 x0 x1 x2 x3 x4 x5 x6 i0)
 abbrev zaw0:=((decide (x0<8)=true->zaw19 x0 x1 x2 x3 x4)/\(decide (x0<8)=false->zaw5 x0 x1 x2 x5 x4 x3 x6))/\∀(i62:Unit),14<=x0->zaw1 x0 x1 x2 x3 x4 x5 x6
end
theorem tree_eqz(c:Nat) (x:SV) (L:List Int) (n d:Int) (N:List ByteArray):q68 P (q0r [(37,cNum),(36,qrr),(81,qlq),(80,qbo)]) (q1s [(79,qbj.below qbb c),(115,qkl.below qbb (c+1)),(47,q40.below muRp (c+1))]) Try.f79 (qbj.below qbb (c+1)) (wTree) ⟨x,L,n,d,N⟩=(qbb (x,L,n,d,N)<c+1/\q75 4 (x,L,n,d,N)->(∃(p:Pub),True/\slP byV x L p)->∃(b:List Int),(20:Int)=20/\q5j x (n=n/\(0<=n/\n<=(↑(List.length b):Int)/\qpm 20 b)/\qo0 x L b/\((decide (3<d)=true->zaw20 d x b n N L)/\(decide (3<d)=false->∃(b_1:List Int),q5j x (q0f b n=q0f b n/\True/\qo0 x L b_1/\(decide ((↑(List.length b_1):Int)<=q0f b n)=true->zaw20 d x b n N L)/\(decide ((↑(List.length b_1):Int)<=q0f b n)=false->∃(s:Int),d=d/\s=q0s b n 20/\q5j x (q0f L n=q0f b n/\qs7 x L N ((qxq s L d n)/\True))))))/\∀(s:Int),qxq s L d n->zaw0 s x L n N d c)):=by kernel_rfl
def tree_eq(c:Nat) (x:SV) (L:List Int) (n d:Int) (N:List ByteArray):=Eq.trans (tree_eqz c x L n d N) (by delta q5j qpm qo0 qs7 qxq zaw20 zaw34 zaw44 zaw19 zaw49 qww zaw46 qao qax zaw23 qb8 qyh zaw50 zaw36 zaw25 zaw13 zaw9 zaw24 zaw48 zaw14 zaw11 zaw27 zaw51 zaw16 zaw15 zaw10 zaw6 zaw5 zaw22 qmu zaw33 zaw35 zaw8 qov zaw47 zaw43 zaw31 qwm zaw39 zaw32 zaw7 zaw21 zaw4 zaw3 zaw2 zaw1 zaw0;exact rfl)
noncomputable section
variable (x0:SV) (x1:Int) (x2:List Int) (x3:Int) (x4:List ByteArray) (x5:Nat) (x6:TrB) (x7:ByteArray) (x8:TrS) (x9:List Int) (x10:TrB) (x11:Prop) (x12:Nat->Option Obj) (x13:Option Addr)
 abbrev zax13:=(2:Int)=2/\x0.1=x0.1/\x0.2.1=x0.2.1/\x0.2.2=x0.2.2/\x11
 abbrev zax16:=(∀(i0:Pub),True/\slP byV x0 x2 i0->slP byV (x0.1,x0.2.1,x0.2.2) x9 i0)
 abbrev zax18:=((-9223372036854775808:Int)<=x1+1/\x1+1<=9223372036854775807)
 abbrev zax14:=x8.2.2.2.1=x1+1/\x8.1.1=x0.1/\x8.1.2.1=x0.2.1/\x8.1.2.2=x0.2.2/\x11
 abbrev zax12:=q00 txV x8.2.2.2.2=q00 txV x4/\List.length x8.2.2.2.2=List.length x4/\(qbb x8<x5/\q75 4 x8)/\(∀(i0:Pub),True/\slP byV x0 x2 i0->slP byV x8.1 x8.2.1 i0)/\x11
 abbrev qds:=(True/\slP byV x0 x2 x12)/\GJ.ok x6.1 x12
 abbrev qnp:=mkS [110,117,108,108]
 abbrev zax7:=[Value.int IntKind.i64 4,Value.int IntKind.i64 0,Value.string (qnp),Value.slice noA 0 0,Value.slice noA 0 0]++[Value.int IntKind.i64 4,Value.int IntKind.i64 0,Value.string x7,Value.slice noA 0 0,Value.slice noA 0 0]
 abbrev zax8:=(qds x0 x2 x6 x12)/\nat_lit 3<=x5/\q1l x12 x13 (List.take (nat_lit 3*nat_lit 5) ([Value.int IntKind.i64 4,Value.int IntKind.i64 0,Value.string (qnp),Value.slice noA 0 0,Value.slice noA 0 0]++[Value.int IntKind.i64 4,Value.int IntKind.i64 0,Value.string x7,Value.slice noA 0 0,Value.slice noA 0 0]++[Value.int IntKind.i64 (GJ.k x6.1),Value.int IntKind.i64 (GJ.n x6.1),Value.string (GJ.s x6.1),Value.slice (GJ.y x6.1).1 (GJ.y x6.1).2.1 (GJ.y x6.1).2.2,Value.slice (GJ.x x6.1).1 (GJ.x x6.1).2.1 (GJ.x x6.1).2.2]))
 abbrev qqj:=GJ.k x6.1=5/\GJ.n x6.1=0/\GJ.s x6.1=mkS []/\x11
 abbrev zax6:=(GJ.x x6.1).1=noA/\(GJ.x x6.1).2.1=0/\(GJ.x x6.1).2.2=0/\x0.1=x8.1.1/\x0.2.1=x8.1.2.1/\x0.2.2=x8.1.2.2/\x6.2.1=x10.2.1/\q00 txV x6.2.2=q00 txV x10.2.2/\List.length x6.2.2=List.length x10.2.2/\q27 x2 x1 x4 x6/\x11
 abbrev zax4:=List.length (zax7 x7)=nat_lit 2*5/\(nat_lit 2+nat_lit 1)*80<=140737488355328/\∀(i0 i1 i2:Nat) (i3:Option Addr) (i4 i5:Nat),(∃(i6:Pub),zax8 x0 x2 i5 x6 x7 i6 i3)->∃(i7:TrB),qqj i7 ((GJ.y i7.1).1=i3/\(GJ.y i7.1).2.1=nat_lit 3/\(GJ.y i7.1).2.2=i5/\zax6 x0 x1 x2 x4 i7 x8 x6 ((∀(i8:Pub),zax8 x0 x2 i5 x6 x7 i8 i3->GJ.ok i7.1 i8)/\True))
 abbrev zax17:=(GJ.y x6.1).1=x13/\(GJ.y x6.1).2.1=nat_lit 2/\(GJ.y x6.1).2.2=x5/\x11
 abbrev zax1:=(decide (GJ.k x6.1=6)=true->zax4 x0 x1 x2 x4 x6 x7 x8)/\(decide (GJ.k x6.1=6)=false->∀(i9 i10 i11:Nat) (i12:Option Addr) (i13 i14:Nat),(∃(i15:Pub),(qds x0 x2 x6 i15)/\nat_lit 2<=i14/\q1l i15 i12 (List.take (nat_lit 2*nat_lit 5) (zax7 x7)))->∃(i16:TrB),qqj i16 (zax17 i14 i16 (zax6 x0 x1 x2 x4 i16 x8 x6 ((∀(i17:Pub),(qds x0 x2 x6 i17)/\nat_lit 2<=i14/\q1l i17 i12 (List.take (nat_lit 2*nat_lit 5) (zax7 x7))->GJ.ok i16.1 i17)/\True)) i12))
 abbrev zax9:=(qds x0 x2 x6 x12)/\nat_lit 2<=x5/\q1l x12 x13 (List.take (nat_lit 2*nat_lit 5) ([Value.int IntKind.i64 4,Value.int IntKind.i64 0,Value.string (qnp),Value.slice noA 0 0,Value.slice noA 0 0]++[Value.int IntKind.i64 (GJ.k x6.1),Value.int IntKind.i64 (GJ.n x6.1),Value.string (GJ.s x6.1),Value.slice (GJ.y x6.1).1 (GJ.y x6.1).2.1 (GJ.y x6.1).2.2,Value.slice (GJ.x x6.1).1 (GJ.x x6.1).2.1 (GJ.x x6.1).2.2]))
 abbrev zax5:=(nat_lit 1+1)*80<=140737488355328/\∀(i0 i1 i2:Nat) (i3:Option Addr) (i4 i5:Nat),(∃(i6:Pub),zax9 x0 x2 i5 x6 i6 i3)->∃(i7:TrB),qqj i7 (zax17 i5 i7 (zax6 x0 x1 x2 x4 i7 x8 x6 ((∀(i8:Pub),zax9 x0 x2 i5 x6 i8 i3->GJ.ok i7.1 i8)/\True)) i3)
 abbrev zax3:=(decide (GJ.k x6.1=6)=true->zax5 x0 x1 x2 x4 x6 x8)/\(decide (GJ.k x6.1=6)=false->∀(i9 i10 i11:Nat),(∃(i12:Pub),(qds x0 x2 x6 i12)/\q02 i12 (Addr.mk i9 i10 none) [Value.int IntKind.i64 4,Value.int IntKind.i64 0,Value.string (qnp),Value.slice noA 0 0,Value.slice noA 0 0])->∃(i13:TrB),qqj i13 ((GJ.y i13.1).1=some (Addr.mk i9 (i10+nat_lit 0) none)/\(GJ.y i13.1).2.1=nat_lit 1/\(GJ.y i13.1).2.2=nat_lit 1/\zax6 x0 x1 x2 x4 i13 x8 x6 ((∀(i14:Pub),((qds x0 x2 x6 i14)/\∀(i15:Nat) (i16:Value),[Value.int IntKind.i64 4,Value.int IntKind.i64 0,Value.string (qnp),Value.slice noA 0 0,Value.slice noA 0 0][i15]? =some i16->q2q i14 (Addr.add (Addr.mk i9 i10 none) i15)=some i16)->GJ.ok i13.1 i14)/\True)))
 abbrev zax2:=zax18 x1/\∃(i0:TrS),zax14 x0 x1 i0 (i0.2.2.1=q0f x2 x3/\zax12 x0 x9 x4 x5 i0 (∀(i2:TrB),q27 i0.2.1 i0.2.2.1 i0.2.2.2.2 i2->(∃(i3:Pub),qds x0 x9 i2 i3)->zax3 x0 x3 x9 x4 i2 i0))
 abbrev zax0:=mkS [110,117,108,108]=mkS [110,117,108,108]/\True/\∃(i0:List Int),zax13 x0 (x1=x1/\(0<=x1/\x1<=(↑(List.length i0):Int)/\(0:Int)<2/\(2:Int)<1000000/\q0t i0)/\zax16 x0 x2 i0/\(decide (q0s i0 x1 (2:Int)=0)=true->∃(i2:List Int),zax13 x0 (q0f i0 x1=q0f i0 x1/\(0<=q0f i0 x1/\q0f i0 x1<=(↑(List.length i2):Int)/\(0:Int)<2/\(2:Int)<1000000/\q0t i2)/\zax16 x0 x2 i2/\(0<=q0s i2 (q0f i0 x1) 2/\q0s i2 (q0f i0 x1) (2:Int)<(↑(2:Nat):Int))/\∃(i4:ByteArray),(∀(i5:Nat) (i6:Value),[Value.string i4][i5]? =some i6->[Value.string (mkS [105,110,116]),Value.string (mkS [115,116,114,105,110,103])][(0:Nat)+Int.toNat (q0s i2 (q0f i0 x1) 2)*1+i5]? =some i6)/\i4=i4/\True/\(nat_lit 1+1)*80<=140737488355328/\zax18 x3/\∃(i7:TrS),zax14 x0 x3 i7 (i7.2.2.1=q0f i2 (q0f i0 x1)/\zax12 x0 x2 x4 x5 i7 (∀(i9:TrB),q27 i7.2.1 i7.2.2.1 i7.2.2.2.2 i9->(∃(i10:Pub),qds x0 x2 i9 i10)->zax1 x0 x1 x2 x4 i9 i4 i7))))/\(decide (q0s i0 x1 (2:Int)=0)=false->zax2 x0 x3 i0 x1 x4 x5 x2))
end
theorem qwc(c:Nat) (x:SV) (L:List Int) (n d:Int) (N:List ByteArray):q68 P (q0r [(37,cNum),(81,qlq)]) (q1s [(79,qbj.below qbb c)]) Try.f115 (qkl.below qbb (c+1)) (wUnion) ⟨x,L,n,d,N⟩=(qbb (x,L,n,d,N)<c+1/\q75 3 (x,L,n,d,N)->(∃(p:Pub),True/\slP byV x L p)->zax0 x n L d N c):=by kernel_rfl
def union_eq(c:Nat) (x:SV) (L:List Int) (n d:Int) (N:List ByteArray):=Eq.trans (qwc c x L n d N) (by delta zax13 zax16 zax18 zax14 zax12 qds qnp zax7 zax8 qqj zax6 zax4 zax17 zax1 zax9 zax5 zax3 zax2 zax0;exact rfl)
noncomputable section
variable (x0:RlS) (x1:List Int) (x2:Int) (x3:Int) (x4:SV) (x5:Nat) (x6:List Int) (x7:ByteArray) (x8:List ByteArray) (x9:TrB) (x10:TrS) (x11:ByteArray) (x12:List Int) (x13:List Int×GJ) (x14:Option Addr) (x15:Option Addr) (x16:Nat) (x17:Nat) (x18:Nat) (x19:Nat->Option Obj) (x20:Prop) (x21:RlS)
 abbrev qz0:=x4.1=x4.1/\x4.2.1=x4.2.1/\x4.2.2=x4.2.2/\x20
 abbrev qbc:=(True/\slP byV x4 x1 x19)/\GJ.oks x0.2.2.2 x19
 abbrev zay24:=Value.slice (GJ.y x9.1).1 (GJ.y x9.1).2.1 (GJ.y x9.1).2.2
 abbrev zay25:=Value.slice (GJ.x x9.1).1 (GJ.x x9.1).2.1 (GJ.x x9.1).2.2
 abbrev zay10:=AV.agg [AV.sv (Value.int IntKind.i64 (GJ.k x9.1)),AV.sv (Value.int IntKind.i64 (GJ.n x9.1)),AV.sv (Value.string (GJ.s x9.1)),AV.sv (zay24 x9),AV.sv (zay25 x9)]=AV.agg [AV.sv (Value.int IntKind.i64 (GJ.k x9.1)),AV.sv (Value.int IntKind.i64 (GJ.n x9.1)),AV.sv (Value.string (GJ.s x9.1)),AV.sv (zay24 x9),AV.sv (zay25 x9)]
 abbrev zay20:=x10.1.1=x10.1.1/\x10.1.2.1=x10.1.2.1/\x10.1.2.2=x10.1.2.2/\x20
 abbrev zay26:=slP byV (x10.1.1,x10.1.2.1,x10.1.2.2) x13.1 x19/\GJ.ok x13.2 x19
 abbrev qvy:=q61 x13.2 x13.1 (q0f x1 x9.2.1)
 abbrev zay7:=((qbc x0 x1 x4 x19)/\GJ.ok x9.1 x19)/\nat_lit 3<=x5/\q1l x19 x14 (List.take (nat_lit 3*nat_lit 5) ([Value.int IntKind.i64 4,Value.int IntKind.i64 0,Value.string (mkS [102]++x7),Value.slice noA 0 0,Value.slice noA 0 0,Value.int IntKind.i64 (GJ.k x9.1),Value.int IntKind.i64 (GJ.n x9.1),Value.string (GJ.s x9.1),Value.slice (GJ.y x9.1).1 (GJ.y x9.1).2.1 (GJ.y x9.1).2.2,Value.slice (GJ.x x9.1).1 (GJ.x x9.1).2.1 (GJ.x x9.1).2.2]++[Value.int IntKind.i64 (qvy x6 x9 x13).1,Value.int IntKind.i64 (qvy x6 x9 x13).2.1,Value.string (qvy x6 x9 x13).2.2.1,Value.slice noA 0 0,Value.slice noA 0 0]))
 abbrev qm9:=mkS [110,97,109,101]
 abbrev qng:=mkS [116,121,112,101]
 abbrev qx6:=nat_lit 3<=x5/\q1l x19 x14 (List.take (nat_lit 3*nat_lit 1) ([Value.string (qm9),Value.string (qng)]++[Value.string (mkS [100,101,102,97,117,108,116])]))
 abbrev zay17:=List.length (q00 GJ.cells x0.2.2.2)=List.length x0.2.2.2*5/\(List.length x0.2.2.2+nat_lit 1)*80<=140737488355328/\((-9223372036854775808:Int)<=x0.1+1/\x0.1+1<=9223372036854775807)/\x20
 abbrev zay19:=q0s x1 x2 (5:Int)=q0s x1 x2 5/\x3=x3/\x0.1=x21.1+1/\x4.1=x10.1.1/\x4.2.1=x10.1.2.1/\x4.2.2=x10.1.2.2/\x20
 abbrev zay23:=q00 txV x0.2.2.1=q00 txV x9.2.2/\List.length x0.2.2.1=List.length x9.2.2/\List.length x0.2.2.2=List.length x21.2.2.2+nat_lit 1/\x20
 abbrev zay27:=rlInv x1 x2 x8 (q0s x6 x2 5) x0/\Int.toNat (q0s x6 x2 5- x0.1)<Int.toNat (q0s x6 x2 5- x21.1)/\True
 abbrev zay5:=zay17 x0 (∃(i0:RlS),x7=x7/\zay19 i0 x1 x2 x3 x4 x10 (i0.2.1=(qvy x6 x9 x13).2.2.2/\q00 GJ.cells i0.2.2.2=q00 GJ.cells x0.2.2.2++[Value.int IntKind.i64 6,Value.int IntKind.i64 0,Value.string (mkS []),Value.slice x14 (nat_lit 3) x5,Value.slice x15 (nat_lit 3) x16]/\zay23 i0 x9 ((∀(i1:Pub),(zay7 x0 x12 x4 x5 x6 x11 x9 x13 x14 i1)/\qx6 x16 x15 i1->True/\slP byV x4 x12 i1)/\(∀(i2:Pub),(zay7 x0 x12 x4 x5 x6 x11 x9 x13 x14 i2)/\qx6 x16 x15 i2->GJ.oks i0.2.2.2 i2)/\zay27 i0 x12 x2 x1 x8 x0) x0) x0)
 abbrev zay3:=(nat_lit 2+1)*16<=140737488355328/\∃(i0:List Int×GJ),GJ.k i0.2=GJ.k x9.1/\GJ.n i0.2=GJ.n x9.1/\GJ.s i0.2=GJ.s x9.1/\(GJ.y i0.2).1=(GJ.y x9.1).1/\(GJ.y i0.2).2.1=(GJ.y x9.1).2.1/\(GJ.y i0.2).2.2=(GJ.y x9.1).2.2/\(GJ.x i0.2).1=(GJ.x x9.1).1/\(GJ.x i0.2).2.1=(GJ.x x9.1).2.1/\(GJ.x i0.2).2.2=(GJ.x x9.1).2.2/\zay20 x10 (q0f x1 x9.2.1=q0f x1 x9.2.1/\(0<=q0f x1 x9.2.1/\q0f x1 x9.2.1<=(↑(List.length i0.1):Int)/\q0t i0.1/\GJ.wf i0.2)/\(∀(i1:Pub),(qbc x0 x6 x4 i1)/\GJ.ok x9.1 i1->zay26 x10 i0 i1)/\(nat_lit 2+1)*80<=140737488355328/\zay10 x9/\∀(i2 i3 i4:Nat) (i5:Option Addr) (i6 i7:Nat),(∃(i8:Pub),zay7 x0 x6 x4 i7 x1 x7 x9 i0 i5 i8)->∀(i9 i10 i11:Nat) (i12:Option Addr) (i13 i14:Nat),(∃(i15:Pub),(zay7 x0 x6 x4 i7 x1 x7 x9 i0 i5 i15)/\qx6 i14 i12 i15)->zay5 x0 x12 x2 x3 x4 i7 x1 x11 x8 x9 x10 x7 x6 i0 i5 i12 i14)
 abbrev zay8:=(((qbc x0 x1 x4 x19)/\GJ.ok x9.1 x19)/\∀(i0:Nat) (i1:Value),[Value.int IntKind.i64 4,Value.int IntKind.i64 0,Value.string (mkS [102]++x7),Value.slice noA 0 0,Value.slice noA 0 0,Value.int IntKind.i64 (GJ.k x9.1),Value.int IntKind.i64 (GJ.n x9.1),Value.string (GJ.s x9.1),Value.slice (GJ.y x9.1).1 (GJ.y x9.1).2.1 (GJ.y x9.1).2.2,Value.slice (GJ.x x9.1).1 (GJ.x x9.1).2.1 (GJ.x x9.1).2.2][i0]? =some i1->q2q x19 (Addr.add (Addr.mk x5 x16 none) i0)=some i1)
 abbrev zay22:=∀(i0:Nat) (i1:Value),[Value.string (qm9),Value.string (qng)][i0]? =some i1->q2q x19 (Addr.add (Addr.mk x5 x16 none) i0)=some i1
 abbrev zay6:=zay17 x0 (∃(i0:RlS),x7=x7/\zay19 i0 x1 x2 x3 x4 x10 (i0.2.1=q0f x6 x9.2.1/\q00 GJ.cells i0.2.2.2=q00 GJ.cells x0.2.2.2++[Value.int IntKind.i64 6,Value.int IntKind.i64 0,Value.string (mkS []),Value.slice (some (Addr.mk x5 (x16+nat_lit 0) none)) (nat_lit 2) (nat_lit 2),Value.slice (some (Addr.mk x17 (x18+nat_lit 0) none)) (nat_lit 2) (nat_lit 2)]/\zay23 i0 x9 ((∀(i1:Pub),(zay8 x0 x12 x4 x5 x11 x9 x16 i1/\zay22 x17 x18 i1)->True/\slP byV x4 x12 i1)/\(∀(i6:Pub),(zay8 x0 x12 x4 x5 x11 x9 x16 i6/\zay22 x17 x18 i6)->GJ.oks i0.2.2.2 i6)/\zay27 i0 x12 x2 x1 x8 x0) x0) x0)
 abbrev zay2:=((-9223372036854775808:Int)<=97+x0.1/\(97:Int)+x0.1<=9223372036854775807)/\∃(i0:ByteArray),ByteArray.size i0=1/\qod [Value.int IntKind.u8 (IntKind.wrap IntKind.u8 ((97:Int)+x0.1))] 0 (q1f i0)/\ByteArray.size (mkS [102])+ByteArray.size i0<=9223372036854775807/\mkS [102]++i0=mkS [102]++i0/\True/\True/\zay10 x9/\∃(i1:List Int),(3:Int)=3/\zay20 x10 (x9.2.1=x9.2.1/\(0<=x9.2.1/\x9.2.1<=(↑(List.length i1):Int)/\(0:Int)<3/\(3:Int)<1000000/\q0t i1)/\(∀(i2:Pub),(qbc x0 x1 x4 i2)/\GJ.ok x9.1 i2->slP byV (x10.1.1,x10.1.2.1,x10.1.2.2) i1 i2)/\(decide (q0s i1 x9.2.1 (3:Int)=0)=true->zay3 x0 i1 x2 x3 x4 x1 i0 x8 x9 x10 x7 x6)/\(decide (q0s i1 x9.2.1 (3:Int)=0)=false->∀(i22 i23 i24:Nat),(∃(i25:Pub),((qbc x0 x1 x4 i25)/\GJ.ok x9.1 i25)/\q02 i25 (Addr.mk i22 i23 none) [Value.int IntKind.i64 4,Value.int IntKind.i64 0,Value.string (mkS [102]++i0),Value.slice noA 0 0,Value.slice noA 0 0,Value.int IntKind.i64 (GJ.k x9.1),Value.int IntKind.i64 (GJ.n x9.1),Value.string (GJ.s x9.1),Value.slice (GJ.y x9.1).1 (GJ.y x9.1).2.1 (GJ.y x9.1).2.2,Value.slice (GJ.x x9.1).1 (GJ.x x9.1).2.1 (GJ.x x9.1).2.2])->∀(i26 i27 i28:Nat),(∃(i29:Pub),zay8 x0 x1 x4 i22 i0 x9 i23 i29/\q02 i29 (Addr.mk i26 i27 none) [Value.string (qm9),Value.string (qng)])->zay6 x0 x6 x2 x3 x4 i22 i1 x7 x8 x9 x10 i0 x1 i23 i26 i27))
 abbrev zay1:=((-9223372036854775808:Int)<=x2+1/\x2+1<=9223372036854775807)/\∃(i0:TrS),i0.2.2.2.1=x2+1/\i0.1.1=x4.1/\i0.1.2.1=x4.2.1/\i0.1.2.2=x4.2.2/\i0.2.2.1=x0.2.1/\q00 txV i0.2.2.2.2=q00 txV x0.2.2.1/\List.length i0.2.2.2.2=List.length x0.2.2.1/\(qbb i0<x5/\q75 4 i0)/\(∀(i1:Pub),qbc x0 x1 x4 i1->slP byV i0.1 i0.2.1 i1)/\∀(i2:TrB),q27 i0.2.1 i0.2.2.1 i0.2.2.2.2 i2->(∃(i3:Pub),(qbc x0 x1 x4 i3)/\GJ.ok i2.1 i3)->zay2 x0 x1 x3 x2 x4 x6 x7 x8 i2 i0
 abbrev qwz:=AV.agg [AV.int IntKind.i64 5,AV.int IntKind.i64 0,AV.str [],AV.ssl (nat_lit 7) (nat_lit 0) (List.length x0.2.2.2) (nat_lit 5) (nat_lit 8),AV.nsl]=AV.agg [AV.int IntKind.i64 5,AV.int IntKind.i64 0,AV.str [],AV.ssl (nat_lit 7) (nat_lit 0) (List.length x0.2.2.2) (nat_lit 5) (nat_lit 8),AV.nsl]
 abbrev zay14:=(qbc x0 x1 x4 x19)/\List.length x0.2.2.2<=x5/\q1l x19 x14 (List.take (List.length x0.2.2.2*nat_lit 5) (q00 GJ.cells x0.2.2.2))
 abbrev zay29:=mkS [114,101,99,111,114,100]
 abbrev zay9:=((zay14 x0 x1 x4 x5 x14 x19)/\∀(i0:Nat) (i1:Value),[Value.int IntKind.i64 4,Value.int IntKind.i64 0,Value.string (zay29),Value.slice noA 0 0,Value.slice noA 0 0,Value.int IntKind.i64 4,Value.int IntKind.i64 0,Value.string x7,Value.slice noA 0 0,Value.slice noA 0 0,Value.int IntKind.i64 4,Value.int IntKind.i64 0,Value.string (mkS [115]),Value.slice noA 0 0,Value.slice noA 0 0,Value.int IntKind.i64 5,Value.int IntKind.i64 0,Value.string (mkS []),Value.slice x14 (List.length x0.2.2.2) x5,Value.slice noA 0 0][i0]? =some i1->q2q x19 (Addr.add (Addr.mk x16 x17 none) i0)=some i1)
 abbrev zay21:=mkS [110,97,109,101,115,112,97,99,101]
 abbrev zay28:=mkS [102,105,101,108,100,115]
 abbrev zay4:=mkS [114,101,99,111,114,100]=mkS [114,101,99,111,114,100]/\True/\x7=x7/\True/\mkS [115]=mkS [115]/\True/\True/\qwz x0/\qwz x0/\qwz x0/\∀(i0 i1 i2:Nat) (i3:Option Addr) (i4 i5:Nat),(∃(i6:Pub),zay14 x0 x1 x4 i5 i3 i6)->∀(i7 i8 i9:Nat),(∃(i10:Pub),(zay14 x0 x1 x4 i5 i3 i10)/\q02 i10 (Addr.mk i7 i8 none) [Value.int IntKind.i64 4,Value.int IntKind.i64 0,Value.string (zay29),Value.slice noA 0 0,Value.slice noA 0 0,Value.int IntKind.i64 4,Value.int IntKind.i64 0,Value.string x7,Value.slice noA 0 0,Value.slice noA 0 0,Value.int IntKind.i64 4,Value.int IntKind.i64 0,Value.string (mkS [115]),Value.slice noA 0 0,Value.slice noA 0 0,Value.int IntKind.i64 5,Value.int IntKind.i64 0,Value.string (mkS []),Value.slice i3 (List.length x0.2.2.2) i5,Value.slice noA 0 0])->∀(i11 i12 i13:Nat),(∃(i14:Pub),zay9 x0 x1 x4 i5 x7 i3 i7 i8 i14/\q02 i14 (Addr.mk i11 i12 none) [Value.string (qng),Value.string (qm9),Value.string (zay21),Value.string (zay28)])->∃(i17:TrB),GJ.k i17.1=6/\GJ.n i17.1=0/\GJ.s i17.1=mkS []/\(GJ.y i17.1).1=some (Addr.mk i7 (i8+nat_lit 0) none)/\(GJ.y i17.1).2.1=nat_lit 4/\(GJ.y i17.1).2.2=nat_lit 4/\(GJ.x i17.1).1=some (Addr.mk i11 (i12+nat_lit 0) none)/\(GJ.x i17.1).2.1=nat_lit 4/\(GJ.x i17.1).2.2=nat_lit 4/\qz0 x4 (i17.2.1=x0.2.1/\q00 txV i17.2.2=q00 txV x0.2.2.1/\List.length i17.2.2=List.length x0.2.2.1/\q27 x1 x2 x8 i17/\(∀(i18:Pub),(zay9 x0 x1 x4 i5 x7 i3 i7 i8 i18/\∀(i21:Nat) (i22:Value),[Value.string (qng),Value.string (qm9),Value.string (zay21),Value.string (zay28)][i21]? =some i22->q2q i18 (Addr.add (Addr.mk i11 i12 none) i21)=some i22)->GJ.ok i17.1 i18)/\True)
 abbrev zay0:=(decide (x0.1<q0s x1 x2 5)=true->zay1 x0 x6 x3 x2 x4 x5 x1 x7 x8)/\(decide (x0.1<q0s x1 x2 5)=false->zay4 x0 x6 x2 x4 x7 x8)
end
theorem qy8(c:Nat) (s:ByteArray) (x:SV) (L:List Int) (n d:Int) (N:List ByteArray):q68 P (q0r [(37,cNum),(81,qlq),(80,qbo),(82,q8n)]) (q1s [(79,qbj.below qbb c)]) Try.f47 (q40.below muRp (c+1)) (qkn) ⟨s,x,L,n,d,N⟩=(muRp (s,x,L,n,d,N)<c+1/\ByteArray.size s<100/\q75 3 (x,L,n,d,N)->(∃(p:Pub),True/\slP byV x L p)->∃(b:List Int),(5:Int)=5/\qz0 x (n=n/\(0<=n/\n<=(↑(List.length b):Int)/\(0:Int)<5/\(5:Int)<1000000/\q0t b)/\(∀(p:Pub),True/\slP byV x L p->slP byV (x.1,x.2.1,x.2.2) b p)/\(∃(s_1:RlS),s=s/\q0s b n (5:Int)=q0s b n 5/\d=d/\s_1.1=0/\qz0 x (s_1.2.1=q0f b n/\q00 txV s_1.2.2.1=q00 txV N/\List.length s_1.2.2.1=List.length N/\List.length s_1.2.2.2=0/\(∀(p:Pub),True/\slP byV x L p->True/\slP byV x L p)/\(∀(p:Pub),True/\slP byV x L p->GJ.oks s_1.2.2.2 p)/\rlInv L n N (q0s b n 5) s_1/\True))/\∀(s_1:RlS),rlInv L n N (q0s b n 5) s_1->(∃(p:Pub),qbc s_1 L x p)->zay0 s_1 b n d x c L s N)):=by kernel_rfl
def recP_eq(c:Nat) (s:ByteArray) (x:SV) (L:List Int) (n d:Int) (N:List ByteArray):=Eq.trans (qy8 c s x L n d N) (by delta qz0 qbc zay24 zay25 zay10 zay20 zay26 qvy zay7 qm9 qng qx6 zay17 zay19 zay23 zay27 zay5 zay3 zay8 zay22 zay6 zay2 zay1 qwz zay14 zay29 zay9 zay21 zay28 zay4 zay0;exact rfl)
end
end Go.Proofs.Ytpanaicglidfjaa.Wd
