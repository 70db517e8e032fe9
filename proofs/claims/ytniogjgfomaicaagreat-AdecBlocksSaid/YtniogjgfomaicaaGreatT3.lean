/-
  What the functions do: contracts, and their questions answered. No condition but what its theorems ask.
-/
import Derived.Test.YtniogjgfomaicaaGreatRx
import Derived.Test.YtniogjgfomaicaaGreatT2
import Derived.Test.YtniogjgfomaicaaGreatSh
import Derived.WalkKit
import Derived.ProofKit
namespace Go.Proofs.YtniogjgfomaicaaGreat.Wd
open Go.Proofs.YtniogjgfomaicaaGreat.Eng Go.Proofs.YtniogjgfomaicaaGreat.Sen Go.RowKit
set_option linter.defProp false
set_option linter.unusedVariables false
set_option linter.unusedSimpArgs false
set_option maxRecDepth 1000000
open Go.Value (int string slice bool)
open Go.IntKind (i64 u64 u8 u32 i32)
open _root_.List (length take drop)
open _root_.ByteArray (size)
open _root_.Int (toNat)
noncomputable section
open Go.Proofs.YtniogjgfomaicaaGreat.Rv
def Na:q4p P 89 WH:=by
 refine qF jz (W:=λ_=>{}) Tryz.func89 λ⟨(k:Int),(x:SV),s,(i:Int),(c:Int)⟩=>(zh1 k x s i c).mpr ?_;rintro⟨⟨h1,h2,h3⟩,h4,h5⟩;simp only[decide_eq_true_eq,decide_eq_false_iff_not,true_and,and_true,eq_self];have bad:(k<0\/(s.size:Int)- i<k)->qz s i.toNat k=(mkS [],2,i):=λh=>by unfold qz;rw[if_pos (by omega),Int.toNat_of_nonneg h1]
 refine⟨λh=>⟨λ_=>by rw[bad (.inl h)];exact⟨rfl,rfl,rfl⟩,λg=>absurd h g⟩,λh=>⟨⟨by omega,by omega⟩,λg=>absurd g h,λ_=>⟨λg=>by rw[bad (.inr g)];exact⟨rfl,rfl,rfl⟩,λg=>⟨⟨by omega,by omega⟩,⟨h1,by omega,by omega⟩,?_⟩⟩⟩⟩;unfold qz;rw[if_neg (by omega),Int.toNat_of_nonneg h1,show(i+k).toNat=i.toNat+k.toNat by omega];exact⟨rfl,rfl,rfl⟩
def zir:∀(l:List UInt8) (j:Nat) (h:j<l.length),jP (l.take (j+1))=jP (l.take j)+256 ^ j*l[j].toNat
  |c::l,0,_=>by simp[jP]
  | c::l,j+1,h=>by have hj:j<l.length:=(by simpa using h);have:=zir l j hj;rw[List.take_succ_cons,List.take_succ_cons,jP,jP,this,List.getElem_cons_succ,Nat.pow_succ,Nat.mul_add];rw[show 256 ^ j*256*l[j].toNat=256*(256 ^ j*l[j].toNat)by rw[Nat.mul_comm (256 ^ j) 256,Nat.mul_assoc]];omega
def zy2(v b j:Nat) (hv:v<256 ^ j) (hj:j<8) (hb:b<256):qaf .or .u64 (v:Int) (shP .shl .u64 (b:Int) (IntKind.wrap .u64 (8*IntKind.wrap .u64 (j:Int))))=((v+256 ^ j*b:Nat):Int):=by
 have hw:IntKind.wrap .u64 (8*IntKind.wrap .u64 (j:Int))=((8*j:Nat):Int):=by rw[wrap_u64,wrap_u64];omega
 have hp:(2:Nat) ^ (8*j)=256 ^ j:=by rw[Nat.pow_mul]
 have h7:256 ^ j<=256 ^ 7:=Nat.pow_le_pow_right (by decide) (by omega);have h56:(256:Nat) ^ 7=72057594037927936:=by decide
 have hbb:256 ^ j*b<=256 ^ j*255:=Nat.mul_le_mul_left _ (by omega);have hs:shP .shl .u64 (b:Int) (IntKind.wrap .u64 (8*IntKind.wrap .u64 (j:Int)))=((256 ^ j*b:Nat):Int):=by
  rw[hw];show IntKind.wrap .u64 ((b:Int)*2 ^ min ((8*j:Nat):Int).toNat 64)=_;rw[wrap_u64,Int.toNat_natCast,Nat.min_eq_left (by omega)];have:((b:Int)*2 ^ (8*j))=((256 ^ j*b:Nat):Int):=by rw[←hp,Nat.mul_comm];norm_cast;exact Nat.mul_comm _ _
  rw[this];omega
 rw[hs];show IntKind.wrap .u64 (BitVec.ofInt 64 (v:Int)|||BitVec.ofInt 64 ((256 ^ j*b:Nat):Int)).toNat=_;rw[BitVec.toNat_or,Vv _ (by omega),Vv _ (by omega)];have:=Nat.two_pow_add_eq_or_of_lt (b:=v) (i:=8*j) (by rw[hp];exact hv) b;rw[hp]at this;rw[Nat.or_comm,←this,wrap_u64];omega
def zhu:q4p P 85 GR:=by
 refine qF (qcn (qgp Na qjr)) (W:=zkj) Tryz.func85 λ⟨(k:Int),(x:SV),s,(i:Int),(c:Int)⟩=>(zht k x s i c).mpr ?_;rintro⟨h1,h4,h5⟩;have hf:=WC (D:=s) (i:=i.toNat) (k:=k) (by have:=h1.1;have:=h1.2.1;omega);have hz:(qz s i.toNat k).1.size<=8:=by
  by_cases h:(qz s i.toNat k).2.1=0
  ·have:=hf.2.2 h;omega
  ·unfold qz at h⊢;split
   ·show 0<=8;decide
   ·rename_i hh;rw[if_neg hh]at h;exact absurd rfl h
 generalize qz s i.toNat k=T at*;obtain⟨r,e1,m⟩:=T;simp only[decide_eq_true_eq,decide_eq_false_iff_not,true_and,and_true,eq_self]at hz⊢;have hlen:r.data.toList.length=r.size:=rfl;refine⟨⟨h1,by omega,by omega⟩,⟨0,rfl,rfl,Nat.zero_le _⟩,λj hj=>⟨λhlt=> ?_,λhge=> ?_⟩⟩
 ·have hjr:j<r.size:=by omega
  have hb:=xo r j;have hl:=zut (r.data.toList.take j);rw[List.length_take,hlen,Nat.min_eq_left (by omega)]at hl;refine⟨⟨by omega,by omega⟩,⟨by omega,by rw[Int.toNat_natCast];omega⟩,by rw[wrap_u64,wrap_u64];omega,⟨by omega,by omega⟩,j+1,?_,by omega,by omega,by omega⟩;rw[Int.toNat_natCast,zy2 _ _ _ hl (by omega) hb,zir _ _ (by rw[hlen];exact hjr),j5x hjr];rfl
 ·have:j=r.size:=by omega
  subst this;unfold kk;rw[←hlen,List.take_length]
def zds:q4p P 87 Hf:=by
 refine qF (qcn (qgp G1 (qgp Na qjr))) (W:=λ_=>{}) Tryz.func87 λ⟨(x:SV),s,(i:Int),(c:Int)⟩=>(zq6 x s i c).mpr ?_;intro h;have hf:=xm s i.toNat (by have:=h.1;have:=h.2.1;omega);simp only[decide_eq_true_eq,decide_eq_false_iff_not,Bool.not_eq_true',Bool.not_eq_false',true_and,and_true,eq_self];unfold qL;refine⟨h,λhe=> ?_,λhe=>⟨λh5=> ?_,λh5=>⟨⟨⟨by show(0:Int)<=(_:Nat);omega,by show((_:Nat):Int)<=_;omega,h.2.2⟩,by omega,by omega⟩,?_⟩⟩⟩
 ·rw[if_pos (by omega)];exact⟨rfl,rfl,rfl⟩
 ·rw[if_neg (by omega),if_pos h5];exact⟨rfl,rfl,rfl⟩
 ·rw[if_neg (by omega),if_neg h5,Int.toNat_natCast];exact⟨rfl,rfl,rfl⟩
def z9c:q4p P 88 z79:=by
 refine qF (qcn (qgp zds (qgp zqi qjr))) (W:=λ_=>{}) Tryz.func88 λ⟨(x:SV),s,(i:Int),(c:Int)⟩=>(zk7 x s i c).mpr ?_;intro h;have hf:=GH (D:=s) (i:=i.toNat) (by have:=h.1;have:=h.2.1;omega);simp only[decide_eq_true_eq,decide_eq_false_iff_not,Bool.not_eq_true',Bool.not_eq_false',true_and,and_true,eq_self];unfold vO;refine⟨h,λhe=>⟨by omega,λhv=> ?_,λhv=> ?_⟩,λhe=> ?_⟩
 ·rw[if_pos ⟨he,hv⟩]
 ·rw[if_neg (by rw[hv];simp)]
 ·rw[if_neg (λq=>he q.1)]
open Go.Proofs.YtniogjgfomaicaaGreat.Rv
def xU{a:AT} {s:IV} {n:Nat} {N e' i' i:Int} {r:IV} (h1:ji a s n=wm N r i' e') (h2:0<=e') (h3:i<=i') (h4:i'<=s.size):∃b:vD,(GV.mk b.1 b.2.1 (noA,0,0) [] (noA,0,0) [] 0).n=N/\(GV.mk b.1 b.2.1 (noA,0,0) [] (noA,0,0) [] 0).s=r/\(GV.mk b.1 b.2.1 (noA,0,0) [] (noA,0,0) [] 0).x.1=noA/\(GV.mk b.1 b.2.1 (noA,0,0) [] (noA,0,0) [] 0).x.2.1=0/\(GV.mk b.1 b.2.1 (noA,0,0) [] (noA,0,0) [] 0).x.2.2=0/\(GV.mk b.1 b.2.1 (noA,0,0) [] (noA,0,0) [] 0).y.1=noA/\(GV.mk b.1 b.2.1 (noA,0,0) [] (noA,0,0) [] 0).y.2.1=0/\(GV.mk b.1 b.2.1 (noA,0,0) [] (noA,0,0) [] 0).y.2.2=0/\(GV.mk b.1 b.2.1 (noA,0,0) [] (noA,0,0) [] 0).b=0/\b.2.2.1=e'/\b.2.2.2=i'/\ji a s n=wm b.1 b.2.1 b.2.2.2 b.2.2.1/\0<=b.2.2.1/\i<=b.2.2.2/\b.2.2.2<=s.size:=
 ⟨(N,r,e',i'),rfl,rfl,rfl,rfl,rfl,rfl,rfl,rfl,rfl,rfl,rfl,h1,h2,h3,h4⟩
def j66{D:IV} {i:Nat} {k:Int} (h:(qz D i k).2.1≠0):(qz D i k).1=mkS []:=by
 unfold qz at h⊢;split
 ·rfl
 ·rename_i hh;rw[if_neg hh]at h;exact absurd rfl h
def zl0{v:Int}:v=IntKind.wrap .i32 v↔¬(v< -2147483648\/2147483648<=v):=by simp[IntKind.wrap,IntKind.bits,IntKind.signed];omega
def zx4(v:Int): -9223372036854775808<=IntKind.wrap .i32 v/\IntKind.wrap .i32 v<=9223372036854775807:=by simp[IntKind.wrap,IntKind.bits,IntKind.signed];omega
def zj4:q1q P 45 z75:=by
 refine zt (qcn (qgp zhu (qgp G1 (qgp z8r (qgp zds (qgp z9c (qgp Na qjr))))))) (qde qjq) (W:=zkm) Tryz.func45 λ⟨⟨(x:SV),s,(i:Int),(c:Int)⟩,a⟩=>(zj3 x s i c a).mpr ?_;rintro⟨h,hl,hk,hsy,hsz⟩ ⟨p,_,ha⟩;obtain⟨_,syl,_,_⟩:=yE ha;have hi:=h.1;have hi2:=h.2.1;simp only[qH,exists_const,forall_const,Int.toNat_natCast];have lg:=xm s i.toNat (by omega);have hp:qW ((x.1,x.2.1,x.2.2),s,i,c):=h;have low:∀k:Int,ji a s i.toNat=(uO s i.toNat k).bind (λr=> .ok (yq (kk r.1),r.2))->_:=λk hl=>(by
  have hf:=WC (D:=s) (i:=i.toNat) (k:=k) (by omega);unfold uO wo at hl;exact xU (i:=i) (N:=kk (qz s i.toNat k).1) (r:=mkS []) (e':=(qz s i.toNat k).2.1) (i':=(qz s i.toNat k).2.2) (by
   rw[hl];unfold wm;by_cases h:(qz s i.toNat k).2.1=0
   ·rw[if_pos h,if_pos h];rfl
   ·rw[if_neg h,if_neg h];rfl) hf.1.1 (by omega) hf.2.1.2)
 have txt:∀(t:IV×Int×Int) (e:Int),0<=e->i<=t.2.2->t.2.2<=s.size->ji a s i.toNat=(wo t e).bind (λr=> .ok (YT r.1,r.2))->_:=λt e h0 h1 h2 hl=>xU (i:=i) (N:=0) (r:=t.1) (e':=e) (i':=t.2.2) (by
   rw[hl];unfold wo wm;by_cases h:e=0
   ·rw[if_pos h,if_pos h];rfl
   ·rw[if_neg h,if_neg h];rfl) h0 h1 h2
 refine⟨λk1=>xU (r:=mkS []) (by unfold ji;rw[if_pos k1];rfl) (Int.le_refl _) (Int.le_refl _) hi2,λk1=>⟨λk2=>⟨⟨hp,by decide,by decide⟩,?_⟩,λk2=>⟨⟨λh=>by unfold QQ;exact kA (by omega),λh=>by unfold QQ;exact kA (by omega)⟩,λhI=>⟨hp,?_⟩,λhI=> ?_⟩⟩⟩
 ·have hf:=WC (D:=s) (i:=i.toNat) (k:=1) (by omega);have hl:ji a s i.toNat=(uO s i.toNat 1).bind λr=>if 1<kk r.1 then .no 1 else .ok (yq (kk r.1),r.2):=by unfold ji;rw[if_neg k1,if_pos k2]
  unfold uO wo at hl;have her:=j66 (D:=s) (i:=i.toNat) (k:=1);generalize qz s i.toNat 1=T at*;obtain⟨r,e1,m⟩:=T;simp only at hf hl her⊢;refine⟨λh1=>xU (r:=mkS []) ?_ (by decide) (by omega) hf.2.1.2,λh1=>xU (r:=mkS []) ?_ hf.1.1 (by omega) hf.2.1.2⟩
  ·have h0:e1=0:=by
    by_cases h0:e1=0
    ·exact h0
    ·rw[her h0]at h1;exact absurd h1 (by decide)
   rw[if_pos h0,qT,if_pos h1]at hl;rw[hl];rfl
  ·by_cases h0:e1=0
   ·rw[if_pos h0,qT,if_neg h1]at hl;rw[hl,h0];rfl
   ·rw[if_neg h0,kG]at hl;rw[hl];unfold wm;rw[if_neg h0]
 ·unfold QQ at hI;rw[decide_eq_true_eq]at hI;have h3:a.k=3->ji a s i.toNat=(ym s i.toNat).bind λr=>if r.1< -2147483648\/2147483648<=r.1 then .no 1 else .ok (yq (r.1 % 18446744073709551616),r.2):=λh=>by unfold ji;rw[if_neg k1,if_neg k2,if_pos h]
  have h4:¬a.k=3->ji a s i.toNat=(ym s i.toNat).bind λr=> .ok (yq (r.1 % 18446744073709551616),r.2):=λh=>by unfold ji;rw[if_neg k1,if_neg k2,if_neg h,if_pos (by omega)]
  have hz:(qb s i.toNat).2.1≠0->(qb s i.toNat).1=0:=λh=>by
   unfold qb verr at h;unfold qb vval;simp only at h⊢;cases hv:vdec (s.data.toList.drop i.toNat) 0 0 with
   |none=>rfl
   |some w=>rw[hv]at h;exact absurd rfl h
  unfold ym at h3 h4;have hr:=zx4 (qb s i.toNat).1;generalize qb s i.toNat=T at*;obtain⟨v,e1,m⟩:=T;simp only[wrap_u64]at lg h3 h4 hz hr⊢;rw[zl0];refine⟨λk3=>⟨hr,λhb=>xU (r:=mkS []) ?_ (by decide) (by omega) (by omega),λhg=>xU (r:=mkS []) ?_ (by omega) (by omega) (by omega)⟩,λk3=>xU (r:=mkS []) ?_ (by omega) (by omega) (by omega)⟩
  ·have hb:=Classical.not_not.1 hb;have h0:e1=0:=by
    by_cases h0:e1=0
    ·exact h0
    ·have:=hz h0;omega
   rw[h3 k3,if_pos h0,qT,if_pos hb];rfl
  ·rw[h3 k3];unfold wm;by_cases h0:e1=0
   ·rw[if_pos h0,qT,if_neg hg,if_pos (by omega),Int.toNat_natCast];rfl
   ·rw[if_neg h0,kG,if_neg (by omega)];congr 1;omega
  ·rw[h4 k3];unfold wm;by_cases h0:e1=0
   ·rw[if_pos h0,qT,if_pos (by omega),Int.toNat_natCast];rfl
   ·rw[if_neg h0,kG,if_neg (by omega)];congr 1;omega
 unfold QQ at hI;rw[decide_eq_false_iff_not]at hI;have k34:¬a.k=3/\¬a.k=4:=by omega
 refine⟨λk5=>⟨⟨hp,by decide,by decide⟩,low 4 (by unfold ji;rw[if_neg k1,if_neg k2,if_neg k34.1,if_neg k34.2,if_pos k5])⟩,λk5=>⟨λk6=>⟨⟨hp,by decide,by decide⟩,low 8 (by unfold ji;rw[if_neg k1,if_neg k2,if_neg k34.1,if_neg k34.2,if_neg k5,if_pos k6])⟩,λk6=>⟨λk10=> ?_,λk10=>⟨λk7=>⟨hp,?_⟩,λk7=>⟨λk8=>⟨hp,?_⟩,λk8=>⟨λk11=> ?_,λk11=> ?_⟩⟩⟩⟩⟩⟩
 ·refine⟨⟨(a.sy.2.1:Int),x,s,i,c⟩,rfl,rfl,rfl,rfl,rfl,rfl,rfl,h,?_⟩;have hl:ji a s i.toNat=(QO s i.toNat a.sys.length).bind λr=> .ok (yq r.1,r.2):=by unfold ji;rw[if_neg k1,if_neg k2,if_neg k34.1,if_neg k34.2,if_neg k5,if_neg k6,if_neg (by omega),if_neg (by omega),if_pos k10]
  unfold QO at hl;rw[←syl]at hl;simp only[true_and,and_true,eq_self,wrap_u64];refine xU (r:=mkS []) ?_ (by omega) (by omega) (by omega);rw[hl];unfold wm;by_cases h1:kR s i.toNat a.sy.2.1=0
  ·have hrr:0<=(qb s i.toNat).1:=(by unfold kR at h1;split at h1<;>omega);rw[if_pos h1,if_pos (by omega),qT,Int.emod_eq_of_lt hrr (by omega),Int.toNat_natCast];rfl
  ·rw[if_neg h1,if_neg (by omega),kG];congr 1;omega
 ·have hf:=GH (D:=s) (i:=i.toNat) (by omega);exact txt _ _ hf.1.1 (by omega) hf.2.1.2 (by unfold ji;rw[if_neg k1,if_neg k2,if_neg k34.1,if_neg k34.2,if_neg k5,if_neg k6,if_pos k7];rfl)
 ·have hf:=GH (D:=s) (i:=i.toNat) (by omega);exact txt _ _ (by unfold vO;split<;>omega) (by omega) hf.2.1.2 (by unfold ji;rw[if_neg k1,if_neg k2,if_neg k34.1,if_neg k34.2,if_neg k5,if_neg k6,if_neg k7,if_pos k8];rfl)
 ·have hz:=hsz k11;refine⟨⟨hp,by omega,by omega⟩,?_⟩;have hf:=WC (D:=s) (i:=i.toNat) (k:=a.sz) (by omega);exact txt _ _ hf.1.1 (by omega) hf.2.1.2 (by unfold ji;rw[if_neg k1,if_neg k2,if_neg k34.1,if_neg k34.2,if_neg k5,if_neg k6,if_neg k7,if_neg k8,if_neg k10,if_pos k11];rfl)
 ·exact absurd hl (by unfold HI;omega)
def WY{S:List AT} {R:zy} {s:IV} {i c t:Int} {b:zj} (h:uR S t) (h1:j5 R b.1.pv b.2.2.1 b.2.2.2 b.2.1) (h2:Kr s i (c+1) b):um S R s i c t b:=by obtain⟨r,e',i',c'⟩:=b;obtain⟨a1,⟨a2,a3⟩,a4⟩:=h2;exact⟨λ_=>⟨h1,a2⟩,λg=>absurd h g,a1,⟨by omega,a3⟩,a4⟩
def zz2(n:Nat) (hr:q1q P 42 ((wM KV xg).below vB (n+1))) (hb:q1q P 43 ((wM ZX uP).below vB (n+1))) (hu:q1q P 44 ((wM KI wu).below vB (n+1))):q1q P 27 (uo.below yR (n+1)):=by
 refine zt (qcn qjr) (qde (qgo hr (qgo hb (qgo hu (qgo zj4 qjq))))) (W:=OI) Tryz.func27 λ⟨S,⟨(x:SV),s,(i:Int),(c:Int)⟩,(t:Int),(dp:Int)⟩=>(zz1 n S x s i c t dp).mpr ?_;rintro⟨hmu,hok,h,⟨hc0,hc1⟩,hp1,hp2⟩ ⟨p,_,hx⟩;have hmu:(25- dp).toNat<n+1:=hmu;have hi:=h.1;have hi2:=h.2.1;have xs:x.2.1=S.length:=hx.1.1;simp only[qH,exists_const,forall_const,Int.toNat_natCast];have out:∀b:zj,b=(zV,1,i,c)->¬uR S t->um S (zk S s (21- dp).toNat t i.toNat c.toNat) s i c t b:=λb hb h=>by subst hb;exact⟨λg=>absurd g h,λ_=>rfl,⟨Int.le_refl _,hi2⟩,⟨Int.le_refl _,by show c<=2001;omega⟩,λg=>absurd (show(1:Int)=0 from g) (by decide)⟩
 refine⟨λh0=>⟨⟨zV,1,i,c⟩,rfl,rfl,rfl,rfl,rfl,rfl,rfl,rfl,rfl,rfl,rfl,rfl,out _ rfl (by unfold uR;omega),λq _=>jD q⟩,λh0=>⟨λh1=>⟨⟨zV,1,i,c⟩,rfl,rfl,rfl,rfl,rfl,rfl,rfl,rfl,rfl,rfl,rfl,rfl,out _ rfl (by unfold uR;omega),λq _=>jD q⟩,λh1=>⟨⟨by omega,by omega⟩,?_⟩⟩⟩;have hin:uR S t:=by unfold uR;omega
 have lim:∀b:zj,b=(zV,3,i,c+1)->(20<dp\/2000<c+1)->um S (zk S s (21- dp).toNat t i.toNat c.toNat) s i c t b:=λb hb h=>by subst hb;rw[jfz hp1 hp2 hc0 h];exact WY hin rfl ⟨⟨Int.le_refl _,hi2⟩,⟨Int.le_refl _,by show c+1<=2001;omega⟩,λg=>absurd (show(3:Int)=0 from g) (by decide)⟩
 refine⟨λh20=>⟨⟨zV,3,i,c+1⟩,rfl,rfl,rfl,rfl,rfl,rfl,rfl,rfl,rfl,rfl,rfl,rfl,lim _ rfl (.inl h20),λq _=>jD q⟩,λh20=>⟨λhA=>⟨⟨zV,3,i,c+1⟩,rfl,rfl,rfl,rfl,rfl,rfl,rfl,rfl,rfl,rfl,rfl,rfl,lim _ rfl (.inr hA),λq _=>jD q⟩,λhA=> ?_⟩⟩;obtain⟨j,rfl⟩:=Int.eq_ofNat_of_zero_le hin.1;have hj:j<S.length:=by have:=hin.2;omega
 rw[j6e hj hp1 h20 hc0 hA];have htp:=λq (hq:qd S x q)=>wC hq hj;have hao:=λq (hq:qd S x q)=>hq.2 S[j] (List.getElem_mem hj);have hkd:=hok.2.1 S[j] (List.getElem_mem hj);have hrg:=hok.2.2 S[j] (List.getElem_mem hj);have sm:=hok.1.2 S[j] (List.getElem_mem hj);refine⟨⟨by omega,by omega⟩,(htp p hx).1,S[j].k,S[j].nm,S[j].al.1,S[j].al.2.1,S[j].al.2.2,S[j].it,S[j].sy.1,S[j].sy.2.1,S[j].sy.2.2,S[j].hd,S[j].df,S[j].sz,S[j].f.1,S[j].f.2.1,S[j].f.2.2,S[j].br.1,S[j].br.2.1,S[j].br.2.2,λq hq=>(htp q hq).2,?_⟩;have hcc:0<=c+1/\c+1<=2000:=by omega
 have hdd:1<=dp/\dp<=20:=by omega
 refine⟨λk9=> ?_,λk9=>⟨⟨λh=>by unfold QR;exact kA (by omega),λh=>by unfold QR;exact kA (by omega)⟩,λkp=> ?_,λkp=>⟨λk14=> ?_,λk14=> ?_⟩⟩⟩
 ·have hva:wv (qX S s dp) s S[j] i.toNat (c+1).toNat=xg (qX S s dp) s S[j] i.toNat (c+1).toNat:=by unfold wv xg;rw[if_pos k9]
  rw[hva];refine⟨⟨S,⟨x,s,i,c+1⟩,S[j],dp⟩,?_⟩;simp only[true_and,and_true,eq_self];refine⟨⟨hmu,hok,List.getElem_mem hj,k9,h,hcc,hdd⟩,λq hq=>⟨hq,hao q hq⟩,?_⟩;rintro⟨r,e',i',c'⟩ ⟨g1,g2⟩ _;exact⟨⟨r,e',i',c'⟩,rfl,rfl,rfl,rfl,rfl,rfl,rfl,rfl,rfl,rfl,rfl,rfl,WY hin g1 g2,λq hq=>hq.2⟩
 ·unfold QR at kp;rw[decide_eq_true_eq]at kp;have hva:wv (qX S s dp) s S[j] i.toNat (c+1).toNat=uP (qX S s dp) s S[j] i.toNat (c+1).toNat:=by unfold wv;rw[if_neg k9,if_neg (by omega),if_pos kp]
  rw[hva];refine⟨⟨S,⟨x,s,i,c+1⟩,S[j],dp⟩,?_⟩;simp only[true_and,and_true,eq_self];refine⟨⟨hmu,hok,List.getElem_mem hj,kp,h,hcc,hdd⟩,λq hq=>⟨hq,hao q hq⟩,?_⟩;rintro⟨r,e',i',c'⟩ ⟨g1,g2⟩ _;exact⟨⟨r,e',i',c'⟩,rfl,rfl,rfl,rfl,rfl,rfl,rfl,rfl,rfl,rfl,rfl,rfl,WY hin g1 g2,λq hq=>hq.2⟩
 ·have hva:wv (qX S s dp) s S[j] i.toNat (c+1).toNat=wu (qX S s dp) s S[j] i.toNat (c+1).toNat:=by unfold wv;rw[if_neg k9,if_pos k14]
  rw[hva];refine⟨⟨S,⟨x,s,i,c+1⟩,S[j],dp⟩,?_⟩;simp only[true_and,and_true,eq_self];refine⟨⟨hmu,hok,List.getElem_mem hj,k14,h,hcc,hdd⟩,λq hq=>⟨hq,hao q hq⟩,?_⟩;rintro⟨r,e',i',c'⟩ ⟨g1,g2⟩ _;exact⟨⟨r,e',i',c'⟩,rfl,rfl,rfl,rfl,rfl,rfl,rfl,rfl,rfl,rfl,rfl,rfl,WY hin g1 g2,λq hq=>hq.2⟩
 ·unfold QR at kp;rw[decide_eq_false_iff_not]at kp;refine⟨⟨⟨x,s,i,c+1⟩,S[j]⟩,?_⟩;simp only[true_and,and_true,eq_self];refine⟨⟨h,⟨k9,k14,by omega,by omega⟩,hkd,sm.2.2,hrg.2.2.2⟩,λq hq=>hao q hq,?_⟩;rintro⟨N,r,e',i'⟩ ⟨g1,g2,g3,g4⟩;refine⟨⟨.mk N r (none,0,0) [] (none,0,0) [] 0,e',i',c+1⟩,rfl,rfl,rfl,rfl,rfl,rfl,rfl,rfl,rfl,rfl,rfl,rfl,WY hin ?_ ⟨⟨g3,g4⟩,⟨Int.le_refl _,by show c+1<=2001;omega⟩,λ_=>hcc.2⟩,λq _=> ?_⟩
  ·unfold wv;rw[if_neg k9,if_neg k14,if_neg kp,g1];unfold wm;have g2:0<=e':=g2;have g3:i<=i':=g3;split
   ·rw[qT];exact⟨by assumption,by rw[GV.pv,GV.pvs],by show i'=((i'.toNat:Nat):Int);omega,by show c+1=(((c+1).toNat:Nat):Int);omega⟩
   ·rename_i hne;have hne:¬e'=0:=hne;rw[kG];show e'=(((e'- 1).toNat:Nat):Int)+1;omega
  ·unfold GV.ok GV.oks;exact⟨qY,qY,trivial⟩
def zps(n:Nat) (hv:q1q P 27 (uo.below yR n)):q1q P 42 ((wM KV xg).below vB (n+1)):=by
 refine zt (qcn qjr) (qde (qgo hv qjq)) (W:=OE) Tryz.func42 λ⟨S,⟨(x:SV),s,(i:Int),(c:Int)⟩,a,(dp:Int)⟩=>(zpr n S x s i c a dp).mpr ?_;rintro⟨hmu,hok,haS,hk,h,⟨hc0,hc1⟩,hp1,hp2⟩ ⟨p,_,hx,ha⟩;have hmu:(25- dp).toNat<n+1:=hmu;have hi:=h.1;have hi2:=h.2.1;obtain⟨_,_,fl,_⟩:=yE ha;have hrg:=hok.2.2 a haS;have sm:=hok.1.2 a haS;simp only[qH,exists_const,forall_const,Int.toNat_natCast,fl];refine⟨⟨⟨0,i,c,[]⟩,rfl,rfl,rfl,rfl,λq _=>GV.oks_iff.2 λw hw=>(by cases hw),⟨⟨Nat.zero_le _,rfl⟩,⟨Int.le_refl _,hi2⟩,⟨Int.le_refl _,hc1⟩,rfl⟩⟩,?_⟩;rintro⟨j,i1,c1,fs⟩ ⟨⟨r1,r2⟩,⟨r3,r4⟩,⟨r5,r6⟩,r7⟩ ⟨p2,hp2',hfs⟩;simp only at r1 r2 r3 r4 r5 r6 r7 hfs⊢;have rc:∀(R:zy) (v:PV) (e' i' c':Int),tW (vU (qX S s dp) (a.fs.map AF.ty) [] i.toNat c.toNat) e' (vU (qX S s dp) (a.fs.map AF.ty) [] i.toNat c.toNat= .ok (GV.pvs fs,i'.toNat,c'.toNat))->0<=i'->0<=c'->v= .mk 0 (mkS []) (GV.pvs fs) [] 0\/e'≠0->j5 (xg (qX S s dp) s a i.toNat c.toNat) v i' c' e':=λ_ v e' i' c' ht h0 h1 hv=>by
  unfold xg Gn;rcases ht with⟨q1,q2⟩|⟨k,q1,q2⟩
  ·rw[q2,qT];exact⟨q1,hv.resolve_right (λg=>g q1),by show i'=((i'.toNat:Nat):Int);omega,by show c'=((c'.toNat:Nat):Int);omega⟩
  ·rw[q2,kG];exact q1
 refine⟨λhlt=> ?_,λhge a6 cc _=>⟨⟨.mk 0 (mkS []) (a6,fs.length,cc) fs (none,0,0) [] 0,0,i1,c1⟩,rfl,rfl,rfl,rfl,rfl,rfl,rfl,rfl,rfl,rfl,rfl,rfl,⟨?_,⟨r3,r4⟩,⟨r5,by show c1<=2001;omega⟩,λ_=>r6⟩,λq hq=>zuk hq.1.2 hq.2.1 hq.2.2⟩⟩
 ·have hif:j<a.fs.length:=by omega
  rw[j75 (by rw[List.length_map];exact hif),List.getElem_map]at r7;have hft:=hrg.1 _ (List.getElem_mem hif);have hfa:=λq (hq:a.ok q)=>wB hq hif;generalize a.fs[j]=f at*;refine⟨⟨by omega,by omega⟩,(hfa p ha).1,f.nm,f.al.1,f.al.2.1,f.al.2.2,f.ty,f.hd,f.df.k,f.df.n,f.df.s,f.df.y.1,f.df.y.2.1,f.df.y.2.2,f.df.x.1,f.df.x.2.1,f.df.x.2.2,λq hq=>(hfa q hq.1.2).2,⟨by omega,by omega⟩,⟨S,⟨x,s,i1,c1⟩,f.ty,dp+1⟩,rfl,rfl,rfl,rfl,rfl,rfl,rfl,rfl,⟨by show(25- (dp+1)).toNat<n;omega,hok,⟨by show 0<=i1;omega,r4,h.2.2⟩,⟨by show 0<=c1;omega,r6⟩,by show 1<=dp+1;omega,by show dp+1<=21;omega⟩,λq hq=>hq.1.1,?_⟩;rintro⟨r,e',i',c'⟩ ⟨g1,_,⟨g2,g3⟩,⟨g4,g5⟩,g6⟩ _;obtain⟨g7,g8⟩:=g1 hft;have g2:i1<=i':=g2;have g4:c1<=c':=g4;have g5:c'<=2001:=g5;have g7:j5 (zk S s (21- (dp+1)).toNat f.ty i1.toNat c1.toNat) r.pv i' c' e':=g7;rw[show(21- (dp+1)).toNat=(20- dp).toNat by omega]at g7;have hag:=zw4 g7 r7;simp only[true_and,and_true];refine⟨λhne=>⟨⟨zV,e',i',c'⟩,rfl,rfl,rfl,rfl,rfl,rfl,rfl,rfl,rfl,rfl,rfl,rfl,⟨rc (.no 0) _ e' i' c' ?_ (by omega) (by omega) (.inr hne),⟨by show i<=i';omega,g3⟩,⟨by show c<=c';omega,g5⟩,λg=>absurd g hne⟩,λq _=>jD q⟩,λhe=> ?_⟩
  ·rcases hag with⟨w,_⟩|w
   ·exact absurd w hne
   ·exact .inr w
  ·have w2:vU (qX S s dp) ((a.fs.map AF.ty).drop (j+1)) (GV.pvs fs++[r.pv]) i'.toNat c'.toNat=vU (qX S s dp) (a.fs.map AF.ty) [] i.toNat c.toNat:=by
    rcases hag with⟨_,w⟩|⟨k,w,_⟩
    ·exact w
    ·omega
   refine⟨qv zr fs,by omega,⟨by omega,by omega⟩,⟨j+1,i',c',fs++[r]⟩,by show((j+1:Nat):Int)=_;omega,?_⟩;simp only[true_and,and_true,eq_self];refine⟨by simp,by rw[zx];rfl,λq hq=>hq.1.1,λq hq=>Qe hq.1.2 (yF hq.2),⟨⟨by omega,by simp[r2]⟩,⟨by omega,g3⟩,⟨by omega,g6 he⟩,by rw[Dg];exact w2⟩,by omega⟩
 ·rw[j76 (by rw[List.length_map];omega)]at r7;exact rc (.no 0) _ 0 i1 c1 (.inl ⟨rfl,r7.symm⟩) (by omega) (by omega) (.inl (by rw[GV.pv]))
def zz0(n:Nat) (hv:q1q P 27 (uo.below yR n)):q1q P 44 ((wM KI wu).below vB (n+1)):=by
 refine zt (qcn (qgp z8r qjr)) (qde (qgo hv qjq)) (W:=OH) Tryz.func44 λ⟨S,⟨(x:SV),s,(i:Int),(c:Int)⟩,a,(dp:Int)⟩=>(zyz n S x s i c a dp).mpr ?_;rintro⟨hmu,hok,haS,hk,h,⟨hc0,hc1⟩,hp1,hp2⟩ ⟨p,_,hx,ha⟩;have hmu:(25- dp).toNat<n+1:=hmu;have hi:=h.1;have hi2:=h.2.1;obtain⟨_,_,_,bl⟩:=yE ha;have hrg:=hok.2.2 a haS;have sm:=hok.1.2 a haS;have hf:=xm s i.toNat (by omega);simp only[qH,exists_const,forall_const,Int.toNat_natCast,bl];refine⟨⟨(a.brs.length:Int),x,s,i,c⟩,?_⟩;simp only[true_and,and_true,eq_self];refine⟨h,λhne=>⟨⟨zV,(kR s i.toNat a.brs.length:Nat),((qb s i.toNat).2.2:Nat),c⟩,rfl,rfl,rfl,rfl,rfl,rfl,rfl,rfl,rfl,rfl,rfl,rfl,⟨?_,⟨by show i<=((_:Nat):Int);omega,by show((_:Nat):Int)<=_;omega⟩,⟨Int.le_refl _,by show c<=2001;omega⟩,λg=>absurd g hne⟩,λq _=>jD q⟩,λhe=> ?_⟩
 ·unfold wu QO;rw[if_neg (by omega),kG];show((kR s i.toNat a.brs.length:Nat):Int)=((kR s i.toNat a.brs.length- 1:Nat):Int)+1;omega
 have h1:kR s i.toNat a.brs.length=0:=by omega
 have hrr:0<=(qb s i.toNat).1/\(qb s i.toNat).1<a.brs.length:=by unfold kR at h1;split at h1<;>omega
 obtain⟨b,hb⟩:=Int.eq_ofNat_of_zero_le hrr.1;have hbl:b<a.brs.length:=by omega
 have hba:=λq (hq:a.ok q)=>z22 hq hbl;have hbr:=hrg.2.1 a.brs[b] (List.getElem_mem hbl);have hgd:a.brs.getD b 0=a.brs[b]:=by rw[List.getD_eq_getElem?_getD,List.getElem?_eq_getElem hbl];rfl
 have hun:wu (qX S s dp) s a i.toNat c.toNat=(zk S s (20- dp).toNat a.brs[b] (qb s i.toNat).2.2 c.toNat).bind λr=> .ok (.mk 0 (mkS []) [r.1] [] b,r.2):=by unfold wu QO;rw[if_pos h1,qT];simp only[hb,Int.toNat_natCast,hgd];rfl
 rw[hun];simp only[hb,Int.toNat_natCast];refine⟨⟨by omega,by omega⟩,(hba p ha).1,a.brs[b],λq hq=>(hba q hq.2).2,⟨by omega,by omega⟩,⟨S,⟨x,s,((qb s i.toNat).2.2:Nat),c⟩,a.brs[b],dp+1⟩,rfl,rfl,rfl,rfl,rfl,rfl,rfl,rfl,⟨by show(25- (dp+1)).toNat<n;omega,hok,⟨by show(0:Int)<=(((qb s i.toNat).2.2:Nat):Int);omega,by show(((qb s i.toNat).2.2:Nat):Int)<=s.size;omega,h.2.2⟩,⟨hc0,hc1⟩,by show 1<=dp+1;omega,by show dp+1<=21;omega⟩,λq hq=>hq.1,?_⟩;rintro⟨r,e',i',c'⟩ ⟨g1,_,⟨g2,g3⟩,⟨g4,g5⟩,g6⟩ _;obtain⟨g7,g8⟩:=g1 hbr;have g2:((qb s i.toNat).2.2:Nat)<=i':=g2;have g4:c<=c':=g4;have g5:c'<=2001:=g5;have g7:j5 (zk S s (21- (dp+1)).toNat a.brs[b] (((qb s i.toNat).2.2:Nat):Int).toNat c.toNat) r.pv i' c' e':=g7;rw[show(21- (dp+1)).toNat=(20- dp).toNat by omega,Int.toNat_natCast]at g7;simp only[true_and,and_true];refine⟨λhne=>⟨⟨zV,e',i',c'⟩,rfl,rfl,rfl,rfl,rfl,rfl,rfl,rfl,rfl,rfl,rfl,rfl,⟨?_,⟨by show i<=i';omega,g3⟩,⟨g4,g5⟩,λg=>absurd g hne⟩,λq _=>jD q⟩,λhe b2 s2 _=>⟨⟨.mk 0 (mkS []) (some ⟨b2,s2+0,none⟩,1,1) [r] (none,0,0) [] b,0,i',c'⟩,rfl,rfl,rfl,rfl,rfl,rfl,rfl,rfl,rfl,rfl,rfl,rfl,⟨?_,⟨by show i<=i';omega,g3⟩,⟨g4,g5⟩,λ_=>g6 he⟩,λq hq=> ?_⟩⟩
 ·revert g7;cases zk S s (20- dp).toNat a.brs[b] (qb s i.toNat).2.2 c.toNat with
  |no k=>exactλg=>g
  |ok w=>exactλg=>absurd g.1 hne
 ·revert g7;cases zk S s (20- dp).toNat a.brs[b] (qb s i.toNat).2.2 c.toNat with
  |no k=>intro g;have g:e'=k+1:=g;have he:e'=0:=he;omega
  |ok w=>exactλ⟨q1,q2,q3,q4⟩=>⟨rfl,by rw[GV.pv,GV.pvs,GV.pvs,q2],q3,q4⟩
 ·unfold GV.ok;exact⟨⟨rfl,Nat.le_refl _, .inr ⟨_,rfl,rfl,hq.2⟩⟩,qY,yF hq.1.2⟩
def qy(ks:List IV) (j:Nat):List MapEntry:=match ks with
 | []=>[]
 |k::l=>⟨.string k, .int .i64 (j:Nat),j⟩::qy l (j+1)
def qD(k:IV):List Value:=[.string k]
def YB(b r q m:Nat) (fs:List GV) (ks:List IV):List (Nat×AO):=[(b, .cells 139 (some 0) false [.ssl r 0 fs.length 5 (r+1), .ssl q 0 ks.length 1 (q+1), .map m]),(r, .row 36 0 (qa GV.cells fs)),(q, .row 9 0 (qa qD ks)),(m, .mrow (qy ks 0) ks.length)]
def xi(k:IV) (v:PV) (p:IV×PV):IV×PV:=if p.1=k then(k,v)else p
def zC(mp:Bool) (ks:List IV) (vs:List PV) (st:jG):Prop:=if mp=true then ks.Nodup/\ks.length=vs.length/\st.1.length=st.2.length/\st.1.Pairwise (λa b=>qdg a b=true)/\(st.1.zip st.2).Perm (ks.zip vs)else ks=[]/\st=([],vs)
def agI(mp:Bool) (R:Rs (jG×Nat×Nat)) (ks:List IV) (vs:List PV) (n c e:Int):Prop:=match R with
 | .no k=>e=k+1
 | .ok r=>e=0/\zC mp ks vs r.1/\n=r.2.1/\c=r.2.2
abbrev Kg:=uJ×List GV×List IV
abbrev yU:=List GV×List IV×Int×Int×Int
def itM(S:List AT) (x:SV) (a:AT) (fs:List GV):PF:=⟨true,λp=>(qd S x p/\a.ok p)/\GV.oks fs p,λ_ _ h e=>⟨⟨yC h e.1.1,AT.ok_mono h e.1.2⟩,GV.oks_mono h e.2⟩⟩
def Il:Kg->Prop:=λ⟨⟨S,⟨x,s,i,c⟩,a,dp⟩,fs,ks⟩=>jI S/\a∈S/\ZX a/\qW ⟨x,s,i,c⟩/\(0<=c/\c<=2000)/\(1<=dp/\dp<=20)/\(fs.length:Int)<=c/\(ks.length:Int)<=c/\∃st,zC (decide (a.k=13)) ks (GV.pvs fs) st
def VC:Kg->yU->Prop:=λ⟨⟨S,⟨x,s,i,c⟩,a,dp⟩,fs,ks⟩ ⟨fs',ks',e',i',c'⟩=>(∀st,zC (decide (a.k=13)) ks (GV.pvs fs) st->agI (decide (a.k=13)) (yk (qX S s dp a.it) s (decide (a.k=13)) st i.toNat c.toNat) ks' (GV.pvs fs') i' c' e')/\(i<=i'/\i'<=s.size)/\(c<=c'/\c'<=2001)/\(e'=0->c+1<=c'/\c'<=2000)/\(fs'.length:Int)<=c'/\(ks'.length:Int)<=c'
def Hb:CtR where
 σ:=Kg
 args:=λ⟨⟨S,⟨x,s,i,c⟩,a,dp⟩,fs,ks⟩=>[.ptr 1 0,a.av, .ptr 2 0, .sv (.int .i64 dp)]
 h:=λ⟨⟨S,⟨x,s,i,c⟩,a,dp⟩,fs,ks⟩=>jm x s i c++YB 2 3 5 7 fs ks
 m:=8
 pre:=λz=>Il z
 mem:=λ⟨⟨S,⟨x,s,i,c⟩,a,dp⟩,fs,ks⟩=>itM S x a fs
 β:=λ_=>yU
 post:=λz b=>VC z b
 pm:=λ_ ⟨fs',ks',e',i',c'⟩=>wV fs'
 r:=λ_ ⟨fs',ks',e',i',c'⟩=> .sv (.int .i64 e')
 h':=λ⟨⟨S,⟨x,s,i,c⟩,a,dp⟩,fs,ks⟩ ⟨fs',ks',e',i',c'⟩=>jm x s i' c'++YB 2 8 10 7 fs' ks'
 m':=12
def KM:Kg->Nat:=λ⟨⟨S,_,a,dp⟩,_⟩=>(25- dp).toNat
def zvd:Kg->WayF:=λ_=>{}
def Ys:CtR where
 σ:=List GV×List IV
 args:=λ_=>[.ptr 2 0]
 h:=λ⟨fs,ks⟩=>YB 2 3 5 7 fs ks
 m:=8
 pre:=λ⟨fs,ks⟩=>fs.length<=2001/\ks.length<=2001/\∃mp st,zC mp ks (GV.pvs fs) st
 mem:=λ⟨fs,ks⟩=>wV fs
 β:=λ_=>GV
 post:=λ⟨fs,ks⟩ r=>∀mp st,zC mp ks (GV.pvs fs) st->r.pv= .mk 0 (mkS []) st.2 st.1 0
 pm:=λ_ r=>vM r
 r:=λ_ r=>r.av
 h':=λ_ _=>[]
 m':=8
def YS(S:List AT) (a:AT) (s:IV) (dp i c:Int) (F:Nat) (i1 c1:Int) (fs:List GV) (ks:List IV):Prop:=(i<=i1/\i1<=s.size)/\(c<=c1/\c1<=2000)/\((fs.length:Int)<=c1/\(ks.length:Int)<=c1)/\s.size<F+i1/\∃st,zC (decide (a.k=13)) ks (GV.pvs fs) st/\vV (qX S s dp a.it) s (decide (a.k=13)) F st i1.toNat c1.toNat=Jj S a dp s i c
def I5(st0 sz en:Int):Prop:=sz= -1/\en= -1\/0<=sz/\en=st0+(if 9223372036854775807- st0<sz then 9223372036854775807- st0 else sz)
def ED(S:List AT) (a:AT) (s:IV) (dp i c:Int) (F:Nat) (st0 c0 en cnt:Int) (j:Nat) (i1 c1:Int) (fs:List GV) (ks:List IV):Prop:=(j:Int)<=cnt/\(i<=i1/\(0<=st0/\st0<=i1)/\i1<=s.size)/\(c<=c1/\c1<=2000)/\((fs.length:Int)<=c1/\(ks.length:Int)<=c1)/\s.size<F+st0/\∃sz st,I5 st0 sz en/\zC (decide (a.k=13)) ks (GV.pvs fs) st/\(vS (qX S s dp a.it) s (decide (a.k=13)) (cnt- j).toNat st i1.toNat c1.toNat).bind (Jh S a dp s F st0 sz)=Jj S a dp s i c
def jva(h:T AO) (id:Nat):Option Nat:=match h.get id with
 |some (.cells _ _ _ [_,_, .map m])=>some m
 |_=>none
def Ox :uJ->WayF:=λ⟨S,⟨x,s,i,c⟩,a,dp⟩=>{
  ann :=λid tt hh=>match Df tt 8 with
    | some vb=>match jva hh vb with
      | some m=>match id with
        |0=>some {σ:=Nat×Int×Int×List GV×List IV,pre:=λ⟨F,i1,c1,fs,ks⟩=>YS S a s dp i c F i1 c1 fs ks,mem:=λ⟨F,i1,c1,fs,ks⟩=>wV fs,t:=λ_=>[],h:=λ⟨F,i1,c1,fs,ks⟩=>jm x s i1 c1++YB vb 40 42 m fs ks,more:=60,μ:=λ⟨F,i1,c1,fs,ks⟩=>(s.size+1- i1).toNat,keep:=[0,2,4,6,7,8]}
        | _=>match jT tt 30,jT tt 10,Dd hh 1 with
          |some cn,some en,some (_,_,st0,c0)=>some {σ:=Nat×Nat×Int×Int×List GV×List IV,pre:=λ⟨F,j,i1,c1,fs,ks⟩=>ED S a s dp i c F st0 c0 en cn j i1 c1 fs ks,mem:=λ⟨F,j,i1,c1,fs,ks⟩=>wV fs,t:=λ⟨F,j,i1,c1,fs,ks⟩=>[(31, .sv (.int .i64 (j:Nat)))],h:=λ⟨F,j,i1,c1,fs,ks⟩=>jm x s i1 c1++YB vb 40 42 m fs ks,more:=60,μ:=λ⟨F,j,i1,c1,fs,ks⟩=>cn.toNat- j,keep:=[0,2,4,6,7,8,10,30]}
          |_,_,_=>none
      |none=>none
    |none=>none}
section
def zwf(x y:UInt8) (a b:List UInt8):Op.bytesLess (x::a) (y::b)=true↔x.toNat<y.toNat\/x=y/\Op.bytesLess a b=true:=by rw[Op.bytesLess,Bool.or_eq_true,Bool.and_eq_true,decide_eq_true_eq,beq_iff_eq];rfl
def zud(b:List UInt8):Op.bytesLess b []=false:=by cases b<;>rfl
def zcc:∀{a b c:List UInt8},Op.bytesLess a b=true->Op.bytesLess b c=true->Op.bytesLess a c=true
  |a,b,[],_,h=>by rw[zud]at h;cases h
  |a,[],z::c,h,_=>by rw[zud]at h;cases h
  | [],y::b,z::c,_,_=>rfl
  | x ::a,y::b,z::c,h1,h2=>by
    rw[zwf]at h1 h2⊢;rcases h1 with h1|⟨rfl,h1⟩
    · rcases h2 with h2|⟨rfl,h2⟩
      · exact .inl (by omega)
      · exact .inl h1
    · rcases h2 with h2|⟨rfl,h2⟩
      · exact .inl h2
      · exact .inr ⟨rfl,zcc h1 h2⟩
def Nl{a b c:IV} (h1:qdg a b=true) (h2:qdg b c=true):qdg a c=true:=zcc h1 h2
def Ib(a:IV):qdg a a=false:=(uk a a).1 (.inr rfl)
def Oo{a b:IV} (h:qdg a b=true):a≠b:=λe=>by subst e;rw[Ib]at h;cases h
abbrev Up(l:List IV):Prop:=l.Pairwise (λa b=>qdg a b=true)
def z93(k a:IV) (l:List IV) (v:PV) (vs:List PV) (w:PV):zH k (a::l) (v::vs) w=if qdg a k=true then v::zH k l vs w else if a=k then w::vs else w::v::vs:=by
 unfold zH kD;rw[zE];by_cases h:qdg a k=true
 ·rw[if_pos h,if_pos h];simp only[List.getElem?_cons_succ,List.take_succ_cons,List.drop_succ_cons,List.set_cons_succ];split<;>rfl
 ·rw[if_neg h,if_neg h];simp only[List.getElem?_cons_zero,List.take_zero,List.drop_zero,List.nil_append,decide_eq_true_eq,Option.some.injEq,List.set_cons_zero]
def zpn(k:IV):qO k []=[k]:=by unfold qO kD;simp[zE]
def zpp(k:IV) (w:PV):zH k [] [] w=[w]:=by unfold zH kD;simp[zE]
def zja{k:IV} {w:PV}:∀{l:List IV} {vs:List PV},Up l->l.length=vs.length->k∉l->((qO k l).zip (zH k l vs w)).Perm ((k,w)::l.zip vs)/\Up (qO k l)/\(qO k l).length=(zH k l vs w).length
  | [],[],_,_,_=>by rw[zpn,zpp];exact⟨.refl _,by simp,rfl⟩
  | a ::l,v::vs,hu,hl,hk=>by
    have hak:a≠k:=λe=>hk (by rw[e];exact List.mem_cons_self);have hkl:k∉l:=λh=>hk (List.mem_cons_of_mem _ h);obtain⟨ha,hu⟩:=List.pairwise_cons.1 hu;rw[GA,z93];by_cases h:qdg a k=true
    · rw[if_pos h,if_pos h];obtain⟨i1,i2,i3⟩:=zja (w:=w) hu (by simpa using hl) hkl;refine⟨?_,List.pairwise_cons.2 ⟨λb hb=> ?_,i2⟩,by simp[i3]⟩
      · rw[List.zip_cons_cons,List.zip_cons_cons];exact(i1.cons _).trans (.swap _ _ _)
      · rcases zdl hb with rfl|hb
        · exact h
        · exact ha b hb
    · rw[if_neg h,if_neg hak,if_neg h,if_neg hak];have hka:qdg k a=true:=by
        rcases(uk k a).2 (by simpa using h)with g|g
        · exact g
        · exact absurd g.symm hak
      refine⟨.refl _,List.pairwise_cons.2 ⟨λb hb=> ?_,List.pairwise_cons.2 ⟨ha,hu⟩⟩,by simpa using hl⟩;rcases List.mem_cons.1 hb with rfl|hb
      · exact hka
      · exact Nl hka (ha b hb)
def zjb{k:IV} {w:PV}:∀{l:List IV} {vs:List PV},Up l->l.length=vs.length->k∈l->qO k l=l/\l.zip (zH k l vs w)=(l.zip vs).map (xi k w)/\l.length=(zH k l vs w).length
  | a ::l,v::vs,hu,hl,hk=>by
    obtain⟨ha,hu⟩:=List.pairwise_cons.1 hu;rw[GA,z93];by_cases h:qdg a k=true
    · rw[if_pos h,if_pos h];have hkl:k∈l:=by
        rcases List.mem_cons.1 hk with rfl|h2
        · rw[Ib]at h;cases h
        · exact h2
      obtain⟨i1,i2,i3⟩:=zjb (w:=w) hu (by simpa using hl) hkl;refine⟨by rw[i1],?_,by simp[i3]⟩;rw[List.zip_cons_cons,List.zip_cons_cons,List.map_cons,i2];unfold xi;rw[if_neg (show¬a=k from Oo h)]
    · have hak:a=k:=by
        rcases List.mem_cons.1 hk with rfl|h2
        · rfl
        · exact absurd (ha k h2) h
      subst hak;rw[if_neg h,if_pos rfl,if_neg h,if_pos rfl];refine⟨rfl,?_,by simpa using hl⟩;rw[List.zip_cons_cons,List.zip_cons_cons,List.map_cons];congr 1
      · unfold xi;rw[if_pos rfl]
      · have e:∀p∈l.zip vs,xi a w p=p:=λp hp=>by have:=ha p.1 (List.of_mem_zip (show(p.1,p.2)∈l.zip vs from hp)).1;unfold xi;rw[if_neg (λe=>Oo this e.symm)]
        rw[List.map_congr_left e,List.map_id']
def kI(k:IV):List IV->Nat
 | []=>0
 |a::l=>if k=a then 0 else kI k l+1
def Im{k:IV}:∀{l:List IV},k∈l->∃h:kI k l<l.length,l[kI k l]=k
  | a ::l,h=>by
    by_cases e:k=a
    · exact⟨by simp[kI,e],by simp[kI,e]⟩
    · obtain⟨h1,h2⟩:=Im (l:=l) ((List.mem_cons.1 h).resolve_left e);exact⟨by simp[kI,e];exact h1,by simp[kI,e];exact h2⟩
def zi4{k:IV} {w:PV}:∀{ks:List IV} {vs:List PV},ks.Nodup->ks.length=vs.length->k∈ks->ks.zip (vs.set (kI k ks) w)=(ks.zip vs).map (xi k w)
  | a ::l,v::vs,hn,hl,hk=>by
    obtain⟨ha,hn⟩:=List.nodup_cons.1 hn;by_cases e:k=a
    · subst e;rw[kI,if_pos rfl,List.set_cons_zero,List.zip_cons_cons,List.zip_cons_cons,List.map_cons];congr 1
      · unfold xi;rw[if_pos rfl]
      · have e:∀p∈l.zip vs,xi k w p=p:=λp hp=>by have h1:=(List.of_mem_zip (show(p.1,p.2)∈l.zip vs from hp)).1;unfold xi;rw[if_neg (λe=>ha (by rw[←e];exact h1))]
        rw[List.map_congr_left e,List.map_id']
    · rw[kI,if_neg e,List.set_cons_succ,List.zip_cons_cons,List.zip_cons_cons,List.map_cons,zi4 hn (by simpa using hl) ((List.mem_cons.1 hk).resolve_left e)];unfold xi;rw[if_neg (λq=>e q.symm)]
variable {ks:List IV} {vs:List PV} {st:jG}
def zby(h:zC true ks vs st) (k:IV):k∈st.1↔k∈ks:=by unfold zC at h;rw[if_pos rfl]at h;obtain⟨_,h1,h2,_,hp⟩:=h;have:=hp.map Prod.fst;rw[List.map_fst_zip (by omega),List.map_fst_zip (by omega)]at this;exact this.mem_iff
variable {k:IV}
def zw0{w:PV} (h:zC true ks vs st) (hk:k∉ks):zC true (ks++[k]) (vs++[w]) (qO k st.1,zH k st.1 st.2 w):=by
 have hm:=zby h k;unfold zC at h⊢;rw[if_pos rfl]at h⊢;obtain⟨h0,h1,h2,h3,hp⟩:=h;obtain⟨p1,p2,p3⟩:=zja (w:=w) h3 h2 (λg=>hk (hm.1 g));refine⟨?_,by simp[h1],p3,p2,p1.trans ?_⟩
 ·rw[List.nodup_append];exact⟨h0,by simp,λa ha b hb=>by simp at hb;subst hb;exactλe=>hk (by rw[←e];exact ha)⟩
 ·rw[List.zip_append h1];exact((hp.cons _).trans (List.perm_append_singleton _ _).symm)
def zw2{w:PV} (h:zC true ks vs st) (hk:k∈ks):zC true ks (vs.set (kI k ks) w) (qO k st.1,zH k st.1 st.2 w):=by have hm:=zby h k;unfold zC at h⊢;rw[if_pos rfl]at h⊢;obtain⟨h0,h1,h2,h3,hp⟩:=h;obtain⟨p1,p2,p3⟩:=zjb (w:=w) h3 h2 (hm.2 hk);refine⟨h0,by simp[h1],by rw[p1];exact p3,by rw[p1];exact h3,?_⟩;rw[p1];show(st.1.zip (zH k st.1 st.2 w)).Perm _;rw[p2,zi4 h0 h1 hk];exact hp.map _
def Ng{k:IV}:∀{ks:List IV} (j t:Nat),k∈ks->q1l (.string k) (qy ks j) t=some (t+kI k ks, .int .i64 ((j+kI k ks:Nat):Int))
  | a ::l,j,t,h=>by
    rw[qy,q1l];show(match decide (k=a)with|true=>_|false=>_)=_;by_cases e:k=a
    · subst e;simp[kI]
    · rw[decide_eq_false e];show q1l (.string k) (qy l (j+1)) (t+1)=_;rw[Ng (j+1) (t+1) ((List.mem_cons.1 h).resolve_left e)];simp only[kI,if_neg e];rw[show t+1+kI k l=t+(kI k l+1)by omega,show j+1+kI k l=j+(kI k l+1)by omega]
def Gz{k:IV}:∀{ks:List IV} (j t:Nat),k∉ks->q1l (.string k) (qy ks j) t=none
  | [],j,t,_=>rfl
  | a::l,j,t,h=>by rw[qy,q1l];show(match decide (k=a)with|true=>_|false=>_)=_;rw[decide_eq_false (λe=>h (by rw[e];exact List.mem_cons_self))];exact Gz (j+1) (t+1) λg=>h (List.mem_cons_of_mem _ g)
def zuu:∀(ks:List IV) (k:IV) (j:Nat),qy (ks++[k]) j=qy ks j++[⟨.string k, .int .i64 ((j+ks.length:Nat):Int),j+ks.length⟩]
  | [],k,j=>rfl
  | a::l,k,j=>by rw[List.cons_append,qy,zuu l k (j+1),qy,List.cons_append,List.length_cons,show j+1+l.length=j+(l.length+1)by omega]
def jg9(h:k∈ks):qkb (.string k) (qy ks 0)=true:=by unfold qkb;rw[Ng _ _ h]
def j6y(h:k∉ks):qkb (.string k) (qy ks 0)=false:=by unfold qkb;rw[Gz _ _ h]
def zuv(z:Value) (h:k∈ks):qim (.string k) (qy ks 0) z= .int .i64 (kI k ks:Nat):=by unfold qim;rw[Ng _ _ h,Nat.zero_add]
def zxo(z:Value) (h:k∉ks):qim (.string k) (qy ks 0) z=z:=by unfold qim;rw[Gz _ _ h]
def j6z(h:k∉ks):qd4 (.string k) (.int .i64 (ks.length:Nat)) (qy ks 0) ks.length=qy (ks++[k]) 0/\qd3 (.string k) (qy ks 0) ks.length=(ks++[k]).length:=by unfold qd4 qd3;rw[Gz _ _ h,zuu];simp
def WL:∀(ks:List IV) (j:Nat),∀e∈qy ks j,kOK .string e.key
  | a::l,j,e,h=>by
    rw[qy]at h;rcases List.mem_cons.1 h with rfl|h
    · exact trivial
    · exact WL l (j+1) e h
def Ho(k:IV):(qD k).length=1:=rfl
def zjl(fs:List GV) (r:GV) (z:List Value) (hz:z.length=5):spl (qa GV.cells fs++z) (0+fs.length*5) r.cells=qa GV.cells (fs++[r]):=by have h:=NM r.cells (qa GV.cells fs) z [] (by rw[hz];rfl);rw[List.append_nil,qv zr]at h;rw[Nat.zero_add,h,List.append_nil,zx];show _=_++(r.cells++[]);rw[List.append_nil]
end
section
open Go.Proofs.YtniogjgfomaicaaGreat.Rv
def zdx:∀(l:List UInt8) (i acc v k m:Nat),vdec l i acc=some (v,k)->i<k/\(k<=i+m->vdec (l.take m) i acc=some (v,k))
  | [],i,acc,v,k,m,h=>by cases h
  | c ::l,i,acc,v,k,m,h=>by
    rw[vdec]at h;split at h
    · cases h
    split at h
    · cases h
    split at h
    · obtain⟨rfl,rfl⟩:=Prod.mk.inj (Option.some.inj h);refine⟨Nat.lt_succ_self i,λhm=> ?_⟩;obtain⟨m,rfl⟩:∃m',m=m'+1:=⟨m- 1,by omega⟩;rw[List.take_succ_cons,vdec,if_neg (by assumption),if_neg (by assumption),if_pos (by assumption)]
    · obtain⟨h1,h2⟩:=zdx l (i+1) _ v k (m- 1) h;refine⟨by omega,λhm=> ?_⟩;obtain⟨m,rfl⟩:∃m',m=m'+1:=⟨m- 1,by omega⟩;rw[List.take_succ_cons,vdec,if_neg (by assumption),if_neg (by assumption),if_neg (by assumption)];exact h2 (by omega)
variable {D:IV}
def j6u{i m:Nat} (h:(qb D i).2.1=0):i<(qb D i).2.2/\((qb D i).2.2<=m->qb (D.extract 0 m) i=qb D i):=by
  unfold qb verr at h;unfold qb vval verr vlen;simp only at h⊢;cases hv:vdec (D.data.toList.drop i) 0 0 with
  |none=>rw[hv]at h;cases h
  | some p=>
    obtain⟨v,k⟩:=p;obtain⟨h1,h2⟩:=zdx _ _ _ _ _ (m- i) hv;have h2:k<=0+(m- i)->_:=h2;refine⟨by show i<i+k;omega,λhm=> ?_⟩;have hm:i+k<=m:=hm;have e:(D.extract 0 m).data.toList.drop i=(D.data.toList.drop i).take (m- i):=(by rw[z8t,List.drop_zero,Nat.sub_zero,List.drop_take]);rw[e,h2 (by omega)]
def zio{i m:Nat} {r:Int×Nat} (h:ym D i= .ok r):i<r.2/\(r.2<=m->ym (D.extract 0 m) i= .ok r):=by
 unfold ym at h⊢;split at h
 ·rename_i h0;cases h;obtain⟨g1,g2⟩:=j6u (m:=m) h0;exact⟨g1,λhm=>by rw[g2 hm,if_pos h0]⟩
 ·cases h
end
def vz(n:Int):IV:=⟨(Go.Proofs.YtniogjgfomaicaaGreat.Rv.venc (zg n)).toArray⟩
def zD(n:Int):Nat->IV
 |0=>mkS []
 |j+1=>zD n j++mkS [((n / 2 ^ (8*j)) % 256).toNat]
def zG(ks:List IV) (i:Nat):IV:=match ks[i]? with
 |some k=>vz k.size++k
 |none=>mkS []
mutual
def PV.enc(S:List AT) (t:Int):PV->IV->Bool×IV
  | .mk n s l ks b,B=>match S[t.toNat]? with
    |none=>(false,B)
    | some a=>
      let r:Bool×IV:=
        if a.k=2 then(true,B++zD n 1)else
        if a.k=3\/a.k=4\/a.k=10 then(true,B++vz (IntKind.wrap .i64 n))else
        if a.k=5 then(true,B++zD n 4)else
        if a.k=6 then(true,B++zD n 8)else
        if a.k=7\/a.k=8 then(true,B++vz s.size++s)else
        if a.k=11 then(true,B++s)else
        if a.k=14 then PV.encL S (qo a b) ks 0 l (B++vz b)else
        if a.k=9 then PV.encL S (qo a b) ks 0 l B else
        if a.k=12\/a.k=13 then
          let q:=PV.encL S (qo a b) ks 0 l (if 0<l.length then B++vz l.length else B)
          if q.1=true then(true,q.2++vz 0)else q
        else(true,B)
      (r.1&&decide (r.2.size<=5000),r.2)
def PV.encL(S:List AT) (f:Nat->Int) (ks:List IV) (i:Nat):List PV->IV->Bool×IV
 | [],B=>(true,B)
 |v::l,B=>if(PV.enc S (f i) v (B++zG ks i)).1=true then PV.encL S f ks (i+1) l (PV.enc S (f i) v (B++zG ks i)).2 else(false,(PV.enc S (f i) v (B++zG ks i)).2)
end
def uB(k:Int):Bool:=decide (k=3\/k=4\/k=10)
def QC(k:Int):Bool:=decide (k=7\/k=8)
def QA(k:Int):Bool:=decide (k=12\/k=13)
def bsM(B:IV):List SV->PF
 | [x]=>⟨true,λp=>x.2.1=B.size/\qgt p x.1 x.2.1 x.2.2 (q18 B),λ_ _ h e=>⟨e.1,q4n h e.2⟩⟩
 |_=>{}
def kL(S:List AT) (t:Int) (v:PV):Int×IV:=if t<0\/S.length<=t then(1,mkS [])else if PV.fits S t v=false then(7,mkS [])else if(PV.enc S t v (mkS [])).1=true then(0,(PV.enc S t v (mkS [])).2)else(3,mkS [])
def NS(a b:IV):q18 (a++b)=q18 a++q18 b:=by unfold q18;rw[ByteArray.data_append,Array.toList_append,List.map_append]
def qM(a b:IV):(a++b).size=a.size+b.size:=ByteArray.size_append
def j5t(c:Nat) (h:c<256):q18 (mkS [c])=[.int .u8 (c:Nat)]:=by simp[q18,mkS];omega
def z9x(c:Nat):(mkS [c]).size=1:=rfl
def NT{a b:IV} (h:q18 a=q18 b):a=b:=by
 unfold q18 at h;apply ByteArray.ext;apply Array.toList_inj.mp;refine List.map_inj_right (f:=λb:UInt8=>Value.int .u8 (b.toNat:Nat)) (λx y e=> ?_)|>.mp h
 injection e with _ e
 exact UInt8.toNat_inj.mp (by omega)
def z12(b:IV):b++mkS []=b:=by apply NT;rw[NS];show _++[]=_;rw[List.append_nil]
def Q9(n:Int):∀j,(zD n j).size=j
 |0=>rfl
 |j+1=>by rw[zD,qM,Q9 n j,z9x]
def kX(n:Int) (h1: -9223372036854775808<=n) (h2:n<9223372036854775808):(vz n).size<=10:=by have:=Go.Proofs.YtniogjgfomaicaaGreat.Rv.venc_ten (zg n) (B9 h1 h2);simpa[vz,ByteArray.size]using this
section
def zvr:∀{l:List PV} {i:Nat} (h:i<l.length),l[i].wt<=PV.wts l
  |v::l,0,h=>by rw[PV.wts];show v.wt<=_;omega
  | v::l,i+1,h=>by have h':i<l.length:=(by simpa using h);have:=zvr h';rw[PV.wts];show l[i].wt<=_;omega
def zuq:∀{l:List IV} {i:Nat} (h:i<l.length),l[i].size+10<=qA l
  |v::l,0,h=>by rw[qA];show v.size+10<=_;omega
  | v::l,i+1,h=>by have h':i<l.length:=(by simpa using h);have:=zuq h';rw[qA];show l[i].size+10<=_;omega
def GV.wt_eq(v:GV):v.pv.wt=30+0*v.s.size+qA v.ks+PV.wts (GV.pvs v.l):=by rw[GV.pv_eq,PV.wt]
variable {v:GV}
def GV.wt_at{i:Nat} (hi:i<v.l.length):30+qA v.ks+v.l[i].pv.wt<=v.pv.wt:=by have:=zvr (l:=GV.pvs v.l) (i:=i) (by rw[GV.pvs_len];exact hi);rw[Zg hi]at this;have e:=GV.wt_eq v;omega
def GV.wt_len(v:GV):30*v.l.length<=v.pv.wt:=by have:=NQ (GV.pvs v.l);rw[GV.pvs_len]at this;rw[GV.wt_eq];omega
def GV.sz_at(h:v.pv.sz) {i:Nat} (hi:i<v.l.length):v.l[i].pv.sz:=by refine⟨GV.sm_at h.1 hi,?_⟩;have h2:=h.2;rw[GV.pv_eq,PV.ss]at h2;have hp:=Zg hi;exact NN.1 h2.2 _ (by rw[←hp];exact List.getElem_mem _)
def GV.ss_s(h:v.pv.sz):v.s.size<=1000001:=by have h2:=h.2;rw[GV.pv_eq,PV.ss]at h2;exact h2.1
def z35{j:Nat} (hj:j<v.l.length):SizeOf.sizeOf v.l[j]<SizeOf.sizeOf v:=by
 have h1:=NL hj;have:SizeOf.sizeOf v.l<SizeOf.sizeOf v:=by cases v;simp[GV.l];omega
 omega
def Nf(j:Nat):zG [] j=mkS []:=by simp[zG]
def zic{ks:List IV} {j:Nat} (h:j<ks.length):zG ks j=vz (ks[j].size:Nat)++ks[j]:=by unfold zG;rw[List.getElem?_eq_getElem h]
end
section
def z40{a:AT} {n:Nat} {ks:List IV} {b:Int} (h:ko a n ks b=true):(a.k≠13->ks=[])/\(a.k=9->n=a.fs.length)/\(a.k=14->0<=b/\b<a.brs.length/\n=1)/\(a.k=13->n=ks.length):=by
 unfold ko at h;split at h
 ·cases h
 rename_i h0;refine⟨λhk=>List.length_eq_zero_iff.1 (by omega),λhk=> ?_,λhk=> ?_,λhk=> ?_⟩
 ·rw[if_pos hk]at h;simpa using h
 ·rw[if_neg (by omega),if_pos hk]at h;simpa using h
 ·rw[if_neg (by omega),if_neg (by omega),if_pos hk,Bool.and_eq_true]at h;simpa using h.1
variable {S:List AT}
def j6i{t:Int} {a:AT} {v:GV} (hs:S[t.toNat]? =some a) (h:PV.fits S t v.pv=true) (hq:qq a.k=true):ko a v.l.length v.ks v.b=true/\PV.fitL S (qo a v.b) 0 (GV.pvs v.l)=true:=by
 rw[GV.pv_eq,PV.fits,GV.pvs_len]at h;split at h
 ·cases h
 rw[hs]at h;have hq2:=hq;unfold qq at hq2;rw[decide_eq_true_eq]at hq2;have hn:zd a.k=false:=by unfold zd;exact decide_eq_false (by omega)
 have ht:qS a.k=false:=by unfold qS;exact decide_eq_false (by omega)
 simp only[hn,ht,hq,if_true,Bool.false_eq_true,if_false,Bool.and_eq_true]at h;exact⟨h.1.1.1,h.1.1.2⟩
def WD{t:Int} {v:PV} (h:PV.fits S t v=true):0<=t/\t<S.length:=by
 obtain⟨n,s,l,ks,b⟩:=v;rw[PV.fits]at h;split at h
 ·cases h
 ·omega
def S'(n:Int): -9223372036854775808<=IntKind.wrap .i64 n/\IntKind.wrap .i64 n<9223372036854775808:=by simp[IntKind.wrap,IntKind.bits,IntKind.signed];omega
end
mutual
def PV.fb(S:List AT) (t:Int):PV->IV
  | .mk n s l ks b=>match S[t.toNat]? with
    |none=>mkS []
    | some a=>
      if a.k=2 then zD n 1 else
      if a.k=3\/a.k=4\/a.k=10 then vz (IntKind.wrap .i64 n)else
      if a.k=5 then zD n 4 else
      if a.k=6 then zD n 8 else
      if a.k=7\/a.k=8 then vz s.size++s else
      if a.k=11 then s else
      if a.k=14 then vz b++PV.fbL S (qo a b) ks 0 l else
      if a.k=9 then PV.fbL S (qo a b) ks 0 l else
      if a.k=12\/a.k=13 then(if 0<l.length then vz l.length else mkS [])++PV.fbL S (qo a b) ks 0 l++vz 0
      else mkS []
def PV.fbL(S:List AT) (f:Nat->Int) (ks:List IV) (i:Nat):List PV->IV
 | []=>mkS []
 |v::l=>zG ks i++PV.fb S (f i) v++PV.fbL S f ks (i+1) l
end
def B_:Ct where
 σ:=Int×Int
 args:=λ⟨n,k⟩=>[.sv (.int .u64 n), .sv (.int .i64 k)]
 h:=λ_=>[]
 m:=1
 pre:=λ⟨n,k⟩=>(0<=k/\k<=8)/\0<=n/\n<18446744073709551616
 r:=λ⟨n,k⟩=> .sv (.string (zD n k.toNat))
 h':=λ_=>[]
 m':=2
 g:=λ_=>none
def bH:Int×Int->WayF:=λ⟨n,k⟩=>{
 ann:=λ_ _ _=>some {σ:=Nat,pre:=λj=>(j:Int)<=k,t:=λj=>[(0, .sv (.int .u64 (n / (2 ^ (8*j):Nat)))),(5, .sv (.string (zD n j))),(6, .sv (.int .i64 (j:Int)))],h:=λ_=>[],more:=0,μ:=λj=>k.toNat- j,keep:=[1]}}
def JD:Ct where
 σ:=jO
 args:=λ⟨S,x,t,v⟩=>[kx x, .sv (.int .i64 t),v.av]
 h:=λ_=>[]
 m:=1
 pre:=λ⟨S,x,t,v⟩=>small S/\v.pv.sz/\v.pv.wt<90000000000000/\PV.fits S t v.pv=true
 mem:=λ⟨S,x,t,v⟩=>S8 S x v
 r:=λ⟨S,x,t,v⟩=> .sv (.string (PV.fb S t v.pv))
 h':=λ_=>[]
 m':=2
 g:=λ_=>none
def Kl:jO->Nat:=λ⟨S,x,t,v⟩=>SizeOf.sizeOf v
def uN(l:Nat):IV:=if 0<l then vz l else mkS []
def Oy:jO->WayF:=λ⟨S,x,t,v⟩=>{
 cut:=λi t _=>match i with
  |8=>Jk uB 24 18 [1,3,5,7,18] t
  |15=>Jk QC 42 18 [1,3,5,7,18] t
  |29=>Jk QA 99 18 [1,3,5,7,18] t
  |32=>some {σ:=Unit,t:=λ_=>[(10, .sv (.string (uN v.l.length)))],h:=λ_=>[],more:=0,μ:=λ_=>0,keep:=[1,3,5,7,18]}
  |_=>none
 ann:=λid _ _=>match id with
  |1=>some {σ:=Nat×IV,pre:=λ⟨j,C⟩=>j<=v.l.length/\C++PV.fbL S (qo (qe S t) v.b) v.ks j ((GV.pvs v.l).drop j)=PV.fbL S (qo (qe S t) v.b) v.ks 0 (GV.pvs v.l),t:=λ⟨j,C⟩=>[(8, .sv (.string C)),(9, .sv (.int .i64 (j:Int)))],h:=λ_=>[],more:=0,μ:=λ⟨j,C⟩=>v.l.length- j,keep:=[1,3,5,7,18]}
  |_=>some {σ:=Nat×IV,pre:=λ⟨j,C⟩=>j<=v.l.length/\C++PV.fbL S (qo (qe S t) v.b) v.ks j ((GV.pvs v.l).drop j)=uN v.l.length++PV.fbL S (qo (qe S t) v.b) v.ks 0 (GV.pvs v.l),t:=λ⟨j,C⟩=>[(10, .sv (.string C)),(11, .sv (.int .i64 (j:Int)))],h:=λ_=>[],more:=0,μ:=λ⟨j,C⟩=>v.l.length- j,keep:=[1,3,5,7,18]}}
def z31:Ct where
 σ:=jO
 args:=λ⟨S,x,t,v⟩=>[kx x, .sv (.int .i64 t),v.av]
 h:=λ_=>[]
 m:=1
 pre:=λ⟨S,x,t,v⟩=>small S/\ui S/\v.pv.sz/\v.pv.wt<90000000000000
 mem:=λ⟨S,x,t,v⟩=>S8 S x v
 r:=λ⟨S,x,t,v⟩=> .tup [.tsl 1, .sv (.int .i64 (kL S t v.pv).1)]
 h':=λ_=>[]
 m':=2
 g:=λ⟨S,x,t,v⟩=>some {β:=Unit,ks:=[1],pre:=λ_=>True,mem:=λ_ xs=>bsM (kL S t v.pv).2 xs}
def ze4:jO->WayF:=λ_=>{pubE:=[26]}
section
variable {S:List AT} {t:Int}
def Js{a:AT} {n:Int} {s:IV} {l:List PV} {ks:List IV} {b:Int} (hs:S[t.toNat]? =some a) (h:PV.fits S t (.mk n s l ks b)=true) (hq:qq a.k=true):ko a l.length ks b=true/\PV.fitL S (qo a b) 0 l=true:=by
 rw[PV.fits]at h;split at h
 ·cases h
 rw[hs]at h;have hq2:=hq;unfold qq at hq2;rw[decide_eq_true_eq]at hq2;have hn:zd a.k=false:=by unfold zd;exact decide_eq_false (by omega)
 have ht:qS a.k=false:=by unfold qS;exact decide_eq_false (by omega)
 simp only[hn,ht,hq,if_true,Bool.false_eq_true,if_false,Bool.and_eq_true]at h;exact⟨h.1.1.1,h.1.1.2⟩
def zcz{v:PV} (h:PV.fits S t v=true):∃a,S[t.toNat]? =some a/\a∈S:=by have hr:=WD h;exact⟨S[t.toNat]'(by omega),List.getElem?_eq_getElem (by omega),List.getElem_mem _⟩
def GY{r:Bool×IV} {B F:IV} (h1:r.1=true->r.2=B++F) (h2:(B++F).size<=5000->r.1=true):((r.1&&decide (r.2.size<=5000))=true↔(B++F).size<=5000)/\((r.1&&decide (r.2.size<=5000))=true->r.2=B++F):=by
 rw[Bool.and_eq_true,decide_eq_true_eq];refine⟨⟨λh=> ?_,λh=>⟨h2 h,?_⟩⟩,λh=>h1 h.1⟩
 ·rw[←h1 h.1];exact h.2
 ·rw[h1 (h2 h)];exact h
def Kj{C B F:IV} (h:C=B++F):((((true,C):Bool×IV).1&&decide (((true,C):Bool×IV).2.size<=5000))=true↔(B++F).size<=5000)/\((((true,C):Bool×IV).1&&decide (((true,C):Bool×IV).2.size<=5000))=true->((true,C):Bool×IV).2=B++F):=GY (λ_=>h) λ_=>rfl
mutual
def zuh{S:List AT}:∀(v:PV) (t:Int) (B:IV),PV.fits S t v=true->((PV.enc S t v B).1=true↔(B++PV.fb S t v).size<=5000)/\((PV.enc S t v B).1=true->(PV.enc S t v B).2=B++PV.fb S t v)
  | .mk n s l ks b,t,B,h=>by
    obtain⟨a,hs,_⟩:=zcz h;have hq:=Js (a:=a) hs h;rw[PV.enc,PV.fb,hs];dsimp only;by_cases h2:a.k=2
    · rw[if_pos h2,if_pos h2];exact Kj rfl
    rw[if_neg h2,if_neg h2];by_cases h3:a.k=3\/a.k=4\/a.k=10
    · rw[if_pos h3,if_pos h3];exact Kj rfl
    rw[if_neg h3,if_neg h3];by_cases h5:a.k=5
    · rw[if_pos h5,if_pos h5];exact Kj rfl
    rw[if_neg h5,if_neg h5];by_cases h6:a.k=6
    · rw[if_pos h6,if_pos h6];exact Kj rfl
    rw[if_neg h6,if_neg h6];by_cases h7:a.k=7\/a.k=8
    · rw[if_pos h7,if_pos h7];exact Kj ByteArray.append_assoc
    rw[if_neg h7,if_neg h7];by_cases h11:a.k=11
    · rw[if_pos h11,if_pos h11];exact Kj rfl
    rw[if_neg h11,if_neg h11];by_cases h14:a.k=14
    · rw[if_pos h14,if_pos h14];have hl:=encL_fb l (qo a b) ks 0 (B++vz b) (hq (by unfold qq;exact decide_eq_true (by omega))).2;rw[ByteArray.append_assoc]at hl;exact GY hl.1 hl.2
    rw[if_neg h14,if_neg h14];by_cases h9:a.k=9
    · rw[if_pos h9,if_pos h9];have hl:=encL_fb l (qo a b) ks 0 B (hq (by unfold qq;exact decide_eq_true (by omega))).2;exact GY hl.1 hl.2
    rw[if_neg h9,if_neg h9];by_cases hA:a.k=12\/a.k=13
    · rw [if_pos hA,if_pos hA];have hl:=λB'=>encL_fb l (qo a b) ks 0 B' (hq (by unfold qq;exact decide_eq_true (by omega))).2;have e:(if 0<l.length then B++vz l.length else B)=B++(if 0<l.length then vz l.length else mkS []):=by
        split
        · rfl
        · rw[z12]
      rw[e];generalize (if 0<l.length then vz l.length else mkS [])=L;obtain⟨l1,l2⟩:=hl (B++L);refine GY (λh=> ?_) λh=> ?_
      · by_cases hb:(PV.encL S (qo a b) ks 0 l (B++L)).1=true
        · rw[if_pos hb];show(PV.encL S (qo a b) ks 0 l (B++L)).2++vz 0=_;rw[l1 hb];simp only[ByteArray.append_assoc]
        · rw[if_neg hb]at h;exact absurd h hb
      · rw[if_pos (l2 (by have e2:B++(L++PV.fbL S (qo a b) ks 0 l++vz 0)=(B++L++PV.fbL S (qo a b) ks 0 l)++vz 0:=(by simp only[ByteArray.append_assoc]);rw[e2,qM]at h;omega))]
    · rw[if_neg hA,if_neg hA];exact Kj (z12 B).symm
def encL_fb{S:List AT}:∀(l:List PV) (f:Nat->Int) (ks:List IV) (i:Nat) (B:IV),PV.fitL S f i l=true->((PV.encL S f ks i l B).1=true->(PV.encL S f ks i l B).2=B++PV.fbL S f ks i l)/\((B++PV.fbL S f ks i l).size<=5000->(PV.encL S f ks i l B).1=true)
  | [],f,ks,i,B,h=>by rw[PV.encL,PV.fbL];exact⟨λ_=>(z12 B).symm,λ_=>rfl⟩
  | v ::l,f,ks,i,B,h=>by
    rw[PV.fitL,Bool.and_eq_true]at h;obtain⟨e1,e2⟩:=zuh v (f i) (B++zG ks i) h.1;rw[PV.encL,PV.fbL];have ea:B++(zG ks i++PV.fb S (f i) v++PV.fbL S f ks (i+1) l)=B++zG ks i++PV.fb S (f i) v++PV.fbL S f ks (i+1) l:=(by simp only[ByteArray.append_assoc]);rw[ea];by_cases hb:(PV.enc S (f i) v (B++zG ks i)).1=true
    · rw[if_pos hb,e2 hb];exact encL_fb l f ks (i+1) _ h.2
    · rw[if_neg hb];refine⟨λh=>(by cases h),λh=>absurd (e1.2 ?_) hb⟩;rw[qM]at h;omega
end
def zxa(ks:List IV) (i:Nat) (h:qA ks<90000000000000):(zG ks i).size+qA (ks.drop (i+1))<=qA (ks.drop i):=by
 by_cases hi:i<ks.length
 ·rw[zic hi,List.drop_eq_getElem_cons hi,qA,qM];have:=G0 (List.getElem_mem hi);have:=kX (ks[i].size:Int) (by omega) (by omega);omega
 ·rw[List.drop_of_length_le (by omega),List.drop_of_length_le (by omega)];have:zG ks i=mkS []:=by unfold zG;rw[List.getElem?_eq_none (by omega)]
  rw[this];decide
mutual
def zhn{S:List AT}:∀(v:PV) (t:Int),v.sz->v.wt<90000000000000->PV.fits S t v=true->small S->(PV.fb S t v).size<=50000*v.wt
  | .mk n s l ks b,t,hz,hw,h,hS=>by
    obtain⟨a,hs,ha⟩:=zcz h;have hq:=Js (a:=a) hs h;have hsz:=hz.2;have hsm:=hz.1;rw[PV.ss]at hsz;rw[PV.sm]at hsm;have hl:=λhi=>fbL_size l (qo a b) ks 0 (WM.1 hsm.2.2.2.2.2) (NN.1 hsz.2) (by rw[PV.wt]at hw;omega) (by rw[PV.wt]at hw;omega) hi hS;rw[List.drop_zero]at hl;rw[PV.wt]at hw⊢;have hll:=NQ l;rw[PV.fb,hs];dsimp only;have x1:=λm (h1: -9223372036854775808<=m) h2=>kX m h1 h2;have x2:=Q9 n;by_cases h2:a.k=2
    · rw[if_pos h2,x2];omega
    rw[if_neg h2];by_cases h3:a.k=3\/a.k=4\/a.k=10
    · rw[if_pos h3];have:=x1 _ (S' n).1 (S' n).2;omega
    rw[if_neg h3];by_cases h5:a.k=5
    · rw[if_pos h5,x2];omega
    rw[if_neg h5];by_cases h6:a.k=6
    · rw[if_pos h6,x2];omega
    rw[if_neg h6];by_cases h7:a.k=7\/a.k=8
    · rw[if_pos h7,qM];have:=x1 (s.size:Int) (by omega) (by omega);omega
    rw[if_neg h7];by_cases h11:a.k=11
    · rw[if_pos h11];omega
    rw[if_neg h11];have hbl:=(hS.2 a ha);by_cases h14:a.k=14
    · rw[if_pos h14,qM];obtain⟨ho,hf⟩:=hq (by unfold qq;exact decide_eq_true (by omega));obtain⟨o1,o2,o3,o4⟩:=z40 ho;have:=o3 h14;have:=x1 b (by omega) (by omega);have:=hl hf;omega
    rw[if_neg h14];by_cases h9:a.k=9
    · rw[if_pos h9];have:=hl (hq (by unfold qq;exact decide_eq_true (by omega))).2;omega
    rw[if_neg h9];by_cases hA:a.k=12\/a.k=13
    · rw[if_pos hA,qM,qM];have:=hl (hq (by unfold qq;exact decide_eq_true (by omega))).2;have:=x1 0 (by omega) (by omega);have:=x1 (l.length:Int) (by omega) (by omega);have e:(if 0<l.length then vz l.length else mkS []).size<=10:=by
        split
        · assumption
        · decide
      omega
    · rw[if_neg hA];show 0<=_;omega
def fbL_size{S:List AT}:∀(l:List PV) (f:Nat->Int) (ks:List IV) (i:Nat),(∀v∈l,v.sm)->(∀v∈l,v.ss)->PV.wts l<90000000000000->qA ks<90000000000000->PV.fitL S f i l=true->small S->(PV.fbL S f ks i l).size<=qA (ks.drop i)+50000*PV.wts l
  | [],f,ks,i,_,_,_,_,_,_=>by rw[PV.fbL];show 0<=_;omega
  | v::l,f,ks,i,h1,h2,hw,hk,hf,hS=>by rw[PV.fitL,Bool.and_eq_true]at hf;rw[PV.wts]at hw⊢;have a1:=zhn v (f i) ⟨h1 v (.head _),h2 v (.head _)⟩ (by omega) hf.1 hS;have a2:=fbL_size l f ks (i+1) (λu hu=>h1 u (.tail _ hu)) (λu hu=>h2 u (.tail _ hu)) (by omega) hk hf.2 hS;have a3:=zxa ks i hk;rw[PV.fbL,qM,qM];omega
end
def zhm{v:PV} (ht:¬(t<0\/S.length<=t)) (h:PV.fits S t v=true):kL S t v=if(PV.fb S t v).size<=5000 then(0,PV.fb S t v)else(3,mkS []):=by
 unfold kL;rw[if_neg ht,if_neg (by rw[h];decide)];obtain⟨e1,e2⟩:=zuh v t (mkS []) h;have e0:mkS []++PV.fb S t v=PV.fb S t v:=by apply NT;rw[NS];rfl
 rw[e0]at e1 e2;by_cases hb:(PV.enc S t v (mkS [])).1=true
 ·rw[if_pos hb,if_pos (e1.1 hb),e2 hb]
 ·rw[if_neg hb,if_neg λg=>hb (e1.2 g)]
end
def zn:List IV->IV
 | []=>mkS []
 |a::l=>a++zn l
def z8x:∀(l m:List IV),zn (l++m)=zn l++zn m
 | [],m=>by rw[zn,List.nil_append];apply NT;rw[NS];rfl
 |a::l,m=>by rw[List.cons_append,zn,zn,z8x l m,ByteArray.append_assoc]
inductive Blk:List IV->IV->Prop
 |nil:Blk [] (vz 0)
 |pos {I J:List IV} {R:IV} (hI:I≠[]) (h:Blk J R):Blk (I++J) (vz (I.length:Nat)++zn I++R)
 |neg {I J:List IV} {R:IV} (hI:I≠[]) (h:Blk J R):Blk (I++J) (vz (-(I.length:Nat))++vz ((zn I).size:Nat)++zn I++R)
mutual
def PV.bl(S:List AT) (t:Int):PV->IV->Prop
  | .mk n s l ks b,B=>match S[t.toNat]? with
    |none=>False
    |some a=>if qq a.k=true then∃I:List IV,PV.blL S (qo a b) ks 0 l I/\(if a.k=14 then B=vz b++zn I else if a.k=9 then B=zn I else Blk I B)else B=PV.fb S t (.mk n s l ks b)
def PV.blL(S:List AT) (f:Nat->Int) (ks:List IV) (i:Nat):List PV->List IV->Prop
 | [],I=>I=[]
 |v::l,I=>∃c J,I=(zG ks i++c)::J/\PV.bl S (f i) v c/\PV.blL S f ks (i+1) l J
end
def GP{S:List AT} {f:Nat->Int} {ks:List IV}:∀{l:List PV} {i:Nat} {I:List IV},PV.blL S f ks i l I->I.length=l.length
  | [],i,I,h=>by rw[PV.blL]at h;rw[h];rfl
  | v::l,i,I,h=>by rw[PV.blL]at h;obtain⟨c,J,rfl,_,h2⟩:=h;rw[List.length_cons,List.length_cons,GP h2]
open Go.Proofs.YtniogjgfomaicaaGreat.Rv
def jb(D B:IV) (n:Int):Prop:=0<=n/\∀j,j<B.size->D.data.toList[n.toNat+j]? =B.data.toList[j]?
def z26(s:IV):s.data.toList.length=s.size:=rfl
def G8{D B:IV} {n:Int} (h:jb D B n) (hn:n<=D.size):n+B.size<=D.size:=by
 obtain⟨h0,h⟩:=h;by_cases hz:B.size=0
 ·omega
 have h1:=h (B.size- 1) (by omega);have hb:B.size- 1<B.data.toList.length:=by rw[z26];omega
 rw[List.getElem?_eq_getElem hb]at h1;have:=(List.getElem?_eq_some_iff.1 h1).1;rw[z26]at this;omega
def Nb(a b:IV):(a++b).data.toList=a.data.toList++b.data.toList:=by rw[ByteArray.data_append,Array.toList_append]
def zgt{D a b:IV} {n:Int}:jb D (a++b) n↔jb D a n/\jb D b (n+a.size):=by
 unfold jb;rw[Nb,qM];refine⟨λ⟨h0,h⟩=>⟨⟨h0,λj hj=> ?_⟩,by omega,λj hj=> ?_⟩,λ⟨⟨h0,h1⟩,_,h2⟩=>⟨h0,λj hj=> ?_⟩⟩
 ·have:=h j (by omega);rw[List.getElem?_append_left (by rw[z26];exact hj)]at this;exact this
 ·have:=h (a.size+j) (by omega);rw[List.getElem?_append_right (by rw[z26];omega),z26]at this;rw[show(n+a.size).toNat+j=n.toNat+(a.size+j)by omega,this,show a.size+j- a.size=j by omega]
 ·by_cases hja:j<a.size
  ·rw[List.getElem?_append_left (by rw[z26];exact hja)];exact h1 j hja
  ·rw[List.getElem?_append_right (by rw[z26];omega),z26];have:=h2 (j- a.size) (by omega);rw[←this,show(n+a.size).toNat+(j- a.size)=n.toNat+j by omega]
def zc3{D B:IV} {n:Int} (h:jb D B n):∃r,D.data.toList.drop n.toNat=B.data.toList++r:=by
 refine⟨D.data.toList.drop (n.toNat+B.size),?_⟩;apply List.ext_getElem?;intro j;rw[List.getElem?_drop];by_cases hj:j<B.size
 ·rw[List.getElem?_append_left (by rw[z26];exact hj)];exact h.2 j hj
 ·rw[List.getElem?_append_right (by rw[z26];omega),z26,List.getElem?_drop,show n.toNat+B.size+(j- B.size)=n.toNat+j by omega]
def NV{a b:IV} (h:a.data.toList=b.data.toList):a=b:=by apply ByteArray.ext;exact Array.toList_inj.mp h
def z92{n:Nat} (h:n<256):(UInt8.ofNat n).toNat=n:=by rw[UInt8.toNat_ofNat'];omega
def zkc(rest:List UInt8):∀(v i acc:Nat),i<=9->v*2 ^ (7*i)<18446744073709551616->vdec (venc v++rest) i acc=some (acc+v*2 ^ (7*i),i+(venc v).length):=by
  intro v;induction v using Nat.strongRecOn with
  | _ v ih=>
    intro i acc hi hv;have nine:i=9->v<=1:=λh=>by subst h;have:(2:Nat) ^ (7*9)=9223372036854775808:=(by decide);rw[this]at hv;omega
    by_cases hlt:v<128
    · rw[venc_lt hlt,List.cons_append,vdec,z92 (by omega),if_neg (by omega),if_neg (by omega),if_pos hlt,Nat.mod_eq_of_lt hlt];rfl
    · have hc:(UInt8.ofNat (v % 128+128)).toNat=v % 128+128:=z92 (by omega);have hm:(v % 128+128) % 128=v % 128:=(by omega);rw[venc_ge (by omega),List.cons_append,vdec,hc,hm,if_neg (by omega),if_neg (by omega),if_neg (by omega)];have hv2:v / 128*2 ^ (7*(i+1))<=v*2 ^ (7*i):=(by rw[pow7,←Nat.mul_assoc];exact Nat.mul_le_mul_right _ (by omega));rw[ih (v / 128) (by omega) (i+1) _ (by omega) (by omega)];simp only[List.length_cons,Option.some.injEq,Prod.mk.injEq];refine⟨?_,by omega⟩;rw[pow7,Nat.add_assoc];congr 1;rw[←Nat.mul_assoc,←Nat.add_mul];congr 1;omega
def ziq:∀(a b:List UInt8),jP (a++b)=jP a+256 ^ a.length*jP b
  | [],b=>by rw[List.nil_append,jP];simp
  | c::a,b=>by rw[List.cons_append,jP,jP,ziq a b,List.length_cons,Nat.pow_succ,Nat.mul_add];rw[show 256 ^ a.length*256*jP b=256*(256 ^ a.length*jP b)by rw[Nat.mul_comm (256 ^ a.length) 256,Nat.mul_assoc]];omega
def On(N:Nat):∀k,jP (zD (N:Int) k).data.toList=N % 256 ^ k
  |0=>by rw[zD];show 0=_;rw[Nat.pow_zero,Nat.mod_one]
  | k+1=>by have e:(2:Int) ^ (8*k)=((256 ^ k:Nat):Int):=(by rw[Int.pow_mul];norm_cast);have hd:((N:Int) / ((256 ^ k:Nat):Int) % 256).toNat=N / 256 ^ k % 256:=(by rw[←Int.natCast_ediv];omega);have hl:(zD (N:Int) k).data.toList.length=k:=(by rw[z26,Q9]);rw[zD,Nb,ziq,On N k,hl,e,hd,Nat.mod_pow_succ];congr 1;congr 1;have h256:N / 256 ^ k % 256<256:=Nat.mod_lt _ (by decide);show(UInt8.ofNat _).toNat+256*0=_;rw[UInt8.toNat_ofNat'];omega
def Ip{n:Int} {k:Nat} (h0:0<=n) (h1:n<((256 ^ k:Nat):Int)):((jP (zD n k).data.toList:Nat):Int)=n:=by obtain⟨N,rfl⟩:=Int.eq_ofNat_of_zero_le h0;rw[On,Nat.mod_eq_of_lt (by omega)]
def zub{S:List AT} {f:Nat->Int} {ks:List IV}:∀{l:List PV} {i:Nat} {I:List IV},PV.blL S f ks i l I->∀(j:Nat) (hj:j<l.length),∃c,I[j]? =some (zG ks (i+j)++c)/\PV.bl S (f (i+j)) l[j] c
  | v::l,i,I,h,0,_=>by rw[PV.blL]at h;obtain⟨c,J,rfl,h1,_⟩:=h;exact⟨c,rfl,h1⟩
  | v::l,i,I,h,j+1,hj=>by
    rw[PV.blL]at h;obtain⟨c,J,rfl,_,h2⟩:=h;obtain⟨d,e1,e2⟩:=zub h2 j (by simpa using hj);refine⟨d,?_,?_⟩
    · rw[List.getElem?_cons_succ,e1,show i+1+j=i+(j+1)by omega]
    · rw[show i+(j+1)=i+1+j by omega];exact e2
def zwb(x y:UInt8) (a b:List UInt8):Op.bytesLess (x::a) (y::b)=true↔x.toNat<y.toNat\/x=y/\Op.bytesLess a b=true:=by rw[Op.bytesLess,Bool.or_eq_true,Bool.and_eq_true,decide_eq_true_eq,beq_iff_eq];rfl
def zuc(b:List UInt8):Op.bytesLess b []=false:=by cases b<;>rfl
def zca:∀{a b c:List UInt8},Op.bytesLess a b=true->Op.bytesLess b c=true->Op.bytesLess a c=true
  |a,b,[],_,h=>by rw[zuc]at h;cases h
  |a,[],z::c,h,_=>by rw[zuc]at h;cases h
  | [],y::b,z::c,_,_=>rfl
  | x ::a,y::b,z::c,h1,h2=>by
    rw[zwb]at h1 h2⊢;rcases h1 with h1|⟨rfl,h1⟩
    · rcases h2 with h2|⟨rfl,h2⟩
      · exact .inl (by omega)
      · exact .inl h1
    · rcases h2 with h2|⟨rfl,h2⟩
      · exact .inl h2
      · exact .inr ⟨rfl,zca h1 h2⟩
def zpz{a b c:IV} (h1:qdg a b=true) (h2:qdg b c=true):qdg a c=true:=zca h1 h2
def zie{a:IV}:∀{l:List IV},zo (a::l)=true->∀k∈l,qdg a k=true
  | [],_,k,hk=>by cases hk
  | j::l,h,k,hk=>by
    rw[z25,Bool.and_eq_true,Bool.and_eq_true]at h;have hj:qdg a j=true:=h.1.2;rcases List.mem_cons.1 hk with rfl|hk
    · exact hj
    · exact zpz hj (zie h.2 k hk)
def zib:∀{l:List IV} {k:IV},(∀a∈l,qdg a k=true)->zE k l=l.length
  | [],k,_=>rfl
  | a::l,k,h=>by rw[zE,if_pos (h a (.head _)),zib λb hb=>h b (.tail _ hb)];rfl
def z6o:∀{ks:List IV} {d:Nat} (h:zo ks=true) (hd:d<ks.length),∀a∈ks.take d,qdg a ks[d]=true
  |k::ks,0,_,_,a,ha=>by simp at ha
  | k::ks,d+1,h,hd,a,ha=>by
    have hd':d<ks.length:=(by simpa using hd);have h2:=h;rw[z25,Bool.and_eq_true,Bool.and_eq_true]at h2;rw[List.take_succ_cons]at ha;rcases List.mem_cons.1 ha with rfl|ha
    · exact zie h _ (List.getElem_mem hd')
    · exact z6o h2.2 hd' a ha
def zya{ks:List IV} {k:IV} {l:List PV} {w:PV} (h:∀a∈ks,qdg a k=true) (hl:l.length=ks.length):qO k ks=ks++[k]/\zH k ks l w=l++[w]:=by
 have e:=zib h;have hn:kD k ks=false:=by unfold kD;rw[e,List.getElem?_eq_none (Nat.le_refl _)];rfl
 unfold qO zH;rw[if_neg (by rw[hn];decide),if_neg (by rw[hn];decide),e,List.take_length,List.drop_length,←hl,List.take_length,List.drop_length];exact⟨rfl,rfl⟩
section
open Go.Proofs.YtniogjgfomaicaaGreat.Rv
variable {D:IV} {n:Nat}
def Io{m:Int} (h:jb D (vz m) n) (h1: -9223372036854775808<=m) (h2:m<9223372036854775808):qb D n=(m,0,n+(vz m).size):=by obtain⟨r,hr⟩:=zc3 h;rw[Int.toNat_natCast]at hr;have hv:(vz m).data.toList=venc (zg m):=rfl;have hd:=zkc r (zg m) 0 0 (by decide) (by have:=B9 h1 h2;simpa using this);rw[←hv,←hr]at hd;simp only[Nat.mul_zero,Nat.pow_zero,Nat.mul_one,Nat.zero_add]at hd;unfold qb vval verr vlen;rw[hd];show(vi (zg m),0,n+(vz m).data.toList.length)=_;rw[j7r];rfl
def VD{m:Int} (h:jb D (vz m) n) (h1: -9223372036854775808<=m) (h2:m<9223372036854775808):ym D n= .ok (m,n+(vz m).size):=by unfold ym;rw[Io h h1 h2,if_pos rfl]
def Od{D s:IV} (h:jb D s n) (hn:n<=D.size):qz D n s.size=(s,0,(n:Int)+s.size):=by
 have hl:=G8 h (by omega);obtain⟨r,hr⟩:=zc3 h;rw[Int.toNat_natCast]at hr;unfold qz;rw[if_neg (by omega),Int.toNat_natCast];have:D.extract n (n+s.size)=s:=by apply NV;rw[z8t,hr,show n+s.size- n=s.data.toList.length by rw[z26];omega,List.take_left]
 rw[this]
def G'{D s:IV} {k:Int} (h:jb D s n) (hn:n<=D.size) (hk:k=s.size):uO D n k= .ok (s,n+s.size):=by subst hk;unfold uO;rw[Od h hn];unfold wo;rw[if_pos rfl];show Rs.ok (s,((n:Int)+s.size).toNat)=_;rw[show((n:Int)+s.size).toNat=n+s.size by omega]
def zv4{D s:IV} (h:jb D (vz s.size++s) n) (hn:n<=D.size) (hD:D.size<100000000000000000):(qL D n).2.1=3\/qL D n=(s,0,((n+(vz s.size++s).size:Nat):Int)):=by
 obtain⟨h1,h2⟩:=zgt.1 h;have l1:=G8 h1 (by omega);have l2:=G8 h2 (by omega);have e:=Io h1 (by omega) (by omega);unfold qL;rw[e];dsimp only;rw[if_neg (by omega)];split
 ·exact .inl rfl
 ·have h2:jb D s ((n+(vz s.size).size:Nat):Int):=by rw[Int.natCast_add];exact h2
  refine .inr ?_;rw[Od h2 (by omega),qM];congr 2;omega
def j7p{D s:IV} (h:jb D (vz s.size++s) n) (hn:n<=D.size) (hD:D.size<100000000000000000):Gv D n= .no 2\/Gv D n= .ok (s,n+(vz s.size++s).size):=by
 unfold Gv wo;rcases zv4 h hn hD with e|e
 ·rw[e];exact .inl rfl
 ·rw[e];exact .inr rfl
def zv7{D s:IV} (h:jb D (vz s.size++s) n) (hn:n<=D.size) (hD:D.size<100000000000000000) (hv:qu s=true):Wy D n= .no 2\/Wy D n= .ok (s,n+(vz s.size++s).size):=by
 unfold Wy wo vO;rcases zv4 h hn hD with e|e
 ·rw[e];exact .inl rfl
 ·rw[e];refine .inr ?_;dsimp only;rw[hv,if_neg (show¬((0:Int)=0/\true=false)by simp),if_pos rfl];rfl
def zuo{m o:Int} (h:jb D (vz m) n) (h0:0<=m) (h1:m<o) (h2:o<9223372036854775808):QO D n o= .ok (m,n+(vz m).size):=by
 have e:=Io h (by omega) (by omega);have:kR D n o=0:=by unfold kR;rw[e];dsimp only;rw[if_neg (by omega)]
 unfold QO;rw[if_pos this,e]
def R2{α:Type} (R:Rs (α×Nat×Nat)) (v:α) (m:Nat):Prop:=R= .no 2\/∃c',R= .ok (v,m,c')
def Qd{α β:Type} {R:Rs (α×Nat×Nat)} {f:α×Nat×Nat->Rs (β×Nat×Nat)} {v:α} {m:Nat} {w:β} {m':Nat} (h:R2 R v m) (g:∀c',R2 (f (v,m,c')) w m'):R2 (R.bind f) w m':=by
 rcases h with h|⟨c',h⟩
 ·rw[h];exact .inl rfl
 ·rw[h,qT];exact g c'
def IZ{s:IV} (h:s.size=0):s=mkS []:=by apply NV;have:s.data.toList.length=0:=h;rw[List.length_eq_zero_iff]at this;rw[this];rfl
end
section
def j8a(n:Int): -9223372036854775808<=IntKind.wrap .i64 n/\IntKind.wrap .i64 n<9223372036854775808:=by simp[IntKind.wrap,IntKind.bits,IntKind.signed];omega
variable {n:Int}
def zvp(h:0<=n/\n<18446744073709551616):IntKind.wrap .i64 n % 18446744073709551616=n:=by simp[IntKind.wrap,IntKind.bits,IntKind.signed];omega
def zqp(h:0<=n/\n<9223372036854775808):IntKind.wrap .i64 n=n:=by simp[IntKind.wrap,IntKind.bits,IntKind.signed];omega
def j89(h:0<=n/\n<18446744073709551616) (g:n<2147483648\/18446744071562067968<=n): -2147483648<=IntKind.wrap .i64 n/\IntKind.wrap .i64 n<2147483648:=by simp[IntKind.wrap,IntKind.bits,IntKind.signed];omega
def jg8{S:List AT} {i:Nat} (hi:i<S.length) {D:IV} (hD:D.size<100000000000000000) {v:PV} {n:Nat} {B:IV} (hsy:S[i].sys.length<1000000) (hk:1<=S[i].k/\S[i].k<=14) (hf:PV.fits S i v=true) (hsm:v.sm) (hq:qq S[i].k=false) (hb:PV.bl S i v B) (hB:jb D B n) (hn:n<=D.size):ji S[i] D n= .no 2\/ji S[i] D n= .ok (v,n+B.size):=by
 obtain⟨N,s,l,ks,b⟩:=v;have hs:S[((i:Nat):Int).toNat]? =some S[i]:=by rw[Int.toNat_natCast,List.getElem?_eq_getElem hi]
 rw[PV.bl,hs]at hb;dsimp only at hb;rw[if_neg (by rw[hq];decide),PV.fb,hs]at hb;dsimp only at hb;rw[PV.fits,if_neg (by omega),hs]at hf;dsimp only at hf;unfold PV.sm at hsm;obtain⟨hN,_⟩:=hsm;generalize S[i]=a at*;unfold qq at hq;have hq:=of_decide_eq_false hq;by_cases kn:a.k=1\/a.k=2\/a.k=3\/a.k=4\/a.k=5\/a.k=6\/a.k=10
 ·rw[if_pos (by unfold zd;exact decide_eq_true kn)]at hf;unfold xE at hf;simp only[Bool.and_eq_true,decide_eq_true_eq]at hf;obtain⟨⟨ho,h1⟩,⟨h2,h3⟩,h4⟩:=hf;have e1:=IZ h1;have e2:=List.eq_nil_of_length_eq_zero h2;have e3:=List.eq_nil_of_length_eq_zero h3;subst e1 e2 e3 h4;show _\/_=Rs.ok (yq N,n+B.size);unfold km at ho;unfold ji;by_cases k1:a.k=1
  ·rw[if_pos k1];rw[if_pos k1]at ho;have ho:=of_decide_eq_true ho;rw[if_neg (by omega),if_neg (by omega),if_neg (by omega),if_neg (by omega),if_neg (by omega),if_neg (by omega),if_neg (by omega),if_neg (by omega),if_neg (by omega)]at hb;subst hb ho;exact .inr rfl
  rw[if_neg k1];rw[if_neg k1]at ho;by_cases k2:a.k=2
  ·rw[if_pos k2];rw[if_pos k2]at ho hb;have ho:=of_decide_eq_true ho;subst hb;rw[G' hB hn (by rw[Q9];rfl),qT];have hlo:=Ip (n:=N) (k:=1) hN.1 (by show N<256;omega);have hlo:kk (zD N 1)=N:=hlo;dsimp only;rw[hlo,if_neg (by omega)];exact .inr rfl
  rw[if_neg k2];rw[if_neg k2]at ho hb;by_cases k3:a.k=3
  ·rw[if_pos k3];rw[if_pos k3]at ho;rw[if_pos (.inl k3)]at hb;have ho:=of_decide_eq_true ho;subst hb;have hr:=j89 hN ho;rw[VD hB (by omega) (by omega),qT];dsimp only;rw[if_neg (by omega),zvp hN];exact .inr rfl
  rw[if_neg k3];rw[if_neg k3]at ho;by_cases k4:a.k=4
  ·rw[if_pos k4];rw[if_pos (.inr (.inl k4))]at hb;subst hb;have hr:=j8a N;rw[VD hB hr.1 hr.2,qT];dsimp only;rw[zvp hN];exact .inr rfl
  rw[if_neg k4];by_cases k5:a.k=5
  ·rw[if_pos k5];rw[if_pos k5]at ho;rw[if_neg (by omega),if_pos k5]at hb;have ho:=of_decide_eq_true ho;subst hb;rw[G' hB hn (by rw[Q9];rfl),qT];have hlo:=Ip (n:=N) (k:=4) hN.1 (by show N<4294967296;omega);have hlo:kk (zD N 4)=N:=hlo;dsimp only;rw[hlo];exact .inr rfl
  rw[if_neg k5];rw[if_neg k5]at ho;by_cases k6:a.k=6
  ·rw[if_pos k6];rw[if_neg (by omega),if_neg k5,if_pos k6]at hb;subst hb;rw[G' hB hn (by rw[Q9];rfl),qT];have hlo:=Ip (n:=N) (k:=8) hN.1 (by show N<18446744073709551616;exact hN.2);have hlo:kk (zD N 8)=N:=hlo;dsimp only;rw[hlo];exact .inr rfl
  rw[if_neg k6];have k10:a.k=10:=by omega
  rw[if_pos k10]at ho;have ho:=of_decide_eq_true ho;rw[if_neg (by omega),if_neg (by omega),if_pos k10];rw[if_pos (.inr (.inr k10)),zqp (by omega)]at hb;subst hb;rw[zuo hB hN.1 ho (by omega),qT];exact .inr rfl
 ·rw[if_neg (by unfold zd;rw[decide_eq_false kn];decide)]at hf;have kt:a.k=7\/a.k=8\/a.k=11:=by omega
  rw[if_pos (by unfold qS;exact decide_eq_true kt)]at hf;unfold xE at hf;simp only[Bool.and_eq_true,decide_eq_true_eq]at hf;obtain⟨⟨ho,h1⟩,⟨h2,h3⟩,h4⟩:=hf;have e2:=List.eq_nil_of_length_eq_zero h2;have e3:=List.eq_nil_of_length_eq_zero h3;subst h1 e2 e3 h4;show _\/_=Rs.ok (YT s,n+B.size);unfold vZ at ho;unfold ji;rw[if_neg (by omega),if_neg (by omega),if_neg (by omega),if_neg (by omega),if_neg (by omega),if_neg (by omega)];rw[if_neg (by omega),if_neg (by omega),if_neg (by omega),if_neg (by omega)]at hb;by_cases k7:a.k=7
  ·rw[if_pos k7];rw[if_pos (.inl k7)]at hb;subst hb;rcases j7p hB hn hD with e|e
   ·rw[e];exact .inl rfl
   ·rw[e];exact .inr rfl
  rw[if_neg k7];by_cases k8:a.k=8
  ·rw[if_pos k8];rw[if_pos k8]at ho;rw[if_pos (.inr k8)]at hb;subst hb;rcases zv7 hB hn hD ho with e|e
   ·rw[e];exact .inl rfl
   ·rw[e];exact .inr rfl
  have k11:a.k=11:=by omega
  rw[if_neg k8,if_neg (by omega),if_pos k11];rw[if_neg k8,if_pos k11]at ho;rw[if_neg (by omega),if_pos k11]at hb;have ho:=of_decide_eq_true ho;subst hb;rw[G' hB hn ho.symm,qT];exact .inr rfl
end
section
def KA(S:List AT) (D:IV) (g:Int->Nat->Nat->zy):Prop:=∀(t:Int) (v:PV) (B:IV) (n c:Nat),v.sm->PV.fits S t v=true->PV.bl S t v B->jb D B n->n<=D.size->R2 (g t n c) v (n+B.size)
def xL{D a b:IV} {n:Nat} (h:jb D (a++b) n):jb D a n/\jb D b ((n+a.size:Nat):Int):=by obtain⟨h1,h2⟩:=zgt.1 h;exact⟨h1,by rw[Int.natCast_add];exact h2⟩
def Qi{D B:IV} {n:Nat} (h:jb D B n) (hn:n<=D.size):n+B.size<=D.size:=by have:=G8 h (by omega);omega
def Jv(i:Nat):zG [] i=mkS []:=by unfold zG;simp
def uh(b:IV):mkS []++b=b:=by apply NV;rw[Nb];rfl
def zv0{S:List AT} {D:IV} {g:Int->Nat->Nat->zy} (hg:KA S D g) {f:Nat->Int}:∀(l:List PV) (ts:List Int) (i:Nat) (I:List IV) (acc:List PV) (n c:Nat),ts.length=l.length->(∀(j:Nat) (hj:j<ts.length),f (i+j)=ts[j])->PV.blL S f [] i l I->PV.fitL S f i l=true->(∀v∈l,v.sm)->jb D (zn I) n->n<=D.size->R2 (vU g ts acc n c) (acc++l) (n+(zn I).size)
  | [],[],i,I,acc,n,c,_,_,hb,_,_,_,_=>by rw[PV.blL]at hb;subst hb;refine .inr ⟨c,?_⟩;rw[vU,List.append_nil];rfl
  | v ::l,t::ts,i,I,acc,n,c,hl,hf,hb,hfit,hsm,hat,hn=>by rw[PV.blL,Jv]at hb;obtain⟨B,J,rfl,h1,h2⟩:=hb;rw[uh]at hat⊢;rw[zn]at hat⊢;obtain⟨a1,a2⟩:=xL hat;have ht:f i=t:=hf 0 (by simp);rw[PV.fitL,Bool.and_eq_true]at hfit;rw[ht]at h1 hfit;rw[vU];refine Qd (hg t v B n c (hsm v List.mem_cons_self) hfit.1 h1 a1 hn) λc'=> ?_;have:=zv0 hg l ts (i+1) J (acc++[v]) (n+B.size) c' (by simpa using hl) (λj hj=>by have:=hf (j+1) (by simp;omega);rw[show i+1+j=i+(j+1)by omega];simpa using this) h2 hfit.2 (λw hw=>hsm w (List.mem_cons_of_mem _ hw)) a2 (Qi a1 hn);rw[qM,←Nat.add_assoc];rw[List.append_assoc]at this;exact this
structure Its(S:List AT) (t:Int) (mp:Bool) (ks:List IV) (l:List PV) (I:List IV):Prop where
 bl:PV.blL S (λ_=>t) ks 0 l I
 fit:∀v∈l,PV.fits S t v=true
 sm:∀v∈l,v.sm
 kn:mp=false->ks=[]
 kl:mp=true->ks.length=l.length
 kf:mp=true->zo ks=true
def ug(ks:List IV) (l:List PV) (i:Nat):jG:=(ks.take i,l.take i)
def Ol:∀{ks:List IV},zo ks=true->∀k∈ks,qu k=true
  | a::l,h,k,hk=>by
    rw[z25,Bool.and_eq_true,Bool.and_eq_true]at h;rcases List.mem_cons.1 hk with rfl|hk
    · exact h.1.1
    · exact Ol h.2 k hk
variable {S:List AT} {D:IV}
def jg3(hD:D.size<100000000000000000) {g:Int->Nat->Nat->zy} (hg:KA S D g) {t:Int} {mp:Bool} {ks:List IV} {l:List PV} {I:List IV} (h:Its S t mp ks l I) {i:Nat} (hi:i<I.length) {n c:Nat} (hat:jb D I[i] n) (hn:n<=D.size):R2 (yk (g t) D mp (ug ks l i) n c) (ug ks l (i+1)) (n+I[i].size):=by
 have hl:=GP h.bl;have hil:i<l.length:=by omega
 obtain⟨B,e1,e2⟩:=zub h.bl i hil;rw[List.getElem?_eq_getElem hi,Nat.zero_add]at e1;have e1:=Option.some.inj e1;rw[e1]at hat⊢;have hm:=List.getElem_mem hil;have htk:l.take i++[l[i]]=l.take (i+1):=by rw[List.take_add_one,List.getElem?_eq_getElem hil];rfl
 unfold yk;by_cases hp:mp=true
 ·rw[if_pos hp];have hkl:=h.kl hp;have hik:i<ks.length:=by omega
  have hkf:=h.kf hp;have hkB:zG ks i=vz ks[i].size++ks[i]:=by unfold zG;rw[List.getElem?_eq_getElem hik]
  rw[hkB]at hat⊢;obtain⟨a1,a2⟩:=xL hat;rcases zv7 a1 hn hD (Ol hkf _ (List.getElem_mem hik))with e|e
  ·rw[e];exact .inl rfl
  ·rw[e,qT];refine Qd (hg t l[i] B _ c (h.sm _ hm) (h.fit _ hm) e2 a2 (Qi a1 hn)) λc'=> .inr ⟨c',?_⟩;obtain⟨p1,p2⟩:=zya (ks:=ks.take i) (k:=ks[i]) (l:=l.take i) (w:=l[i]) (z6o hkf hik) (by rw[List.length_take,List.length_take];omega);have hkk:ks.take i++[ks[i]]=ks.take (i+1):=(by rw[List.take_add_one,List.getElem?_eq_getElem hik];rfl);unfold ug;dsimp only;have e4:=qM (vz ((ks[i].size:Nat):Int)++ks[i]) B;rw[p1,p2,htk,hkk,e4,Nat.add_assoc]
 ·rw[if_neg hp];have hkn:=h.kn (by simpa using hp);subst hkn;rw[Jv,uh]at hat⊢;refine Qd (hg t l[i] B _ c (h.sm _ hm) (h.fit _ hm) e2 hat hn) λc'=> .inr ⟨c',?_⟩;unfold ug;dsimp only;rw[htk,List.take_nil,List.take_nil]
def N8{S:List AT} {D:IV} (hD:D.size<100000000000000000) {g:Int->Nat->Nat->zy} (hg:KA S D g) {t:Int} {mp:Bool} {ks:List IV} {l:List PV} {I:List IV} (h:Its S t mp ks l I):∀(k i n c:Nat),i+k<=I.length->jb D (zn ((I.drop i).take k)) n->n<=D.size->R2 (vS (g t) D mp k (ug ks l i) n c) (ug ks l (i+k)) (n+(zn ((I.drop i).take k)).size)
  | 0,i,n,c,_,_,_=>by refine .inr ⟨c,?_⟩;rw[vS,List.take_zero];rfl
  | k+1,i,n,c,hk,hat,hn=>by have hi:i<I.length:=(by omega);rw[List.drop_eq_getElem_cons hi,List.take_succ_cons,zn]at hat⊢;obtain⟨a1,a2⟩:=xL hat;rw[vS];refine Qd (jg3 hD hg h hi a1 hn) λc'=> ?_;have:=N8 hD hg h k (i+1) (n+I[i].size) c' (by omega) a2 (Qi a1 hn);rw[show i+(k+1)=i+1+k by omega,qM,←Nat.add_assoc n];exact this
def zcp{K J I:List IV} {i:Nat} (h:K++J=I.drop i):(I.drop i).take K.length=K/\J=I.drop (i+K.length)/\i+K.length<=I.length\/K=[]:=by
 by_cases hK:K=[]
 ·exact .inr hK
 left;have hl:=congrArg List.length h;rw[List.length_append,List.length_drop]at hl;have hp:0<K.length:=List.length_pos_iff.2 hK;refine⟨by rw[←h,List.take_left],?_,by omega⟩;rw[←List.drop_drop,←h,List.drop_left]
def jfr(hD:D.size<100000000000000000) {g:Int->Nat->Nat->zy} (hg:KA S D g) {t:Int} {mp:Bool} {ks:List IV} {l:List PV} {I:List IV} (h:Its S t mp ks l I) (hI:I.length<4611686018427387904):∀{J:List IV} {R:IV},Blk J R->∀(F i n c:Nat),J=I.drop i->i<=I.length->jb D R n->n<=D.size->D.size<F+n->R2 (vV (g t) D mp F (ug ks l i) n c) (ug ks l I.length) (n+R.size):=by
  intro J R hb;induction hb with
  | nil=>
    intro F i n c hJ hi hat hn hF;obtain⟨F,rfl⟩:∃k,F=k+1:=⟨F- 1,by omega⟩;have hil:i=I.length:=by have:=congrArg List.length hJ;rw[List.length_drop]at this;have:I.length- i=0:=this.symm;omega
    refine .inr ⟨c,?_⟩;rw[vV];unfold YA;rw[VD hat (by decide) (by decide),qT];dsimp only;rw[if_pos (by decide),qT];dsimp only;rw[if_pos rfl,hil]
  | @pos K J R hK hb ih=>
    intro F i n c hJ hi hat hn hF;obtain⟨F,rfl⟩:∃k,F=k+1:=⟨F- 1,by omega⟩;have hp:0<K.length:=List.length_pos_iff.2 hK;obtain⟨e1,e2,e3⟩:=(zcp hJ).resolve_right hK;rw[ByteArray.append_assoc]at hat⊢;obtain⟨a1,a2⟩:=xL hat;obtain⟨a2,a3⟩:=xL a2;have l1:=Qi a1 hn;have l2:=Qi a2 l1;rw[vV];unfold YA;have hlg:=VD a1 (by omega) (by omega);have hlt:=(zio (m:=0) hlg).1;dsimp only at hlt;rw[hlg,qT];dsimp only;rw[if_pos (by omega),qT];dsimp only;rw[if_neg (by omega),Int.toNat_natCast];refine Qd (N8 hD hg h K.length i _ c e3 (by rw[e1];exact a2) l1) λc'=> ?_;rw[e1];have hE:xN (n+(vz ((K.length:Nat):Int)).size) (-1) (n+(vz ((K.length:Nat):Int)).size+(zn K).size)=false:=(by unfold xN;simp);dsimp only;rw[if_neg (by rw[hE];decide)];have:=ih F (i+K.length) _ c' e2 e3 a3 l2 (by omega);rw[qM,qM,←Nat.add_assoc,←Nat.add_assoc];exact this
  | @neg K J R hK hb ih=>
    intro F i n c hJ hi hat hn hF;obtain⟨F,rfl⟩:∃k,F=k+1:=⟨F- 1,by omega⟩;have hp:0<K.length:=List.length_pos_iff.2 hK;obtain⟨e1,e2,e3⟩:=(zcp hJ).resolve_right hK;rw[ByteArray.append_assoc,ByteArray.append_assoc]at hat⊢;obtain⟨a1,a2⟩:=xL hat;obtain⟨a2,a3⟩:=xL a2;obtain⟨a3,a4⟩:=xL a3;have l1:=Qi a1 hn;have l2:=Qi a2 l1;have l3:=Qi a3 l2;rw[vV];unfold YA;have hlg:=VD a1 (by omega) (by omega);have hlt:=(zio (m:=0) hlg).1;dsimp only at hlt;rw[hlg,qT];dsimp only;rw[if_neg (by omega),if_neg (by omega),VD a2 (by omega) (by omega),qT];dsimp only;rw[if_neg (by omega),qT];dsimp only;rw[if_neg (by omega),show(- -((K.length:Nat):Int)).toNat=K.length by omega];refine Qd (N8 hD hg h K.length i _ c e3 (by rw[e1];exact a3) l2) λc'=> ?_;rw[e1];have hE:xN (n+(vz (-((K.length:Nat):Int))).size+(vz (((zn K).size:Nat):Int)).size) (((zn K).size:Nat):Int) (n+(vz (-((K.length:Nat):Int))).size+(vz (((zn K).size:Nat):Int)).size+(zn K).size)=false:=(by unfold xN;simp;omega);dsimp only;rw[if_neg (by rw[hE];decide)];have:=ih F (i+K.length) _ c' e2 e3 a4 l3 (by omega);rw[qM,qM,qM,←Nat.add_assoc,←Nat.add_assoc,←Nat.add_assoc];exact this
end
def zcw{S:List AT} {t:Int}:∀{l:List PV} {i:Nat},PV.fitL S (λ_=>t) i l=true->∀v∈l,PV.fits S t v=true
  | w::l,i,h,v,hv=>by
    rw[PV.fitL,Bool.and_eq_true]at h;rcases List.mem_cons.1 hv with rfl|hv
    · exact h.1
    · exact zcw h.2 v hv
def jgg{S:List AT} (hS:jI S) {D:IV} (hD:D.size<100000000000000000) {g:Int->Nat->Nat->zy} (hg:KA S D g) {i:Nat} (hi:i<S.length) {v:PV} {B:IV} {n c:Nat} (hsm:v.sm) (hf:PV.fits S i v=true) (hb:PV.bl S i v B) (hat:jb D B n) (hn:n<=D.size):R2 (wv g D S[i] n c) v (n+B.size):=by
  have hs:S[((i:Nat):Int).toNat]? =some S[i]:=by rw[Int.toNat_natCast,List.getElem?_eq_getElem hi]
  have hk:=hS.2.1 S[i] (List.getElem_mem hi);have hsy:=(hS.1.2 S[i] (List.getElem_mem hi)).2.2;have hbr:=(hS.1.2 S[i] (List.getElem_mem hi)).2.1;by_cases hq:qq S[i].k=false
  · have hl:=jg8 hi hD hsy hk hf hsm hq hb hat hn;unfold qq at hq;have hq:=of_decide_eq_false hq;unfold wv;rw[if_neg (by omega),if_neg (by omega),if_neg (by omega)];rcases hl with e|e
    · rw[e];exact .inl rfl
    · rw[e,qT];exact .inr ⟨c,rfl⟩
  have hq:qq S[i].k=true:=by simpa using hq
  obtain⟨N,s,l,ks,b⟩:=v;obtain⟨ho,hfl⟩:=Js hs hf hq;have hNs:N=0/\s=mkS []:=by rw[PV.fits,if_neg (by omega),hs]at hf;dsimp only at hf;have hq':=hq;unfold qq at hq';have hq':=of_decide_eq_true hq';rw[if_neg (by unfold zd;rw[decide_eq_false (by omega)];decide),if_neg (by unfold qS;rw[decide_eq_false (by omega)];decide),if_pos hq,Bool.and_eq_true,Bool.and_eq_true]at hf;exact⟨of_decide_eq_true hf.1.2,IZ (of_decide_eq_true hf.2)⟩
  obtain⟨rfl,rfl⟩:=hNs;rw[PV.bl,hs]at hb;dsimp only at hb;rw[if_pos hq]at hb;obtain⟨I,h1,h2⟩:=hb;unfold PV.sm at hsm;obtain⟨_,_,hsl,_,_,hss⟩:=hsm;have hss:=WM.1 hss;have hIl:=GP h1;unfold qq at hq;have hq:=of_decide_eq_true hq;generalize S[i]=a at*;unfold ko at ho;split at ho
  · cases ho
  rename_i hno;unfold wv;by_cases k9:a.k=9
  · have hks:ks=[]:=by
      cases ks with
      |nil=>rfl
      |cons _ _=>exact absurd (.inl ⟨by simp,by omega⟩) hno
    have hb0:b=0:=by
      by_cases h:b=0
      · exact h
      · exact absurd (.inr ⟨h,by omega⟩) hno
    subst hks hb0;rw[if_pos k9]at ho;have ho:=of_decide_eq_true ho;rw[if_neg (by omega),if_pos k9]at h2;subst h2;rw[if_pos k9];unfold Gn;have:=zv0 hg (f:=qo a 0) l (a.fs.map AF.ty) 0 I [] n c (by rw[List.length_map];exact ho.symm) (λj hj=>by have hj2:j<a.fs.length:=(by simpa using hj);unfold qo;rw[if_pos k9,Nat.zero_add,List.getElem?_eq_getElem hj2,List.getElem_map]) h1 hfl hss hat hn;exact Qd this λc'=> .inr ⟨c',rfl⟩
  rw[if_neg k9]at ho h2⊢;by_cases k14:a.k=14
  · have hks:ks=[]:=by
      cases ks with
      |nil=>rfl
      |cons _ _=>exact absurd (.inl ⟨by simp,by omega⟩) hno
    subst hks;rw[if_pos k14]at ho h2⊢;obtain⟨b0,b1,hl1⟩:=of_decide_eq_true ho
    match l,hl1 with
    | [w],_=>
      rw[PV.blL,Jv]at h1;obtain⟨B',J,rfl,e1,e2⟩:=h1;rw[PV.blL]at e2;subst e2;rw[uh,zn,zn,z12]at h2;subst h2;obtain⟨a1,a2⟩:=xL hat;rw[PV.fitL,Bool.and_eq_true]at hfl;have ht:qo a b 0=a.brs.getD b.toNat 0:=(by unfold qo;rw[if_neg k9,if_pos k14]);rw[ht]at e1 hfl;unfold wu;rw[zuo a1 b0 b1 (by omega),qT];refine Qd (hg _ w B' _ c (hss w List.mem_cons_self) hfl.1 e1 a2 (Qi a1 hn)) λc'=> .inr ⟨c',?_⟩;rw[qM,Nat.add_assoc]
  rw[if_neg k14]at ho h2⊢;have hb0:b=0:=by
    by_cases h:b=0
    · exact h
    · exact absurd (.inr ⟨h,by omega⟩) hno
  subst hb0;rw[if_pos (by omega)];have hty:qo a 0=λ_=>a.it:=by funext j;unfold qo;rw[if_neg k9,if_neg k14]
  rw[hty]at h1 hfl;have hI:Its S a.it (decide (a.k=13)) ks l I:=⟨h1,zcw hfl,hss,λh=>by
    have h:=of_decide_eq_false h;cases ks with
    |nil=>rfl
    |cons _ _=>exact absurd (.inl ⟨by simp,h⟩) hno,λh=>by have h:=of_decide_eq_true h;rw[if_pos h,Bool.and_eq_true]at ho;exact(of_decide_eq_true ho.1).symm,λh=>by have h:=of_decide_eq_true h;rw[if_pos h,Bool.and_eq_true]at ho;exact ho.2⟩
  unfold uP;have:=jfr hD hg hI (by omega) h2 (D.size+1- n) 0 n c rfl (Nat.zero_le _) hat hn (by omega);have e0:ug ks l 0=([],[]):=rfl;have e1:ug ks l I.length=(ks,l):=by
    unfold ug;rw[hIl,List.take_length];by_cases h:a.k=13
    · rw[←hI.kl (decide_eq_true h),List.take_length]
    · rw[hI.kn (decide_eq_false h),List.take_nil]
  rw[e0,e1]at this;exact Qd this λc'=> .inr ⟨c',rfl⟩
def Oj{S:List AT} (hS:jI S) {D:IV} (hD:D.size<100000000000000000):∀(f:Nat),KA S D (zk S D f)
  |0,t,v,B,n,c,_,_,_,_,_=> .inl rfl
  | f +1,t,v,B,n,c,hsm,hf,hb,hat,hn=>by
    have hr:=WD hf;obtain⟨i,rfl⟩:=Int.eq_ofNat_of_zero_le (show 0<=t by omega);have hi:i<S.length:=(by omega);unfold zk;split
    · exact .inl rfl
    · rw[Int.toNat_natCast,List.getElem?_eq_getElem hi];exact jgg hS hD (λt v B n c=>Oj hS hD f t v B n c) hi hsm hf hb hat hn
section
mutual
def PV.sh(S:List AT) (t:Int):PV->Prop
  | .mk n s l ks b=>match S[t.toNat]? with
    |none=>False
    |some a=>if qq a.k=true then PV.shL S (qo a b) 0 l else(PV.fb S t (.mk n s l ks b)).size<=5000
def PV.shL(S:List AT) (f:Nat->Int) (i:Nat):List PV->Prop
 | []=>True
 |v::l=>PV.sh S (f i) v/\PV.shL S f (i+1) l
end
def PV.fitz(S:List AT) (t:Int) (v:PV):Prop:=PV.fits S t v=true/\PV.sh S t v
def G5{S:List AT} {f:Nat->Int}:∀{l:List PV} {i:Nat},(∀(j:Nat) (h:j<l.length),PV.sh S (f (i+j)) l[j])->PV.shL S f i l
  | [],i,h=>by rw[PV.shL];trivial
  | v::l,i,h=>by rw[PV.shL];refine⟨h 0 (by simp),G5 λj hj=> ?_⟩;have:=h (j+1) (by simp;omega);rw[show i+1+j=i+(j+1)by omega];simpa using this
variable {S:List AT}
def zjn{f:Nat->Int} {t:Int} (hf:∀i,f i=t) {l:List PV} (h:∀v∈l,PV.sh S t v):PV.shL S f 0 l:=G5 λj hj=>by rw[hf];exact h _ (List.getElem_mem hj)
variable {i:Nat}
def Xp(hi:i<S.length) {n:Int} {s:IV} {l:List PV} {ks:List IV} {b:Int} (hk:qq S[i].k=true) (h:PV.shL S (qo S[i] b) 0 l):PV.sh S i (.mk n s l ks b):=by rw[PV.sh,Int.toNat_natCast,List.getElem?_eq_getElem hi];dsimp only;rw[if_pos hk];exact h
def Ot(hi:i<S.length) {v:PV} (hk:qq S[i].k=false) (h:(PV.fb S i v).size<=5000):PV.sh S i v:=by obtain⟨n,s,l,ks,b⟩:=v;rw[PV.sh,Int.toNat_natCast,List.getElem?_eq_getElem hi];dsimp only;rw[if_neg (by rw[hk];decide)];exact h
def jvj(n:Int): -9223372036854775808<=IntKind.wrap .i64 n/\IntKind.wrap .i64 n<9223372036854775808:=by simp[IntKind.wrap,IntKind.bits,IntKind.signed];omega
def zui(hi:i<S.length) {n:Int} (hk:zd S[i].k=true) (h:km S[i] n=true):PV.fitz S i (.mk n (mkS []) [] [] 0):=by
 refine⟨j6g hi hk h,Ot hi ?_ ?_⟩
 ·unfold zd at hk;have:=of_decide_eq_true hk;unfold qq;exact decide_eq_false (by omega)
 ·unfold zd at hk;have:=of_decide_eq_true hk;have w:=jvj n;have v:=kX _ w.1 w.2;have e0:(mkS []).size=0:=rfl;rw[PV.fb,Int.toNat_natCast,List.getElem?_eq_getElem hi];dsimp only
  (repeat' split)<;>first| (rw[Q9];omega)|omega
def N5(hi:i<S.length) {s:IV} (hk:qS S[i].k=true) (h:vZ S[i] s=true) (hz:if S[i].k=11 then s.size<=5000 else s.size<=4990):PV.fitz S i (.mk 0 s [] [] 0):=by
 refine⟨j6h hi hk h,Ot hi ?_ ?_⟩
 ·unfold qS at hk;have:=of_decide_eq_true hk;unfold qq;exact decide_eq_false (by omega)
 ·unfold qS at hk;have:=of_decide_eq_true hk;have v:=kX (s.size:Int);have e0:(mkS []).size=0:=rfl;rw[PV.fb,Int.toNat_natCast,List.getElem?_eq_getElem hi];dsimp only
  (repeat' split)<;>first|omega|skip
  ·rw[ByteArray.size_append];rw[if_neg (by omega)]at hz;have:=v (by omega) (by omega);omega
  ·rw[if_pos (by assumption)]at hz;exact hz
def zd2(hi:i<S.length) (hk:S[i].k=9) {l:List PV} (hl:l.length=S[i].fs.length) (h:∀(j:Nat) (h1:j<l.length) (h2:j<S[i].fs.length),PV.fitz S (S[i].fs[j]).ty l[j]):PV.fitz S i (.mk 0 (mkS []) l [] 0):=by
 refine⟨zoc hi hk hl λj h1 h2=>(h j h1 h2).1,Xp hi (by unfold qq;exact decide_eq_true (.inl hk)) (G5 λj hj=> ?_)⟩;have e:qo S[i] 0 (0+j)=(S[i].fs[j]'(by omega)).ty:=by unfold qo;rw[if_pos hk,Nat.zero_add,List.getElem?_eq_getElem (by omega)]
 rw[e];exact(h j hj (by omega)).2
def zd3(hi:i<S.length) (hk:S[i].k=14) {b:Nat} (hb:b<S[i].brs.length) {v:PV} (h:PV.fitz S (S[i].brs.getD b 0) v):PV.fitz S i (.mk 0 (mkS []) [v] [] b):=by
 refine⟨zod hi hk hb h.1,Xp hi (by unfold qq;exact decide_eq_true (by omega)) (G5 λj hj=> ?_)⟩;obtain rfl:j=0:=by simp at hj;exact hj
 have e:qo S[i] (b:Int) (0+0)=S[i].brs.getD b 0:=by unfold qo;rw[if_neg (by omega),if_pos hk,Int.toNat_natCast]
 rw[e];exact h.2
def zd0(hi:i<S.length) (hk:S[i].k=12) {l:List PV} (h:∀v∈l,PV.fitz S S[i].it v):PV.fitz S i (.mk 0 (mkS []) l [] 0):=
 ⟨zoa hi hk λv hv=>(h v hv).1,Xp hi (by unfold qq;exact decide_eq_true (by omega)) (zjn (λj=>by unfold qo;rw[if_neg (by omega),if_neg (by omega)]) λv hv=>(h v hv).2)⟩
def zd1(hi:i<S.length) (hk:S[i].k=13) {l:List PV} {ks:List IV} (hl:ks.length=l.length) (hks:zo ks=true) (h:∀v∈l,PV.fitz S S[i].it v):PV.fitz S i (.mk 0 (mkS []) l ks 0):=
 ⟨zob hi hk hl hks λv hv=>(h v hv).1,Xp hi (by unfold qq;exact decide_eq_true (by omega)) (zjn (λj=>by unfold qo;rw[if_neg (by omega),if_neg (by omega)]) λv hv=>(h v hv).2)⟩
end
abbrev wQ:=List AT×SV×Int×GV×SV×List Int×Int
def bkM(S:List AT) (x:SV) (v:GV) (y:SV) (L:List Int):PF:=⟨true,λp=>(qd S x p/\v.ok p)/\qc qn y L p,λ_ _ h e=>⟨⟨yC h e.1.1,GV.ok_mono h e.1.2⟩,jo h e.2⟩⟩
def VG:wQ->Prop:=λ⟨S,x,t,v,y,L,n⟩=>jI S/\PV.fits S t v.pv=true/\PV.sh S t v.pv/\v.pv.sn/\v.pv.wt<90000000000000/\0<=n/\n<=L.length/\zM L
def xp:wQ->IV×Int->Prop:=λ⟨S,x,t,v,y,L,n⟩ ⟨r,n'⟩=>PV.bl S t v.pv r/\r.size+20<=400*v.pv.wt/\n<=n'/\n'<=L.length
def ZG:CtR where
 σ:=wQ
 args:=λ⟨S,x,t,v,y,L,n⟩=>[.ptr 1 0,kx x, .sv (.int .i64 t),v.av]
 h:=λ⟨S,x,t,v,y,L,n⟩=>jc y n
 m:=2
 pre:=λz=>VG z
 mem:=λ⟨S,x,t,v,y,L,n⟩=>bkM S x v y L
 β:=λ_=>IV×Int
 post:=λz b=>xp z b
 pm:=λ_ _=>{}
 r:=λ_ ⟨r,n'⟩=> .sv (.string r)
 h':=λ⟨S,x,t,v,y,L,n⟩ ⟨r,n'⟩=>jc y n'
 m':=2
def ZC:wQ->Nat:=λ⟨S,x,t,v,y,L,n⟩=>SizeOf.sizeOf v
def Kf(I:List IV) (out:IV):Prop:=∀J R,Blk J R->Blk (I++J) (out++R)
def Xb(S:List AT) (a:AT) (v:GV) (L:List Int) (n:Int) (j:Nat) (n1:Int) (out:IV):Prop:=j<=v.l.length/\(n<=n1/\n1<=L.length)/\∃I,PV.blL S (qo a v.b) [] 0 ((GV.pvs v.l).take j) I/\out=zn I/\out.size<=400*PV.wts ((GV.pvs v.l).take j)
def uM(S:List AT) (a:AT) (v:GV) (L:List Int) (n:Int) (i:Nat) (n1:Int) (out:IV):Prop:=i<=v.l.length/\(n<=n1/\n1<=L.length)/\∃I,PV.blL S (λ_=>a.it) v.ks 0 ((GV.pvs v.l).take i) I/\Kf I out/\out.size<=400*(PV.wts ((GV.pvs v.l).take i)+qA (v.ks.take i))
def uL(S:List AT) (a:AT) (v:GV) (L:List Int) (n:Int) (i:Nat) (c:Int) (m:Nat) (n1:Int) (cc:IV):Prop:=(i<=m/\(m:Int)<=i+c/\(i:Int)+c<=v.l.length)/\(n<=n1/\n1<=L.length)/\∃K,PV.blL S (λ_=>a.it) v.ks i (((GV.pvs v.l).drop i).take (m- i)) K/\cc=zn K/\cc.size+20*(m- i)<=400*(PV.wts (((GV.pvs v.l).drop i).take (m- i))+qA ((v.ks.drop i).take (m- i)))
def QB(k:Int):Bool:=decide (k=12\/k=13)
def tZ:wQ->WayF:=λ⟨S,x,t,v,y,L,n⟩=>{
  spl:=λi=>match i with
    |5=>some 15
    |10=>some 14
    |23=>some 10
    |_=>none
  flo:=λi=>match i with
    |10=>some (14,[0])
    |23=>some (10,[0])
    |_=>none
  cut:=λi tt _=>match i with
    |14=>Jk QB 70 24 [0,2,5,7,9,10,24,70] tt
    |_=>none
  ann :=λid tt hh=>match id with
    |1=>some {σ:=Nat×Int×IV,pre:=λ⟨j,n1,out⟩=>Xb S (qe S t) v L n j n1 out,t:=λ⟨j,n1,out⟩=>[(11, .sv (.int .i64 (j:Nat))),(10, .sv (.string out))],h:=λ⟨j,n1,out⟩=>jc y n1,more:=60,μ:=λ⟨j,n1,out⟩=>v.l.length- j,keep:=[0,2,5,7,9]}
    |3=>some {σ:=Nat×Int×IV,pre:=λ⟨j,n1,out⟩=>uM S (qe S t) v L n j n1 out,t:=λ⟨j,n1,out⟩=>[(12, .sv (.int .i64 (j:Nat))),(10, .sv (.string out))],h:=λ⟨j,n1,out⟩=>jc y n1,more:=60,μ:=λ⟨j,n1,out⟩=>v.l.length- j,keep:=[0,2,5,7,9]}
    | _=>match jT tt 12,jT tt 13 with
      |some i,some c=>some {σ:=Nat×Int×IV,pre:=λ⟨m,n1,cc⟩=>uL S (qe S t) v L n i.toNat c m n1 cc,t:=λ⟨m,n1,cc⟩=>[(15, .sv (.int .i64 (m:Nat))),(14, .sv (.string cc))],h:=λ⟨m,n1,cc⟩=>jc y n1,more:=60,μ:=λ⟨m,n1,cc⟩=>(i+c- m).toNat,keep:=[0,2,5,7,9,10,12,13]}
      |_,_=>none}
section
variable (g:Int) (d:SV) (e:List AT) (c:GV) (h:SV) (f:List Int) (F:Int) (L:Nat) (I:Int) (K:IV) (i:Option Addr) (k:Nat) (D:Int) (m:Option Addr) (o p:Nat) (t:Bool) (u:IV) (q:Int) (v:Option Addr) (r w:Nat) (z:Option Addr) (A B H:Nat) (a E:Nat×Int×IV) (J:List Int) (R:Prop) (C:wQ) (N:IV×Int) (x32:IV) (x33:Int) (x34:Nat->Option Obj) (x35:Nat×Int×IV) (x36:jO)
 abbrev kK:=True/\(qd e d x34/\GV.ok c x34)/\qc qn h f x34
 def LZ:=((-9223372036854775808:Int)<=g/\g<9223372036854775808)
 abbrev vw:=(↑(GV.x c).2.1:Int)
 def T8:=(∀j,kK d e c h f j->q37 j (adr (GV.x c).1 ((0:Nat)*5)) [int u64 g,string K,slice i L k,slice m o p,int i64 F])
 abbrev T5:=slice (GV.x c).1 (GV.x c).2.1 (GV.x c).2.2
 def TZ:=C.2.1.1=d.1/\C.2.1.2.1=d.2.1/\C.2.1.2.2=d.2.2/\C.2.2.1=g/\GV.n C.2.2.2.1=F/\GV.s C.2.2.2.1=K/\(GV.x C.2.2.2.1).1=i/\(GV.x C.2.2.2.1).2.1=L/\(GV.x C.2.2.2.1).2.2=k/\(GV.y C.2.2.2.1).1=m/\(GV.y C.2.2.2.1).2.1=o/\(GV.y C.2.2.2.1).2.2=p/\GV.b C.2.2.2.1=I/\C.2.2.2.2.1.1=h.1/\C.2.2.2.2.1.2.1=h.2.1/\C.2.2.2.2.1.2.2=h.2.2/\R
 def T1:=(qd C.1 C.2.1 x34/\GV.ok C.2.2.2.1 x34)/\qc qn C.2.2.2.2.1 C.2.2.2.2.2.1 x34
 abbrev vA:=List.toArray (Proofs.YtniogjgfomaicaaGreat.Rv.venc (zg g))
 def Uz:=d.1=C.2.2.2.2.1.1/\d.2.1=C.2.2.2.2.1.2.1/\d.2.2=C.2.2.2.2.1.2.2/\R
 def C2:=size (ByteArray.mk (vA g))+size N.1<=9223372036854775807/\∃(j:IV×Int),j.1=ByteArray.mk (vA g)++N.1/\Uz d (j.2=N.2/\xp (e,h,F,c,d,f,I) j/\True) C
 def z45:=d.1=d.1/\d.2.1=d.2.1/\d.2.2=d.2.2/\R
 def uG:=GV.n c=GV.n c/\GV.s c=GV.s c/\(GV.x c).1=(GV.x c).1/\(GV.x c).2.1=(GV.x c).2.1/\(GV.x c).2.2=(GV.x c).2.2/\(GV.y c).1=(GV.y c).1/\(GV.y c).2.1=(GV.y c).2.1/\(GV.y c).2.2=(GV.y c).2.2/\GV.b c=GV.b c/\z45 d (g=g/\K=K/\i=i/\L=L/\k=k/\F=F/\m=m/\o=o/\p=p/\t=t/\u=u/\I=I/\v=v/\r=r/\w=w/\z=z/\A=A/\B=B/\(∀j,kK d e c h f j->kK d e c h f j)/\R)
 def LU:=(0<=(↑a.1:Int)/\(↑a.1:Int)<(vw c))/\(GV.x c).1≠noA/\R
 def LQ:=(∀j,kK d e c h f j->q37 j (adr (GV.x c).1 (toNat (↑a.1:Int)*5)) [int u64 g,string K,slice i L k,slice m o p,int i64 F])
 def LP:=TZ g d h F L I K i k m o p (C.2.2.2.2.2.2=a.2.1/\(ZC C<r/\VG C)/\(∀j,kK d e c h f j->T1 C j)/\R) C
 abbrev LW:=Jb ((↑a.1:Int)+1)
 def LY:=length (GV.l c)- a.1<length (GV.l c)- E.1/\True
 def C1:=size a.2.2+size N.1<=9223372036854775807/\LW a/\∃(j:Nat×Int×IV),(↑j.1:Int)=(↑a.1:Int)+1/\g=g/\j.2.2=a.2.2++N.1/\Uz d (j.2.1=N.2/\uG F h e c d f I L D K i k m o p t u v r w z A B (Xb e (qe e g) c f q j.1 j.2.1 j.2.2/\LY c j a)) C
 def TY:=(0<=(↑a.1:Int)/\(↑a.1:Int)<(↑L:Int))/\i≠noA/\∃(j:Int),(∀Q,kK d e c h f Q->q37 Q (Addr.add (adr i (toNat (↑a.1:Int)*9)) 2) [int i64 j])/\LU c a (∃(M:Int),∃S,∃T,∃(Y:Nat),∃(i6:Nat),∃i7,∃(i8:Nat),∃(i9:Nat),∃(O:Int),LQ M d e c h f O Y S T i6 i7 i8 i9 a/\∃(Z:wQ),LP j d e c h f M Y O S T i6 i7 i8 i9 k a (∀(i12:IV×Int),xp Z i12->C1 g h e c d f F o I K m p D v r w t u q i L A z B H a Z i12) Z)
 def CY:=(TY g d e c h f F L I K i k D m o p t u q v r w z A B H a)/\TY g d e c h f F L I K i k D m o p t u q v r w z A B H a
 def CX:=Ji ((↑a.1:Int)<(vw c)) (CY g d e c h f F L I K i k D m o p t u q v r w z A B H a) (∃(i32:IV×Int),i32.1=a.2.2/\z45 h (i32.2=a.2.1/\xp (e,d,g,c,h,f,q) i32/\True))
 def CV:=(∃(j:Nat×Int×IV),(↑j.1:Int)=0/\g=g/\j.2.2=mkS []/\z45 d (j.2.1=F/\uG I h e c d f D L q K i k m o p t u v r w z A B (Xb e (qe e g) c f F j.1 j.2.1 j.2.2/\True)))/\∀(Q:Nat×Int×IV),Xb e (qe e g) c f F Q.1 Q.2.1 Q.2.2->CX g h e c d f I r D K v H q i L k t u F m o p z w A B Q
 def LS:=(1:Int)+ql f a.2.1 ((vw c)- (↑a.1:Int))=1+ql f a.2.1 ((vw c)- (↑a.1:Int))/\g=g/\(↑a.1:Int)=(↑a.1:Int)/\a.2.2=a.2.2/\R
 abbrev z60:=(1:Int)+ql f a.2.1 ((vw c)- (↑a.1:Int))
 abbrev LX:=Jb ((↑a.1:Int)+(z60 c f a))
 def T6:=(0<=(↑a.1:Int)/\(↑a.1:Int)<(↑(GV.y c).2.1:Int))/\(GV.y c).1≠noA/\R
 def LV:=(∀j,kK d e c h f j->q37 j (adr (GV.y c).1 (toNat (↑a.1:Int)*1)) [string K])
 def UA:=LZ g/\size a.2.2+size (ByteArray.mk (vA g))<=9223372036854775807/\R
 abbrev T7:=slice (GV.y c).1 (GV.y c).2.1 (GV.y c).2.2
 def T2:=uL e (qe e g) c f F (toNat (↑a.1:Int)) (z60 c J a) E.1 E.2.1 E.2.2/\toNat ((↑a.1:Int)+(z60 c J a)- (↑E.1:Int))<toNat ((↑a.1:Int)+(z60 c J a)- (↑x35.1:Int))/\True
 def CZ:=size (a.2.2++ByteArray.mk (vA g)++K)+size N.1<=9223372036854775807/\LW a/\∃(j:Nat×Int×IV),(↑j.1:Int)=(↑a.1:Int)+1/\LS F c f E (j.2.2=a.2.2++ByteArray.mk (vA g)++K++N.1/\Uz d (j.2.1=N.2/\uG I h e c d J D L q u i k m o p t x32 v r w z A B (T2 F e c J x33 E j f a)) C)
 def T4:=LU c a (∃(j:Int),∃Q,∃M,∃(S:Nat),∃(T:Nat),∃Y,∃(i6:Nat),∃(i7:Nat),∃(i8:Int),LQ j d e c h f i8 S Q M T Y i6 i7 a/\∃(i9:wQ),LP g d e c h f j S i8 Q M T Y i6 i7 L a (∀(O:IV×Int),xp i9 O->CZ F h e c d J I k D K i o g m p r t u q v w A z B H a E f i9 O x32 x33) i9)
 def CU:=T6 c a (∃j,LV d e c h f j a/\∃(M:Int),M=(↑(size j):Int)/\UA M a (T6 c a (∃S,LV d e c h f S a/\size (a.2.2++ByteArray.mk (vA M))+size S<=9223372036854775807/\AV.sv (T7 c)=AV.sv (T7 c)/\∃Y,LV d e c h f Y a/\AV.sv (string Y)=AV.sv (string S)/\(T4 g d e c h f M L F S i k I m o p t K D v r w z A B H a E J u q)/\T4 g d e c h f M L F S i k I m o p t K D v r w z A B H a E J u q)))
 def C0:=size a.2.2+size N.1<=9223372036854775807/\LW a/\∃(j:Nat×Int×IV),(↑j.1:Int)=(↑a.1:Int)+1/\LS g c f E (j.2.2=a.2.2++N.1/\Uz d (j.2.1=N.2/\uG F h e c d J I L D K i k m o p t u v r w z A B (T2 g e c J q E j f a)) C)
 def T3:=LU c a (∃(j:Int),∃Q,∃M,∃(S:Nat),∃(T:Nat),∃Y,∃(i6:Nat),∃(i7:Nat),∃(i8:Int),LQ j d e c h f i8 S Q M T Y i6 i7 a/\∃(i9:wQ),LP g d e c h f j S i8 Q M T Y i6 i7 L a (∀(O:IV×Int),xp i9 O->C0 F h e c d J I k g K i o D m p r t u q v w A z B H a E f i9 O) i9)
 def CW:=(T3 g d e c h f F L I K i k D m o p t u q v r w z A B H a E J)/\T3 g d e c h f F L I K i k D m o p t u q v r w z A B H a E J
 def mL:=Ji (g=13) (CU F d e c h f I L g K i k D m o p t u q v r w z A B H a E J) (CW F d e c h f I L g K i k D m o p t u q v r w z A B H a E J)
 def mK:=LX c f a/\Ji ((↑E.1:Int)<(↑a.1:Int)+(z60 c f a)) (mL g d e c h J F L I K i k D m o p t u q v r w z A B H E a f) (∃(i67:List Int),(2:Int)=2/\z45 h (E.2.1=E.2.1/\(0<=E.2.1/\E.2.1<=(↑(length i67):Int)/\(0:Int)<2/\(2:Int)<1000000/\zM i67)/\(∀i68,kK d e c h J i68->qc qn (h.1,h.2.1,h.2.2) i67 i68)/\Ji (ql i67 E.2.1 (2:Int)=0) (∃(i69:Int),i69=IntKind.wrap i64 ((0:Int)- (z60 c f a))/\∃(i70:Int),i70=i69/\UA i70 a (∃(i71:Int),i71=(↑(size E.2.2):Int)/\LZ i71/\size (a.2.2++ByteArray.mk (vA i70))+size (ByteArray.mk (vA i71))<=9223372036854775807/\size (a.2.2++ByteArray.mk (vA i70)++ByteArray.mk (vA i71))+size E.2.2<=9223372036854775807/\LX c f a/\∃(W:Nat×Int×IV),I=I/\(↑W.1:Int)=(↑a.1:Int)+(z60 c f a)/\W.2.2=a.2.2++ByteArray.mk (vA i70)++ByteArray.mk (vA i71)++E.2.2/\z45 h (W.2.1=qh i67 E.2.1/\uG g d e c h J F k D K i o m p r t u v w A z B H (uM e (qe e I) c J q W.1 W.2.1 W.2.2/\LY c W a)))) (∃(i74:Int),i74=1+ql f a.2.1 ((vw c)- (↑a.1:Int))/\UA i74 a (size (a.2.2++ByteArray.mk (vA i74))+size E.2.2<=9223372036854775807/\LX c f a/\∃(X:Nat×Int×IV),I=I/\(↑X.1:Int)=(↑a.1:Int)+(z60 c f a)/\X.2.2=a.2.2++ByteArray.mk (vA i74)++E.2.2/\z45 h (X.2.1=qh i67 E.2.1/\uG g d e c h J F k D K i o m p r t u v w A z B H (uM e (qe e I) c J q X.1 X.2.1 X.2.2/\LY c X a))))))
 def mJ:=Jb ((vw c)- (↑a.1:Int))/\∃(j:List Int),(vw c)- (↑a.1:Int)=(vw c)- (↑a.1:Int)/\z45 d (a.2.1=a.2.1/\(0<=a.2.1/\a.2.1<=(↑(length j):Int)/\0<(vw c)- (↑a.1:Int)/\(vw c)- (↑a.1:Int)<1000000/\zM j)/\(∀Q,kK h e c d f Q->qc qn (d.1,d.2.1,d.2.2) j Q)/\((-9223372036854775808:Int)<=1+ql j a.2.1 ((vw c)- (↑a.1:Int))/\(1:Int)+ql j a.2.1 ((vw c)- (↑a.1:Int))<=9223372036854775807)/\(∃(M:Nat×Int×IV),(↑M.1:Int)=(↑a.1:Int)/\LS g c j a (M.2.2=mkS []/\z45 d (M.2.1=qh j a.2.1/\uG F h e c d f I L D K i k m o p t u v r w z A B (uL e (qe e g) c f q (toNat (↑a.1:Int)) (z60 c j a) M.1 M.2.1 M.2.2/\True))))/\∀(T:Nat×Int×IV),uL e (qe e g) c f q (toNat (↑a.1:Int)) (z60 c j a) T.1 T.2.1 T.2.2->mK F h e c d j I H g K i L D m k o t u q v p r z w A B a T f)
 def mI:=Ji ((↑a.1:Int)<(vw c)) (mJ g d e c h f F L I K i k D m o p t u q v r w z A B H a) (∃(i82:Int),i82=0/\UA i82 a (∃(i83:IV×Int),i83.1=a.2.2++ByteArray.mk (vA i82)/\z45 d (i83.2=a.2.1/\xp (e,h,g,c,d,f,q) i83/\True)))
 def mH:=(∃(j:Nat×Int×IV),g=g/\(↑j.1:Int)=0/\j.2.2=mkS []/\z45 d (j.2.1=F/\uG I h e c d f D L q K i k m o p t u v r w z A B (uM e (qe e g) c f F j.1 j.2.1 j.2.2/\True)))/\∀(M:Nat×Int×IV),uM e (qe e g) c f F M.1 M.2.1 M.2.2->mI g d e c h f I L D K i k q m o p t u F v r w z A B H M
 abbrev UB:=(kL x36.1 x36.2.2.1 (GV.pv x36.2.2.2)).2
 def mG:=(QB g=true->mH F d e c h f I L g K i k D m o p t u q v r w z A B H)/\(QB g=false->∃(G:jO),G.2.1.1=h.1/\G.2.1.2.1=h.2.1/\G.2.1.2.2=h.2.2/\G.2.2.1=F/\GV.n G.2.2.2=GV.n c/\GV.s G.2.2.2=GV.s c/\(GV.x G.2.2.2).1=(GV.x c).1/\(GV.x G.2.2.2).2.1=(GV.x c).2.1/\(GV.x G.2.2.2).2.2=(GV.x c).2.2/\(GV.y G.2.2.2).1=(GV.y c).1/\(GV.y G.2.2.2).2.1=(GV.y c).2.1/\(GV.y G.2.2.2).2.2=(GV.y c).2.2/\GV.b G.2.2.2=GV.b c/\(small G.1/\ui G.1/\PV.sz (GV.pv G.2.2.2)/\PV.wt (GV.pv G.2.2.2)<90000000000000)/\(∀i88,kK h e c d f i88->qd G.1 G.2.1 i88/\GV.ok G.2.2.2 i88)/\∀(i89:Unit),True->∀(i90:Option Addr) (i91 i92:Nat),(∃i93,(kK h e c d f i93)/\i91=size (UB G)/\qgt i93 i90 i91 i92 (q18 (UB G)))->∃i94,size i94=i91/\(∀i95,(kK h e c d f i95)/\i91=size (UB G)/\qgt i95 i90 i91 i92 (q18 (UB G))->qgs i95 i90 (q18 i94))/\∃(i96:IV×Int),i96.1=i94/\z45 d (i96.2=I/\xp (e,h,F,c,d,f,I) i96/\True))
 def mF:=(Ji (g=12) (∃(j:Unit),F=F/\g=g/\QB g=decide (g=12)/\z45 d (I=I/\uG g h e c d f D L q K i k m o p t u v r w z A B (True/\True))) (∃(M:Unit),F=F/\g=g/\QB g=decide (g=13)/\z45 d (I=I/\uG g h e c d f D L q K i k m o p t u v r w z A B (True/\True))))/\∀(T:Unit),True->mG g d e c h f F L I K i k D m o p t u q v r w z A B H
 def mE:=Ji (g=9) (CV F d e c h f I L g K i k D m o p t u q v r w z A B H) (mF g d e c h f F L I K i k D m o p t u q v r w z A B H)
 def mD:=(0<=g/\g<(↑d.2.1:Int))/\d.1≠noA/\∃(j:Int),∃Q,∃M,∃(S:Nat),∃(T:Nat),∃(Y:Int),∃i6,∃(i7:Nat),∃(i8:Nat),∃(i9:Bool),∃O,∃(Z:Int),∃i12,∃(i13:Nat),∃(i14:Nat),∃U,∃(i16:Nat),∃(i17:Nat),(∀i18,kK d e c h f i18->q37 i18 (adr d.1 (toNat g*10)) [int i64 j,string Q,slice M S T,int i64 Y,slice i6 i7 i8,bool i9,string O,int i64 Z,slice i12 i13 i14,slice U i16 i17])/\Ji (j=14) (∃(i19:Int),i19=GV.b c/\LZ i19/\(0<=GV.b c/\GV.b c<(↑i16:Int))/\U≠noA/\∃(i20:Int),(∀i21,kK d e c h f i21->q37 i21 (adr U (toNat (GV.b c)*1)) [int i64 i20])/\((0:Int)<=0/\0<(vw c))/\(GV.x c).1≠noA/\∃(i22:Int),∃i23,∃i24,∃(i25:Nat),∃(i26:Nat),∃i27,∃(i28:Nat),∃(i29:Nat),∃(i30:Int),T8 i22 d e c h f i30 i25 i23 i24 i26 i27 i28 i29/\AV.agg [AV.sv (slice d.1 d.2.1 d.2.2)]=AV.agg [AV.sv (slice d.1 d.2.1 d.2.2)]/\AV.sv (slice U i16 i17)=AV.sv (slice U i16 i17)/\AV.sv (int i64 (GV.b c))=AV.sv (int i64 (GV.b c))/\∃(i32:Int),(∀i33,kK d e c h f i33->q37 i33 (adr U (toNat (GV.b c)*1)) [int i64 i32])/\AV.sv (int i64 i32)=AV.sv (int i64 i20)/\AV.sv (T5 c)=AV.sv (T5 c)/\∃(i34:Int),∃i35,∃i36,∃(i37:Nat),∃(i38:Nat),∃i39,∃(i40:Nat),∃(i41:Nat),∃(i42:Int),T8 i34 d e c h f i42 i37 i35 i36 i38 i39 i40 i41/\AV.agg [AV.sv (int u64 i34),AV.sv (string i35),AV.sv (slice i36 i37 i38),AV.sv (slice i39 i40 i41),AV.sv (int i64 i42)]=AV.agg [AV.sv (int u64 i22),AV.sv (string i23),AV.sv (slice i24 i25 i26),AV.sv (slice i27 i28 i29),AV.sv (int i64 i30)]/\∃(V:wQ),TZ i20 d h i22 i25 i30 i23 i24 i26 i27 i28 i29 (V.2.2.2.2.2.2=F/\(ZC V<L/\VG V)/\(∀i45,kK d e c h f i45->T1 V i45)/\∀(i46:IV×Int),xp V i46->C2 i19 h e c d f g F V i46) V) (mE j h e c d f g S F Q M T Y i6 i7 i8 i9 O Z i12 i13 i14 U i16 i17 L)
end
def zwa(k:Nat) (S:List AT) (x:SV) (t:Int) (v:GV) (y:SV) (L:List Int) (n:Int):qk4 P (qfa [(25,Hc),(23,Qz),(26,z31)]) (qgc [(11,ZG.below ZC k)]) Tryz.f11 (ZG.below ZC (k+1)) (tZ) ⟨S,x,t,v,y,L,n⟩=(ZC (S,x,t,v,y,L,n)<k+1/\VG (S,x,t,v,y,L,n)->(∃(p:Pub),kK x S v y L p)->mD t x S v y L n k):=by kernel_rfl
def j61:=λk S x t v y L n=>Eq.trans (zwa k S x t v y L n) (by delta Ji Jb Jt Jf kK LZ vw T8 T5 TZ T1 vA Uz C2 z45 uG LU LQ LP LW LY C1 TY CY CX CV LS z60 LX T6 LV UA T7 T2 CZ T4 CU C0 T3 CW mL mK mJ mI mH UB mG mF mE mD;exact rfl)
section
def Nc{S:List AT} {f:Nat->Int} {ks:List IV}:∀{l:List PV} {i:Nat} {I:List IV} {v:PV} {c:IV},PV.blL S f ks i l I->PV.bl S (f (i+l.length)) v c->PV.blL S f ks i (l++[v]) (I++[zG ks (i+l.length)++c])
  | [],i,I,v,c,h,hv=>by rw[PV.blL]at h;subst h;rw[List.nil_append,List.nil_append,PV.blL];exact⟨c,[],rfl,hv,by rw[PV.blL]⟩
  | w::l,i,I,v,c,h,hv=>by rw[PV.blL]at h;obtain⟨d,J,rfl,h1,h2⟩:=h;rw[List.cons_append,List.cons_append,PV.blL];have e:i+(w::l).length=i+1+l.length:=(by simp;omega);rw[e]at hv⊢;exact⟨d,_,rfl,h1,Nc h2 hv⟩
def zc9{S:List AT} {f:Nat->Int} {ks:List IV}:∀{l m:List PV} {i:Nat} {I J:List IV},PV.blL S f ks i l I->PV.blL S f ks (i+l.length) m J->PV.blL S f ks i (l++m) (I++J)
  | [],m,i,I,J,h,hm=>by rw[PV.blL]at h;subst h;exact hm
  | w::l,m,i,I,J,h,hm=>by rw[PV.blL]at h;obtain⟨d,K,rfl,h1,h2⟩:=h;rw[List.cons_append,List.cons_append,PV.blL];have e:i+(w::l).length=i+1+l.length:=(by simp;omega);rw[e]at hm;exact⟨d,_,rfl,h1,zc9 h2 hm⟩
def z8y(c:IV):zn [c]=c:=by rw[zn,zn,z12]
def z6n(I:List IV) (c:IV):zn (I++[c])=zn I++c:=by rw[z8x,z8y]
def zne:Kf [] (mkS []):=λJ R h=>by rw[List.nil_append,uh];exact h
variable {out:IV}
def znf{I K:List IV} (h:Kf I out) (hK:K≠[]):Kf (I++K) (out++vz (K.length:Nat)++zn K):=λJ R hb=>by have:=h _ _ (Blk.pos hK hb);rw[←List.append_assoc]at this;rw[ByteArray.append_assoc,ByteArray.append_assoc];rw[ByteArray.append_assoc]at this;exact this
def znd{I K:List IV} (h:Kf I out) (hK:K≠[]):Kf (I++K) (out++vz (-(K.length:Nat))++vz ((zn K).size:Nat)++zn K):=λJ R hb=>by have:=h _ _ (Blk.neg hK hb);rw[←List.append_assoc]at this;rw[ByteArray.append_assoc,ByteArray.append_assoc,ByteArray.append_assoc];rw[ByteArray.append_assoc,ByteArray.append_assoc]at this;exact this
variable {I:List IV}
def znc(h:Kf I out):Blk I (out++vz 0):=by have:=h _ _ Blk.nil;rw[List.append_nil]at this;exact this
variable {l:List PV}
def z9a{j:Nat} (h:j<l.length):l.take (j+1)=l.take j++[l[j]]:=by rw[List.take_add_one,List.getElem?_eq_getElem h];rfl
def zqr{j:Nat} (h:j<l.length):PV.wts (l.take (j+1))=PV.wts (l.take j)+PV.wt l[j]:=by rw[z9a h,xn,Jw]
def WG:∀(l m:List IV),qA (l++m)=qA l+qA m
 | [],m=>by rw[List.nil_append,qA,Nat.zero_add]
 |k::l,m=>by rw[List.cons_append,qA,qA,WG l m];omega
def zpy{S:List AT} {t:Int} {a:AT} {N:Int} {s:IV} {l:List PV} {ks:List IV} {b:Int} (hs:S[t.toNat]? =some a) (hq:qq a.k=true) (h:PV.sh S t (.mk N s l ks b)):PV.shL S (qo a b) 0 l:=by rw[PV.sh,hs]at h;dsimp only at h;rw[if_pos hq]at h;exact h
def Oq{S:List AT} {f:Nat->Int}:∀{l:List PV} {i:Nat},PV.shL S f i l->∀(j:Nat) (hj:j<l.length),PV.sh S (f (i+j)) l[j]
  |v::l,i,h,0,_=>by rw[PV.shL]at h;exact h.1
  | v::l,i,h,j+1,hj=>by rw[PV.shL]at h;have:=Oq h.2 j (by simpa using hj);rw[show i+(j+1)=i+1+j by omega];exact this
variable {S:List AT} {t:Int} {a:AT}
def zyo{v:PV} (hs:S[t.toNat]? =some a) (hq:qq a.k=false) (h:PV.sh S t v):(PV.fb S t v).size<=5000:=by obtain⟨N,s,l,ks,b⟩:=v;rw[PV.sh,hs]at h;dsimp only at h;rw[if_neg (by rw[hq];decide)]at h;exact h
def zwc{v:PV} (hs:S[t.toNat]? =some a) (hq:qq a.k=false):PV.bl S t v (PV.fb S t v):=by obtain⟨N,s,l,ks,b⟩:=v;rw[PV.bl,hs];dsimp only;rw[if_neg (by rw[hq];decide)]
variable {N:Int} {s:IV} {b:Int}
def j63(hs:S[t.toNat]? =some a) (h9:a.k=9) (h:PV.blL S (qo a b) [] 0 l I):PV.bl S t (.mk N s l [] b) (zn I):=by rw[PV.bl,hs];dsimp only;rw[if_pos (by unfold qq;exact decide_eq_true (.inl h9))];exact⟨I,h,by rw[if_neg (by omega),if_pos h9]⟩
def j64{w:PV} {c:IV} (hs:S[t.toNat]? =some a) (h14:a.k=14) (h:PV.bl S (qo a b 0) w c):PV.bl S t (.mk N s [w] [] b) (vz b++c):=by rw[PV.bl,hs];dsimp only;rw[if_pos (by unfold qq;exact decide_eq_true (by omega))];refine⟨[zG [] 0++c],by rw[PV.blL];exact⟨c,[],rfl,h,by rw[PV.blL]⟩,?_⟩;rw[if_pos h14,z8y,Jv,uh]
def j62{ks:List IV} {B:IV} (hs:S[t.toNat]? =some a) (h12:a.k=12\/a.k=13) (h:PV.blL S (λ_=>a.it) ks 0 l I) (hB:Blk I B):PV.bl S t (.mk N s l ks b) B:=by
 have hty:qo a b=λ_=>a.it:=by funext j;unfold qo;rw[if_neg (by omega),if_neg (by omega)]
 rw[PV.bl,hs];dsimp only;rw[if_pos (by unfold qq;exact decide_eq_true (by omega)),hty];exact⟨I,h,by rw[if_neg (by omega),if_neg (by omega)];exact hB⟩
end
section
def zcu{S:List AT} {f:Nat->Int}:∀{l:List PV} {i:Nat},PV.fitL S f i l=true->∀(j:Nat) (hj:j<l.length),PV.fits S (f (i+j)) l[j]=true
  |v::l,i,h,0,_=>by rw[PV.fitL,Bool.and_eq_true]at h;exact h.1
  | v::l,i,h,j+1,hj=>by rw[PV.fitL,Bool.and_eq_true]at h;have:=zcu h.2 j (by simpa using hj);rw[show i+(j+1)=i+1+j by omega];exact this
def WR{l:List GV} {j:Nat} (h:j<l.length) (h':j<(GV.pvs l).length):(GV.pvs l)[j]=l[j].pv:=by simp only[GV.pvs_map,List.getElem_map]
variable {a:AT}
def jv8{p:Pub} (h:a.ok p) {j:Nat} (hj:j<a.fs.length):q37 p ((adr a.f.1 (j*9)).add 2) [.int .i64 a.fs[j].ty]:=λi v hi=>by
  have hf:=(wB h hj).2;cases i with
  | zero=>
    simp at hi;subst hi;have:=hf 2 _ (show a.fs[j].cells[2]? =some (.int .i64 a.fs[j].ty)from rfl);rw[Addr.add_add,Nat.add_zero];exact this
  |succ i=>simp at hi
def NG{n:Nat} {ks:List IV} {b:Int} (h:ko a n ks b=true):(a.k≠13->ks=[])/\(a.k≠14->b=0)/\(a.k=9->n=a.fs.length)/\(a.k=14->0<=b/\b<a.brs.length/\n=1)/\(a.k=13->n=ks.length):=by
 unfold ko at h;split at h
 ·cases h
 rename_i hno;refine⟨λg=> ?_,λg=> ?_,λg=> ?_,λg=> ?_,λg=> ?_⟩
 ·cases ks with
  |nil=>rfl
  |cons _ _=>exact absurd (.inl ⟨by simp,g⟩) hno
 ·by_cases hb:b=0
  ·exact hb
  ·exact absurd (.inr ⟨hb,g⟩) hno
 ·rw[if_pos g]at h;exact of_decide_eq_true h
 ·rw[if_neg (by omega),if_pos g]at h;exact of_decide_eq_true h
 ·rw[if_neg (by omega),if_neg (by omega),if_pos g,Bool.and_eq_true]at h;exact of_decide_eq_true h.1
def zhl{α:Type} {l:List α} {i m:Nat} (h1:i<=m) (h2:m<l.length):(l.drop i).take (m+1- i)=(l.drop i).take (m- i)++[l[m]]:=by rw[show m+1- i=(m- i)+1 by omega,List.take_add_one,List.getElem?_drop,show i+(m- i)=m by omega,List.getElem?_eq_getElem h2];rfl
def wrn{c:Nat} (h:c<1000000):IntKind.wrap .i64 (0- (c:Int))= -(c:Int):=by simp[IntKind.wrap,IntKind.bits,IntKind.signed];omega
variable {S:List AT} {v:GV} {L:List Int}
def zc7{n:Int} {i:Nat} {c:Int} {m:Nat} {n1 n':Int} {cc r:IV} (h:uL S a v L n i c m n1 cc) (hm:(m:Int)<i+c) (hml:m<v.l.length) (hks:v.ks=[]\/v.ks.length=v.l.length) (hkz:∀k∈v.ks,k.size<9223372036854775808) (h1:n1<=n') (h2:n'<=L.length) (hb:PV.bl S a.it v.l[m].pv r) (hr:r.size+20<=400*v.l[m].pv.wt):uL S a v L n i c (m+1) n' (cc++(zG v.ks m++r)):=by
 obtain⟨⟨r1,r2,r3⟩,⟨r4,r5⟩,K,r6,r7,r8⟩:=h;have hmp:m<(GV.pvs v.l).length:=by rw[GV.pvs_len];exact hml
 have hlen:(((GV.pvs v.l).drop i).take (m- i)).length=m- i:=by rw[List.length_take,List.length_drop];omega
 have hsn:=zhl r1 hmp;rw[WR hml hmp]at hsn;refine⟨⟨by omega,by omega,r3⟩,⟨by omega,h2⟩,K++[zG v.ks m++r],?_,by rw[z6n,r7],?_⟩
 ·rw[hsn];have:=Nc (v:=v.l[m].pv) (c:=r) r6 hb;rw[hlen,show i+(m- i)=m by omega]at this;exact this
 ·rw[hsn,xn,Jw,qM,qM];rcases hks with e|e
  ·rw[e,Jv];rw[e]at r8;simp only[List.drop_nil,List.take_nil,qA]at r8⊢;show cc.size+(0+r.size)+20*(m+1- i)<=_;omega
  ·have hmk:m<v.ks.length:=(by omega);have hk:=hkz _ (List.getElem_mem hmk);have hvz:=kX (v.ks[m].size:Int) (by omega) (by omega);rw[zhl r1 hmk,WG,qA,qA];have hkB:zG v.ks m=vz (v.ks[m].size:Int)++v.ks[m]:=(by unfold zG;rw[List.getElem?_eq_getElem hmk]);rw[hkB,qM];omega
def zc8{n:Int} {i:Nat} {c:Nat} {n1 n2 n':Int} {out cc hd:IV} (h:uM S a v L n i n1 out) (hN:uL S a v L n i c (i+c) n2 cc) (hc:0<c) (h1:n<=n') (h2:n'<=L.length) (hh:hd=vz (c:Nat)\/hd=vz (-((c:Nat):Int))++vz (cc.size:Nat)) (hz:hd.size<=20):uM S a v L n (i+c) n' (out++hd++cc):=by
 obtain⟨r1,_,I,r4,r5,r6⟩:=h;obtain⟨⟨_,_,s3⟩,_,K,s6,s7,s8⟩:=hN;rw[show i+c- i=c by omega]at s6 s8;have hlen:((GV.pvs v.l).take i).length=i:=by rw[List.length_take,GV.pvs_len];omega
 have hKl:=GP s6;rw[List.length_take,List.length_drop,GV.pvs_len]at hKl;have hKc:K.length=c:=by omega
 have hK:K≠[]:=λe=>by rw[e]at hKc;have:(0:Nat)=c:=hKc;omega
 refine⟨by omega,⟨h1,h2⟩,I++K,?_,?_,?_⟩
 ·rw[List.take_add];exact zc9 r4 (by rw[hlen,Nat.zero_add];exact s6)
 ·rcases hh with e|e
  ·have:=znf r5 hK;rw[hKc,←s7]at this;rw[e];exact this
  ·have:=znd r5 hK;rw[hKc,←s7]at this;rw[e,←ByteArray.append_assoc];exact this
 ·rw[List.take_add,List.take_add,xn,WG,qM,qM];omega
def j60{n n1 n3 n':Int} {i0 w:Nat} {out cc:IV} (hO:uM S a v L n i0 n1 out) (hN:uL S a v L n i0 ((w+1:Nat):Int) (i0+(w+1)) n3 cc) (hw:w+1<1000000) (hi:i0+(w+1)<=v.l.length) (hl:v.l.length<=1000) (h1:n<=n') (h2:n'<=L.length) (ho:out.size<100000000000000000) (hc:cc.size<100000000000000000):∃r:Int,r=IntKind.wrap .i64 (0- ((w+1:Nat):Int))/\∃s5:Int,s5=r/\(-9223372036854775808<=s5/\s5<9223372036854775808)/\out.size+(vz s5).size<=9223372036854775807/\∃s6:Int,s6=(cc.size:Int)/\(-9223372036854775808<=s6/\s6<9223372036854775808)/\(out++vz s5).size+(vz s6).size<=9223372036854775807/\(out++vz s5++vz s6).size+cc.size<=9223372036854775807/\(-9223372036854775808<=(i0:Int)+((w+1:Nat):Int)/\(i0:Int)+((w+1:Nat):Int)<=9223372036854775807)/\∃s7:Nat×Int×IV,(s7.1:Int)=(i0:Int)+((w+1:Nat):Int)/\s7.2.2=out++vz s5++vz s6++cc/\s7.2.1=n'/\uM S a v L n s7.1 s7.2.1 s7.2.2/\v.l.length- s7.1<v.l.length- i0:=by have hz2:=kX (-((w+1:Nat):Int)) (by omega) (by omega);have hz3:=kX (cc.size:Int) (by omega) (by omega);have hnx:=zc8 (n':=n') (c:=w+1) (hd:=vz (-((w+1:Nat):Int))++vz (cc.size:Nat)) hO hN (by omega) h1 h2 (.inr rfl) (by rw[qM];omega);rw[← @ByteArray.append_assoc out]at hnx;refine⟨_,(wrn hw).symm,_,rfl,⟨by omega,by omega⟩,by omega,_,rfl,⟨by omega,by omega⟩,by rw[qM];omega,by rw[qM,qM];omega,⟨by omega,by omega⟩,⟨i0+(w+1),n',_⟩,by show((i0+(w+1):Nat):Int)=_;omega,rfl,rfl,hnx,by show v.l.length- (i0+(w+1))<_;omega⟩
def jft (k:Nat) (he0:q4p P 26 z31) (hb0:q1q P 11 (ZG.below ZC k)):q1q P 11 (ZG.below ZC (k+1)):=by
 refine zt (qcn (qgp zde (qgp JC (qgp he0 qjr)))) (qde (qgo hb0 qjq)) (W:=tZ) Tryz.func11 λ⟨S,(x:SV),(t:Int),v,(y:SV),L,(n:Int)⟩=>(j61 k S x t v y L n).mpr ?_;rintro⟨hmu,hok,hfit,hsh,hsn,hwt,hn0,hn1,hL⟩ ⟨p,_,⟨hx,hvo⟩,hy⟩;have hmu:SizeOf.sizeOf v<k+1:=hmu;have hr:=WD hfit;obtain⟨i,rfl⟩:=Int.eq_ofNat_of_zero_le hr.1;have hi:i<S.length:=by omega
 have xs:x.2.1=S.length:=hx.1.1;have htp:=λq (hq:qd S x q)=>wC hq hi;have hao:=λq (hq:qd S x q)=>hq.2 S[i] (List.getElem_mem hi);have hkd:=hok.2.1 S[i] (List.getElem_mem hi);have hrg:=hok.2.2 S[i] (List.getElem_mem hi);have sm:=hok.1.2 S[i] (List.getElem_mem hi);have hs:S[((i:Nat):Int).toNat]? =some S[i]:=by rw[Int.toNat_natCast,List.getElem?_eq_getElem hi]
 have hat:qe S ((i:Nat):Int)=S[i]:=by unfold qe;rw[hs];rfl
 obtain⟨_,_,fl,bl⟩:=yE (hao p hx);have xl:=GV.x_len hvo;have yl:=GV.y_len hvo;have wl:=GV.wt_len v;have hpe:=GV.pv_eq v;have hso:=hsn;rw[hpe]at hso;obtain⟨_,_,hl1000,_,_,hsnl⟩:=Ov hso;rw[GV.pvs_len]at hl1000;simp only[qH,exists_const,forall_const,Int.toNat_natCast,xs,xl,yl,hat];have hkid:∀(j:Nat) (hj:j<v.l.length) (n1:Int),qq S[i].k=true->n<=n1->n1<=L.length->SizeOf.sizeOf v.l[j]<k/\VG (S,x,qo S[i] v.b j,v.l[j],y,L,n1):=λj hj n1 hq h1 h2=>by
  have h3:=z35 hj;have h4:=GV.wt_at hj;rw[hpe]at hfit hsh;obtain⟨_,hfl⟩:=Js hs hfit hq;have hl:=zpy hs hq hsh;have hjl:j<(GV.pvs v.l).length:=by rw[GV.pvs_len];exact hj
  have f1:=zcu hfl j hjl;have f2:=Oq hl j hjl;rw[WR hj hjl,Nat.zero_add]at f1 f2;exact⟨by omega,hok,f1,f2,hsnl _ (by rw[GV.pvs_map];exact List.mem_map_of_mem (List.getElem_mem hj)),by omega,by omega,h2,hL⟩
 have hmem:∀(j:Nat) (hj:j<v.l.length) q,(qd S x q/\v.ok q)/\qc qn y L q->(qd S x q/\v.l[j].ok q)/\qc qn y L q:=λj hj q hq=>⟨⟨hq.1.1,GV.ok_at hq.1.2 hj⟩,hq.2⟩;have hcell:=λ(j:Nat) (hj:j<v.l.length) q (hq:(qd S x q/\v.ok q)/\qc qn y L q)=>(GV.cells_at hq.1.2 hj).2;refine⟨⟨by omega,by omega⟩,(htp p hx).1,S[i].k,S[i].nm,S[i].al.1,S[i].al.2.1,S[i].al.2.2,S[i].it,S[i].sy.1,S[i].sy.2.1,S[i].sy.2.2,S[i].hd,S[i].df,S[i].sz,S[i].f.1,S[i].f.2.1,S[i].f.2.2,S[i].br.1,S[i].br.2.1,S[i].br.2.2,λq hq=>(htp q hq.1.1).2,λk14=> ?_,λk14=>⟨λk9=> ?_,λk9=>⟨⟨λh=>by unfold QB;exact kA (by omega),λh=>by unfold QB;exact kA (by omega)⟩,λkq=> ?_,λkq=> ?_⟩⟩⟩
 ·have hq:qq S[i].k=true:=by unfold qq;exact decide_eq_true (by omega)
  have hf2:=hfit;rw[hpe]at hf2;obtain⟨q1,q2,q3,q4,q5⟩:=NG (Js hs hf2 hq).1;obtain⟨b0,b1,hl1⟩:=q4 k14;rw[GV.pvs_len]at hl1;have hks:=q1 (by omega);obtain⟨m,hbm⟩:=Int.eq_ofNat_of_zero_le b0;have hml:m<S[i].brs.length:=by omega
  have hba:=λq (hq:S[i].ok q)=>z22 hq hml;have h0:0<v.l.length:=by omega
  have hty:qo S[i] v.b 0=S[i].brs[m]:=by unfold qo;rw[if_neg (by omega),if_pos k14,hbm,Int.toNat_natCast,List.getD_eq_getElem?_getD,List.getElem?_eq_getElem hml];rfl
  have hkd:=hkid 0 h0 n hq (Int.le_refl _) hn1;rw[hty]at hkd;have hpv:GV.pvs v.l=[v.l[0].pv]:=by apply List.ext_getElem (by rw[GV.pvs_len,hl1];rfl);intro j h1 h2;have:j=0:=(by simp at h2;exact h2);subst this;rw[WR h0];rfl
  have hw0:=GV.wt_at h0;have hvz:=kX v.b (by omega) (by omega);simp only[hbm,Int.toNat_natCast]at hvz⊢;refine⟨(m:Int),rfl,⟨by omega,by omega⟩,⟨by omega,by omega⟩,(hba p (hao p hx)).1,S[i].brs[m],λq hq=>(hba q (hao q hq.1.1)).2,⟨by omega,by omega⟩,(GV.cells_at hvo h0).1,v.l[0].n,v.l[0].s,v.l[0].x.1,v.l[0].x.2.1,v.l[0].x.2.2,v.l[0].y.1,v.l[0].y.2.1,v.l[0].y.2.2,v.l[0].b,λq hq=>(GV.cells_at hq.1.2 h0).2,S[i].brs[m],λq hq=>(hba q (hao q hq.1.1)).2,rfl,v.l[0].n,v.l[0].s,v.l[0].x.1,v.l[0].x.2.1,v.l[0].x.2.2,v.l[0].y.1,v.l[0].y.2.1,v.l[0].y.2.2,v.l[0].b,λq hq=>(GV.cells_at hq.1.2 h0).2,rfl,⟨S,x,S[i].brs[m],v.l[0],y,L,n⟩,rfl,xs,rfl,rfl,rfl,rfl,rfl,rfl,rfl,rfl,rfl,rfl,rfl,rfl,rfl,rfl,rfl,hkd,hmem 0 h0,?_⟩;rintro⟨r,n'⟩ ⟨p1,p2,p3,p4⟩;have p2:r.size+20<=400*v.l[0].pv.wt:=p2;refine⟨by show(vz ((m:Nat):Int)).size+r.size<=_;omega,⟨vz ((m:Nat):Int)++r,n'⟩,rfl,rfl,rfl,rfl,rfl,?_,by show(vz ((m:Nat):Int)++r).size+20<=_;rw[qM];omega,p3,p4⟩;show PV.bl S i v.pv (vz ((m:Nat):Int)++r);rw[hpe,hpv,hks,hbm];rw[←hbm];exact j64 hs k14 (by rw[hty];exact p1)
 ·have hq:qq S[i].k=true:=by unfold qq;exact decide_eq_true (by omega)
  have hf2:=hfit;rw[hpe]at hf2;obtain⟨q1,q2,q3,q4,q5⟩:=NG (Js hs hf2 hq).1;have hl9:=q3 k9;rw[GV.pvs_len]at hl9;have hks:=q1 (by omega);refine⟨⟨⟨0,n,mkS []⟩,rfl,rfl,rfl,by omega,⟨Int.le_refl _,hn1⟩,[],by rw[List.take_zero,PV.blL],rfl,by rw[List.take_zero,PV.wts];exact Nat.le_refl _⟩,?_⟩;rintro⟨j,n1,out⟩ ⟨r1,⟨r2,r3⟩,I,r4,r5,r6⟩;simp only at r1 r2 r3 r4 r5 r6⊢;refine⟨λhlt=> ?_,λhge=> ?_⟩
  ·have hjl:j<v.l.length:=(by omega);have hjf:j<S[i].fs.length:=(by omega);have hjp:j<(GV.pvs v.l).length:=(by rw[GV.pvs_len];exact hjl);have hty:qo S[i] v.b j=S[i].fs[j].ty:=(by unfold qo;rw[if_pos k9,List.getElem?_eq_getElem hjf]);have hkd:=hkid j hjl n1 hq r2 r3;rw[hty]at hkd;have hw0:=GV.wt_at hjl;have hwv:=GV.wt_eq v;have hfa:=λq (hq:S[i].ok q)=>wB hq hjf;have hws:=zqr hjp;have hwt2:=WA (GV.pvs v.l) (j+1);rw[WR hjl hjp]at hws;refine⟨?xa,?xb⟩;case xa|xb=>
    refine⟨⟨by omega,by omega⟩,(hfa p (hao p hx)).1,S[i].fs[j].ty,λq hq=>jv8 (hao q hq.1.1) hjf,⟨by omega,by omega⟩,(GV.cells_at hvo hjl).1,v.l[j].n,v.l[j].s,v.l[j].x.1,v.l[j].x.2.1,v.l[j].x.2.2,v.l[j].y.1,v.l[j].y.2.1,v.l[j].y.2.2,v.l[j].b,λq hq=>(GV.cells_at hq.1.2 hjl).2,⟨S,x,S[i].fs[j].ty,v.l[j],y,L,n1⟩,rfl,xs,rfl,rfl,rfl,rfl,rfl,rfl,rfl,rfl,rfl,rfl,rfl,rfl,rfl,rfl,rfl,hkd,hmem j hjl,?_⟩;rintro⟨r,n'⟩ ⟨p1,p2,p3,p4⟩;have p1:PV.bl S S[i].fs[j].ty v.l[j].pv r:=p1;have p2:r.size+20<=400*v.l[j].pv.wt:=p2;have p3:n1<=n':=p3;refine⟨by show out.size+r.size<=_;omega,⟨by omega,by omega⟩,⟨j+1,n',out++r⟩,by show((j+1:Nat):Int)=_;omega,rfl,rfl,rfl,rfl,rfl,⟨by show j+1<=_;omega,⟨Int.le_trans r2 p3,p4⟩,I++[r],?_,by rw[z6n,r5],?_⟩,by show v.l.length- (j+1)<v.l.length- j;omega⟩
    ·have hlen:((GV.pvs v.l).take j).length=j:=(by rw[List.length_take];omega);have:=Nc (v:=v.l[j].pv) (c:=r) r4 (by rw[hlen,Nat.zero_add,hty];exact p1);rw[Jv,uh]at this;show PV.blL S (qo S[i] v.b) [] 0 ((GV.pvs v.l).take (j+1)) (I++[r]);rw[z9a hjp,WR hjl hjp];exact this
    ·show(out++r).size<=_;rw[qM];show _<=400*PV.wts ((GV.pvs v.l).take (j+1));omega
  ·have hj:j=v.l.length:=(by omega);have ht:(GV.pvs v.l).take j=GV.pvs v.l:=List.take_of_length_le (by rw[GV.pvs_len];omega);rw[ht]at r4 r6;have hwv:=GV.wt_eq v;refine⟨⟨out,n1⟩,rfl,rfl,?_,by show out.size+20<=_;omega,r2,r3⟩;show PV.bl S i v.pv out;rw[hpe,hks,r5];exact j63 hs k9 r4
 ·unfold QB at kq;have kq:=of_decide_eq_true kq;have hq:qq S[i].k=true:=by unfold qq;exact decide_eq_true (by omega)
  have hf2:=hfit;rw[hpe]at hf2;obtain⟨q1,q2,q3,q4,q5⟩:=NG (Js hs hf2 hq).1;rw[GV.pvs_len]at q5;have hks:v.ks=[]\/v.ks.length=v.l.length:=by
   by_cases h:S[i].k=13
   ·exact .inr (q5 h).symm
   ·exact .inl (q1 h)
  have hso2:=hsn;rw[hpe]at hso2;obtain⟨_,_,_,_,hkz,_⟩:=Ov hso2;have hty:∀j,qo S[i] v.b j=S[i].it:=λj=>by unfold qo;rw[if_neg (by omega),if_neg (by omega)]
  have hwv:=GV.wt_eq v;refine⟨⟨⟨0,n,mkS []⟩,rfl,rfl,rfl,Nat.zero_le _,⟨Int.le_refl _,hn1⟩,[],by rw[List.take_zero,PV.blL],zne,Nat.zero_le _⟩,?_⟩;rintro⟨i0,n1,out⟩ hO;have hO:uM S S[i] v L n i0 n1 out:=hO;obtain⟨r1,⟨r2,r3⟩,I,r4,r5,r6⟩:=id hO;have hwtk:=WA (GV.pvs v.l) i0;have hkzs:qA (v.ks.take i0)+qA (v.ks.drop i0)=qA v.ks:=by rw[←WG,List.take_append_drop]
  simp only at r1 r2 r3 r4 r5 r6⊢;refine⟨λhlt=> ?_,λhge=> ?_⟩
  ·have hm0:(0:Int)<(v.l.length:Nat)- (i0:Nat):=(by omega);obtain⟨u1,u2⟩:=yd (n:=n1) hL hm0;obtain⟨u3,u4,_⟩:=v_ r3;refine⟨⟨by omega,by omega⟩,L,⟨by omega,r3,by omega,by omega,hL⟩,λq hq=>hq.2,?_⟩;generalize ql L n1 ((v.l.length:Nat)- (i0:Nat))=w at*;obtain⟨w,rfl⟩:=Int.eq_ofNat_of_zero_le u1;generalize hn2:qh L n1=n2 at*;have hc:(1:Int)+(w:Nat)=((w+1:Nat):Int):=(by omega);rw[hc];have hN0:uL S S[i] v L n i0 ((w+1:Nat):Int) i0 n2 (mkS []):=⟨⟨Nat.le_refl _,by omega,by omega⟩,⟨Int.le_trans r2 u3,u4⟩,[],by rw[Nat.sub_self,List.take_zero,PV.blL],rfl,by rw[Nat.sub_self];exact Nat.zero_le _⟩;refine⟨⟨by omega,by omega⟩,⟨⟨i0,n2,mkS []⟩,rfl,rfl,rfl,hN0⟩,?_⟩;rintro⟨m,n3,cc⟩ hN;have hN:uL S S[i] v L n i0 ((w+1:Nat):Int) m n3 cc:=hN;obtain⟨⟨s1,s2,s3⟩,⟨s4,s5⟩,K,s6,s7,s8⟩:=id hN;simp only at s1 s2 s3 s4 s5 s6 s7 s8⊢;have hNb:PV.wts (((GV.pvs v.l).drop i0).take (m- i0))<=PV.wts ((GV.pvs v.l).drop i0):=by have:=WA ((GV.pvs v.l).drop i0) (m- i0);omega
   have hKb:qA ((v.ks.drop i0).take (m- i0))<=qA (v.ks.drop i0):=by have:qA ((v.ks.drop i0).take (m- i0))+qA ((v.ks.drop i0).drop (m- i0))=qA (v.ks.drop i0):=(by rw[←WG,List.take_append_drop]);omega
   refine⟨⟨by omega,by omega⟩,λhml=> ?_,λhmg=> ?_⟩
   ·have hmL:m<v.l.length:=(by omega);have hkd:=hkid m hmL n3 hq s4 s5;rw[hty]at hkd;have hw0:=GV.wt_at hmL;refine⟨λk13=> ?_,λk13=> ?_⟩
    ·have hkl:=q5 k13;have hmk:m<v.ks.length:=(by omega);have hy3:=λq (hq:v.ok q)=>WX (show qc qp v.y v.ks q by rw[GV.ok_eq]at hq;exact hq.2.1) hmk;have hk9:=hkz _ (List.getElem_mem hmk);have hkat:=zuq hmk;have hvz:=kX (v.ks[m].size:Int) (by omega) (by omega);have hkB:zG v.ks m=vz (v.ks[m].size:Int)++v.ks[m]:=(by unfold zG;rw[List.getElem?_eq_getElem hmk]);refine⟨⟨by omega,by omega⟩,(hy3 p hvo).1,v.ks[m],λq hq=>(hy3 q hq.1.2).2,(v.ks[m].size:Int),rfl,⟨by omega,by omega⟩,by show cc.size+(vz (v.ks[m].size:Int)).size<=_;omega,⟨by omega,by omega⟩,(hy3 p hvo).1,v.ks[m],λq hq=>(hy3 q hq.1.2).2,by show(cc++vz (v.ks[m].size:Int)).size+v.ks[m].size<=_;rw[qM];omega,v.ks[m],λq hq=>(hy3 q hq.1.2).2,rfl,?xa,?xb⟩;case xa|xb=>
      refine⟨⟨by omega,by omega⟩,(GV.cells_at hvo hmL).1,v.l[m].n,v.l[m].s,v.l[m].x.1,v.l[m].x.2.1,v.l[m].x.2.2,v.l[m].y.1,v.l[m].y.2.1,v.l[m].y.2.2,v.l[m].b,λq hq=>(GV.cells_at hq.1.2 hmL).2,⟨S,x,S[i].it,v.l[m],y,L,n3⟩,rfl,xs,rfl,rfl,rfl,rfl,rfl,rfl,rfl,rfl,rfl,rfl,rfl,rfl,rfl,rfl,rfl,hkd,hmem m hmL,?_⟩;rintro⟨r,n'⟩ ⟨p1,p2,p3,p4⟩;have p1:PV.bl S S[i].it v.l[m].pv r:=p1;have p2:r.size+20<=400*v.l[m].pv.wt:=p2;have p3:n3<=n':=p3;have hnx:=zc7 hN (by omega) hmL hks hkz p3 p4 p1 p2;have hcat:cc++(zG v.ks m++r)=cc++vz (v.ks[m].size:Int)++v.ks[m]++r:=(by rw[hkB,←ByteArray.append_assoc,←ByteArray.append_assoc]);rw[hcat]at hnx;refine⟨by show(cc++vz (v.ks[m].size:Int)++v.ks[m]).size+r.size<=_;rw[qM,qM];omega,⟨by omega,by omega⟩,⟨m+1,n',cc++vz (v.ks[m].size:Int)++v.ks[m]++r⟩,by show((m+1:Nat):Int)=_;omega,rfl,rfl,rfl,rfl,rfl,hnx,?_⟩;show((i0:Int)+((w+1:Nat):Int)- ((m+1:Nat):Int)).toNat<((i0:Int)+((w+1:Nat):Int)- ((m:Nat):Int)).toNat;omega
    ·have hke:=q1 k13;have hkB:zG v.ks m=mkS []:=(by rw[hke,Jv]);refine⟨?xa,?xb⟩;case xa|xb=>
      refine⟨⟨by omega,by omega⟩,(GV.cells_at hvo hmL).1,v.l[m].n,v.l[m].s,v.l[m].x.1,v.l[m].x.2.1,v.l[m].x.2.2,v.l[m].y.1,v.l[m].y.2.1,v.l[m].y.2.2,v.l[m].b,λq hq=>(GV.cells_at hq.1.2 hmL).2,⟨S,x,S[i].it,v.l[m],y,L,n3⟩,rfl,xs,rfl,rfl,rfl,rfl,rfl,rfl,rfl,rfl,rfl,rfl,rfl,rfl,rfl,rfl,rfl,hkd,hmem m hmL,?_⟩;rintro⟨r,n'⟩ ⟨p1,p2,p3,p4⟩;have p1:PV.bl S S[i].it v.l[m].pv r:=p1;have p2:r.size+20<=400*v.l[m].pv.wt:=p2;have p3:n3<=n':=p3;have hnx:=zc7 hN (by omega) hmL hks hkz p3 p4 p1 p2;rw[hkB,uh]at hnx;refine⟨by show cc.size+r.size<=_;omega,⟨by omega,by omega⟩,⟨m+1,n',cc++r⟩,by show((m+1:Nat):Int)=_;omega,rfl,rfl,rfl,rfl,rfl,hnx,?_⟩;show((i0:Int)+((w+1:Nat):Int)- ((m+1:Nat):Int)).toNat<((i0:Int)+((w+1:Nat):Int)- ((m:Nat):Int)).toNat;omega
   ·have hme:m=i0+(w+1):=(by omega);subst hme;obtain⟨u5,u6,_⟩:=v_ s5;have hz1:=kX ((w+1:Nat):Int) (by omega) (by omega);have hz2:=kX (-((w+1:Nat):Int)) (by omega) (by omega);have hz3:=kX (cc.size:Int) (by omega) (by omega);refine⟨L,⟨by omega,s5,by decide,by decide,hL⟩,λq hq=>hq.2,λh0=> ?_,λh0=> ?_⟩
    ·exact j60 hO hN (by omega) (by omega) hl1000 (by omega) u6 (by omega) (by omega)
    ·have hnx:=zc8 (n':=qh L n3) (hd:=vz ((w+1:Nat):Int)) hO hN (by omega) (by omega) u6 (.inl rfl) (by omega);refine⟨((w+1:Nat):Int),rfl,⟨by omega,by omega⟩,by show out.size+(vz ((w+1:Nat):Int)).size<=_;omega,by show(out++vz ((w+1:Nat):Int)).size+cc.size<=_;rw[qM];omega,⟨by omega,by omega⟩,⟨i0+(w+1),qh L n3,out++vz ((w+1:Nat):Int)++cc⟩,by show((i0+(w+1):Nat):Int)=_;omega,rfl,rfl,hnx,by show v.l.length- (i0+(w+1))<v.l.length- i0;omega⟩
  ·have hj:i0=v.l.length:=(by omega);have ht:(GV.pvs v.l).take i0=GV.pvs v.l:=List.take_of_length_le (by rw[GV.pvs_len];omega);have hkt:qA (v.ks.take i0)<=qA v.ks:=(by omega);rw[ht]at r4 r6;have hz0:=kX 0 (by decide) (by decide);refine⟨0,rfl,⟨by decide,by decide⟩,by show out.size+(vz 0).size<=_;omega,⟨out++vz 0,n1⟩,rfl,rfl,?_,by show(out++vz 0).size+20<=_;rw[qM];omega,r2,r3⟩;show PV.bl S i v.pv (out++vz 0);rw[hpe];exact j62 hs kq r4 (znc r5)
 ·have hnq:qq S[i].k=false:=by unfold QB at kq;have kq:=of_decide_eq_false kq;unfold qq;exact decide_eq_false (by omega)
  have hsz5:=zyo hs hnq hsh;have hE:kL S ((i:Nat):Int) v.pv=(0,PV.fb S i v.pv):=by rw[zhm (by omega) hfit,if_pos hsz5]
  refine⟨⟨S,x,(i:Nat),v⟩,rfl,xs,rfl,rfl,rfl,rfl,rfl,xl,rfl,rfl,yl,rfl,rfl,⟨hok.1,hok.2.1,hsn.sz,hwt⟩,λq hq=>hq.1,?_⟩;rintro a n8 c ⟨p8,hp8⟩;have e8:n8=(kL S ((i:Nat):Int) v.pv).2.size:=hp8.2.1;rw[hE]at e8;refine⟨PV.fb S i v.pv,e8.symm,λq hq=> ?_,⟨PV.fb S i v.pv,n⟩,rfl,rfl,zwc hs hnq,?_,Int.le_refl _,hn1⟩
  ·have h2:=hq.2.2.2;have h2:qgs q a (q18 (kL S ((i:Nat):Int) v.pv).2):=h2;rw[hE]at h2;exact h2
  ·have:=zvq v.pv;show(PV.fb S i v.pv).size+20<=_;omega
def zua(he:q4p P 26 z31):∀k,q1q P 11 (ZG.below ZC k)
 |0=>CtR.below_zero (by decide) (by decide) (Sen.enters_of Tryz.func11 (by kernel_rfl)) λs=>rfl
 |k+1=>jft k he (zua he k)
def j5z(he:q4p P 26 z31):q1q P 11 ZG:=CtR.of_below (zua he)
end
section
variable (m:Int) (g:SV) (e:IV) (p q:Int) (c:AT) (h:List AT) (A:Nat) (d:Nat×Int×Int×List GV×List IV) (i:Nat×Nat×Int×Int×List GV×List IV) (j:yU) (v:Kg) (w:Prop) (o:zj) (z:Nat->Option Obj)
 abbrev Zq:=g.1=g.1/\g.2.1=g.2.1/\g.2.2=g.2.2/\e=e/\w
 def YP:=AT.k c=AT.k c/\AT.nm c=AT.nm c/\(AT.al c).1=(AT.al c).1/\(AT.al c).2.1=(AT.al c).2.1/\(AT.al c).2.2=(AT.al c).2.2/\AT.it c=AT.it c/\(AT.sy c).1=(AT.sy c).1/\(AT.sy c).2.1=(AT.sy c).2.1/\(AT.sy c).2.2=(AT.sy c).2.2/\AT.hd c=AT.hd c/\AT.df c=AT.df c/\AT.sz c=AT.sz c/\(AT.f c).1=(AT.f c).1/\(AT.f c).2.1=(AT.f c).2.1/\(AT.f c).2.2=(AT.f c).2.2/\(AT.br c).1=(AT.br c).1/\(AT.br c).2.1=(AT.br c).2.1/\(AT.br c).2.2=(AT.br c).2.2/\w
 def uy:=(True/\qd h g z/\AT.ok c z)/\GV.oks d.2.2.2.1 z
 abbrev z55:=(qN e (toNat d.2.1)).2
 def L0:=GV.n o.1=0/\GV.s o.1=mkS []/\(GV.x o.1).1=noA/\(GV.x o.1).2.1=0/\(GV.x o.1).2.2=0/\(GV.y o.1).1=noA/\(GV.y o.1).2.1=0/\(GV.y o.1).2.2=0/\GV.b o.1=0/\w
 abbrev V':=(↑(z55 e d).2.2:Int)
 def UC:=(j5 (uP (qX h e m) e c (toNat p) (toNat q)) (GV.pv o.1) o.2.2.1 o.2.2.2 o.2.1/\Kr e p q o)
 def Bb:=(z55 e d).1=(z55 e d).1/\(qN e (toNat d.2.1)).1=(qN e (toNat d.2.1)).1/\w
 abbrev T_:=ED h c e m p q i.1 (V' e d) d.2.2.1 (z55 e d).1 (qN e (toNat d.2.1)).1 i.2.1 i.2.2.1 i.2.2.2.1 i.2.2.2.2.1 i.2.2.2.2.2
 def xB:=(uy g c h d z)/\GV.oks i.2.2.2.2.1 z
 def Ba:=g.1=v.1.2.1.1.1/\g.2.1=v.1.2.1.1.2.1/\g.2.2=v.1.2.1.1.2.2/\e=v.1.2.1.2.1/\w
 def mU:=Jb ((↑i.2.1:Int)+1)/\∃(a:Nat×Nat×Int×Int×List GV×List IV),(↑a.2.1:Int)=(↑i.2.1:Int)+1/\m=m/\Bb e d (Ba g e v (a.2.2.1=j.2.2.2.1/\a.2.2.2.1=j.2.2.2.2/\length a.2.2.2.2.1=length j.1/\length a.2.2.2.2.2=length j.2.1/\YP c (qy a.2.2.2.2.2 (0:Nat)=qy j.2.1 0/\length a.2.2.2.2.2=length j.2.1/\qa GV.cells a.2.2.2.2.1=qa GV.cells j.1/\qa qD a.2.2.2.2.2=qa qD j.2.1/\(∀l,(xB g c h d i l)/\GV.oks j.1 l->uy g c h d l)/\(∀t,(xB g c h d i t)/\GV.oks j.1 t->GV.oks a.2.2.2.2.1 t)/\T_ m e p q c h d a/\toNat (qN e (toNat d.2.1)).1- a.2.1<toNat (qN e (toNat d.2.1)).1- i.2.1/\True)))
 def mS:=((!decide (j.2.2.1=0))=true->∃(a:zj),L0 (a.2.1=j.2.2.1/\Ba g e v (a.2.2.1=j.2.2.2.1/\a.2.2.2=j.2.2.2.2/\UC m e p q c h a/\(∀l,(xB g c h d i l)/\GV.oks j.1 l->GV.ok a.1 l)/\True)) a)/\((!decide (j.2.2.1=0))=false->mU m g e p q c h d i j v)
 def T9:=∃(a:Nat×Int×Int×List GV×List IV),m=m/\Zq g e (a.2.1=i.2.2.1/\a.2.2.1=i.2.2.2.1/\length a.2.2.2.1=length i.2.2.2.2.1/\length a.2.2.2.2=length i.2.2.2.2.2/\YP c (qy a.2.2.2.2 (0:Nat)=qy i.2.2.2.2.2 0/\length a.2.2.2.2=length i.2.2.2.2.2/\qa GV.cells a.2.2.2.1=qa GV.cells i.2.2.2.2.1/\qa qD a.2.2.2.2=qa qD i.2.2.2.2.2/\(∀l,xB g c h d i l->True/\qd h g l/\AT.ok c l)/\(∀t,xB g c h d i t->GV.oks a.2.2.2.1 t)/\YS h c e m p q a.1 a.2.1 a.2.2.1 a.2.2.2.1 a.2.2.2.2/\toNat ((↑(size e):Int)+1- a.2.1)<toNat ((↑(size e):Int)+1- d.2.1)/\True))
 def mT:=((!decide (i.2.2.1=(z55 e d).1))=true->∃(a:zj),L0 (a.2.1=2/\Zq g e (a.2.2.1=i.2.2.1/\a.2.2.2=i.2.2.2.1/\UC m e p q c h a/\(∀l,xB g c h d i l->GV.ok a.1 l)/\True)) a)/\((!decide (i.2.2.1=(z55 e d).1))=false->T9 m g e p q c h d i)
 def mR:=Ji (0<=(z55 e d).1) (mT m g e p q c h d i) (T9 m g e p q c h d i)
 def mQ:=Ji ((↑i.2.1:Int)<(qN e (toNat d.2.1)).1) (∃(a:Kg),AT.k a.1.2.2.1=AT.k c/\AT.nm a.1.2.2.1=AT.nm c/\(AT.al a.1.2.2.1).1=(AT.al c).1/\(AT.al a.1.2.2.1).2.1=(AT.al c).2.1/\(AT.al a.1.2.2.1).2.2=(AT.al c).2.2/\AT.it a.1.2.2.1=AT.it c/\(AT.sy a.1.2.2.1).1=(AT.sy c).1/\(AT.sy a.1.2.2.1).2.1=(AT.sy c).2.1/\(AT.sy a.1.2.2.1).2.2=(AT.sy c).2.2/\AT.hd a.1.2.2.1=AT.hd c/\AT.df a.1.2.2.1=AT.df c/\AT.sz a.1.2.2.1=AT.sz c/\(AT.f a.1.2.2.1).1=(AT.f c).1/\(AT.f a.1.2.2.1).2.1=(AT.f c).2.1/\(AT.f a.1.2.2.1).2.2=(AT.f c).2.2/\(AT.br a.1.2.2.1).1=(AT.br c).1/\(AT.br a.1.2.2.1).2.1=(AT.br c).2.1/\(AT.br a.1.2.2.1).2.2=(AT.br c).2.2/\a.1.2.2.2=m/\a.1.2.1.1.1=g.1/\a.1.2.1.1.2.1=g.2.1/\a.1.2.1.1.2.2=g.2.2/\a.1.2.1.2.1=e/\a.1.2.1.2.2.1=i.2.2.1/\a.1.2.1.2.2.2=i.2.2.2.1/\qa GV.cells a.2.1=qa GV.cells i.2.2.2.2.1/\qy a.2.2 (0:Nat)=qy i.2.2.2.2.2 0/\length a.2.2=length i.2.2.2.2.2/\qa qD a.2.2=qa qD i.2.2.2.2.2/\length a.2.1=length i.2.2.2.2.1/\length a.2.2=length i.2.2.2.2.2/\(KM a<A+1/\Il a)/\(∀l,xB g c h d i l->(qd a.1.1 a.1.2.1.1 l/\AT.ok a.1.2.2.1 l)/\GV.oks a.2.1 l)/\∀(t:yU),VC a t->(∃r,(xB g c h d i r)/\GV.oks t.1 r)->mS m g e p q c h d i t a) (mR m g e p q c h d i)
 def mP:=(∃(a:Nat×Nat×Int×Int×List GV×List IV),(↑a.2.1:Int)=0/\m=m/\Bb e d (Zq g e (a.2.2.1=(V' e d)/\a.2.2.2.1=d.2.2.1/\length a.2.2.2.2.1=length d.2.2.2.1/\length a.2.2.2.2.2=length d.2.2.2.2/\YP c (qy a.2.2.2.2.2 (0:Nat)=qy d.2.2.2.2 0/\length a.2.2.2.2.2=length d.2.2.2.2/\qa GV.cells a.2.2.2.2.1=qa GV.cells d.2.2.2.1/\qa qD a.2.2.2.2.2=qa qD d.2.2.2.2/\(∀l,uy g c h d l->uy g c h d l)/\(∀t,uy g c h d t->GV.oks a.2.2.2.2.1 t)/\T_ m e p q c h d a/\True))))/\∀(r:Nat×Nat×Int×Int×List GV×List IV),ED h c e m p q r.1 (V' e d) d.2.2.1 (z55 e d).1 (qN e (toNat d.2.1)).1 r.2.1 r.2.2.1 r.2.2.2.1 r.2.2.2.2.1 r.2.2.2.2.2->(∃u,xB g c h d r u)->mQ m g e p q c h A d r
 def mO:=Ji ((qN e (toNat d.2.1)).1=0) (∃(a:List GV×List IV),qa GV.cells a.1=qa GV.cells d.2.2.2.1/\qy a.2 (0:Nat)=qy d.2.2.2.2 0/\length a.2=length d.2.2.2.2/\qa qD a.2=qa qD d.2.2.2.2/\length a.1=length d.2.2.2.1/\length a.2=length d.2.2.2.2/\(length a.1<=2001/\length a.2<=2001/\∃(l:Bool),∃(t:jG),zC l a.2 (GV.pvs a.1) t)/\(∀r,uy g c h d r->GV.oks a.1 r)/\∀(u:GV),(∀(E:Bool) (B:jG),zC E a.2 (GV.pvs a.1) B->GV.pv u=PV.mk 0 (mkS []) B.2 B.1 0)->(∃D,(uy g c h d D)/\GV.ok u D)->∃(i8:zj),GV.n i8.1=GV.n u/\GV.s i8.1=GV.s u/\(GV.x i8.1).1=(GV.x u).1/\(GV.x i8.1).2.1=(GV.x u).2.1/\(GV.x i8.1).2.2=(GV.x u).2.2/\(GV.y i8.1).1=(GV.y u).1/\(GV.y i8.1).2.1=(GV.y u).2.1/\(GV.y i8.1).2.2=(GV.y u).2.2/\GV.b i8.1=GV.b u/\i8.2.1=0/\Zq g e (i8.2.2.1=(V' e d)/\i8.2.2.2=d.2.2.1/\UC m e p q c h i8/\(∀C,(uy g c h d C)/\GV.ok u C->GV.ok i8.1 C)/\True)) (mP m g e p q c h A d)
 def mN:=Zq g e (d.2.1=d.2.1/\d.2.2.1=d.2.2.1/\qW ((g.1,g.2.1,g.2.2),e,d.2.1,d.2.2.1)/\((!decide ((z55 e d).2.1=0))=true->∃(a:zj),L0 (a.2.1=(z55 e d).2.1/\Zq g e (a.2.2.1=(V' e d)/\a.2.2.2=d.2.2.1/\UC m e p q c h a/\(∀l,uy g c h d l->GV.ok a.1 l)/\True)) a)/\((!decide ((z55 e d).2.1=0))=false->mO m g e p q c h A d))
 def mM:=(∃(a:Nat×Int×Int×List GV×List IV),m=m/\Zq g e (a.2.1=p/\a.2.2.1=q/\length a.2.2.2.1=0/\length a.2.2.2.2=0/\YP c (qy a.2.2.2.2 (0:Nat)=[]/\length a.2.2.2.2=nat_lit 0/\(∀l,True/\qd h g l/\AT.ok c l->True/\qd h g l/\AT.ok c l)/\(∀t,True/\qd h g t/\AT.ok c t->GV.oks a.2.2.2.1 t)/\YS h c e m p q a.1 a.2.1 a.2.2.1 a.2.2.2.1 a.2.2.2.2/\True)))/\∀(r:Nat×Int×Int×List GV×List IV),YS h c e m p q r.1 r.2.1 r.2.2.1 r.2.2.2.1 r.2.2.2.2->(∃u,uy g c h r u)->mN m g e p q c h A r
end
def zns(n:Nat) (S:List AT) (x:SV) (s:IV) (i c:Int) (a:AT) (dp:Int):qk4 P (qfa [(81,Ig)]) (qgc [(83,Hb.below KM (n+1)),(82,Ys)]) Tryz.f43 ((wM ZX uP).below vB (n+1)) (Ox) ⟨S,⟨x,s,i,c⟩,a,dp⟩=(vB (S,(x,s,i,c),a,dp)<n+1/\jI S/\a∈S/\ZX a/\qW (x,s,i,c)/\(0<=c/\c<=2000)/\1<=dp/\dp<=20->(∃(p:Pub),True/\qd S x p/\AT.ok a p)->mM dp x s i c a S n):=by kernel_rfl
def zwd:=λn S x s i c a dp=>Eq.trans (zns n S x s i c a dp) (by delta Ji Jb Jt Jf Zq YP uy z55 L0 V' UC Bb T_ xB Ba mU mS T9 mT mR mQ mP mO mN mM;exact rfl)
section
def Xa(g:Nat->Nat->zy) (D:IV) (mp:Bool) (F n1:Nat) (sz:Int) (r:jG×Nat×Nat):Yn:=if xN n1 sz r.2.1=true then .no 1 else vV g D mp F r.1 r.2.1 r.2.2
variable {g:Nat->Nat->zy} {D:IV} {mp:Bool} {st:jG}
def jfs{F n c:Nat} {R0:Yn} (hn:n<=D.size) (hF:D.size<F+n) (h:vV g D mp F st n c=R0):
  ((qb D n).2.1≠0->R0= .no ((qb D n).2.1- 1))/\((qb D n).2.1=0->(qb D n).1=0->R0= .ok (st,(qb D n).2.2,c))/\
  ((qb D n).2.1=0->0<(qb D n).1->∃F',D.size<F'+(qb D n).2.2/\(vS g D mp (qb D n).1.toNat st (qb D n).2.2 c).bind (Xa g D mp F' (qb D n).2.2 (-1))=R0)/\
  ((qb D n).2.1=0->(qb D n).1= -9223372036854775808->R0= .no 1)/\
  ((qb D n).2.1=0->(qb D n).1<0->(qb D n).1≠ -9223372036854775808->((qb D (qb D n).2.2).2.1≠0->R0= .no ((qb D (qb D n).2.2).2.1- 1))/\((qb D (qb D n).2.2).2.1=0->(qb D (qb D n).2.2).1<0->R0= .no 1)/\
   ((qb D (qb D n).2.2).2.1=0->0<=(qb D (qb D n).2.2).1->∃F',D.size<F'+(qb D (qb D n).2.2).2.2/\(vS g D mp (-(qb D n).1).toNat st (qb D (qb D n).2.2).2.2 c).bind (Xa g D mp F' (qb D (qb D n).2.2).2.2 (qb D (qb D n).2.2).1)=R0)):=by
 have f1:=xm D n hn;have f2:=xm D (qb D n).2.2 f1.2.2.2.2.1;obtain⟨F',rfl⟩:∃F',F=F'+1:=⟨F- 1,by omega⟩;rw[vV]at h;unfold YA ym at h;generalize qb D n=T at*;obtain⟨v,e,n1⟩:=T;simp only at f1 f2 h⊢;refine⟨λhe=> ?_,λhe hv=> ?_,λhe hv=> ?_,λhe hv=> ?_,λhe hv hv2=>⟨λhe2=> ?_,λhe2 hz=> ?_,λhe2 hz=> ?_⟩⟩
 ·rw[if_neg he,kG,kG]at h;exact h.symm
 ·rw[if_pos he,qT]at h;simp only at h;rw[if_pos (show 0<=v by omega),qT]at h;simp only at h;rw[if_pos hv]at h;exact h.symm
 ·rw[if_pos he,qT]at h;simp only at h;rw[if_pos (show 0<=v by omega),qT]at h;simp only at h;rw[if_neg (show¬v=0 by omega)]at h;exact⟨F',by omega,h⟩
 ·rw[if_pos he,qT]at h;simp only at h;rw[if_neg (show¬0<=v by omega),if_pos hv,kG]at h;exact h.symm
 ·rw[if_pos he,qT]at h;simp only at h;rw[if_neg (show¬0<=v by omega),if_neg hv2,if_neg he2,kG,kG]at h;exact h.symm
 ·rw[if_pos he,qT]at h;simp only at h;rw[if_neg (show¬0<=v by omega),if_neg hv2,if_pos he2,qT]at h;simp only at h;rw[if_pos hz,kG]at h;exact h.symm
 ·rw[if_pos he,qT]at h;simp only at h;rw[if_neg (show¬0<=v by omega),if_neg hv2,if_pos he2,qT]at h;simp only at h;rw[if_neg (show¬(qb D n1).1<0 by omega),qT]at h;simp only at h;rw[if_neg (show¬ -v=0 by omega)]at h;exact⟨F',by omega,h⟩
def j6o{α:Type} {k n c:Nat} {K:jG×Nat×Nat->Rs α} (h:0<k):(vS g D mp k st n c).bind K=(yk g D mp st n c).bind λr=>(vS g D mp (k- 1) r.1 r.2.1 r.2.2).bind K:=by obtain⟨j,rfl⟩:∃j,k=j+1:=⟨k- 1,by omega⟩;rw[vS,jge];rfl
end
def jg1{S:List AT} {a:AT} {dp:Int} {s:IV} {mp:Bool} {F n c:Nat} {st:jG} {R0:Yn} (hm:decide (a.k=13)=mp) (hz:s.size<100000000000000000) (hn:n<=s.size) (hF:s.size<F+n) (h:vV (qX S s dp a.it) s mp F st n c=R0):
  ((qN s n).2.2.1≠0->∃k:Nat,(qN s n).2.2.1=k+1/\R0= .no k)/\((qN s n).2.2.1=0->(qN s n).1=0->R0= .ok (st,(qN s n).2.2.2,c))/\
  ((qN s n).2.2.1=0->(qN s n).1≠0->1<=(qN s n).1/\∃F' sz,s.size<F'+(qN s n).2.2.2/\I5 ((qN s n).2.2.2:Nat) sz (qN s n).2.1/\(vS (qX S s dp a.it) s mp (qN s n).1.toNat st (qN s n).2.2.2 c).bind (Jh S a dp s F' ((qN s n).2.2.2:Nat) sz)=R0)/\
  (n<=(qN s n).2.2.2/\(qN s n).2.2.2<=s.size)/\((qN s n).2.2.1=0->n<(qN s n).2.2.2)/\(qN s n).1<9223372036854775808:=by
 have hh:=jfs hn hF h;have f1:=xm s n hn;have f2:=xm s (qb s n).2.2 f1.2.2.2.2.1;have key:∀(F' n1:Nat) (sz:Int),(λr=>Xa (qX S s dp a.it) s mp F' n1 sz r)=Jh S a dp s F' ((n1:Nat):Int) sz:=λF' n1 sz=>by funext r;unfold Jh Xa;rw[hm,Int.toNat_natCast]
 obtain⟨a1,a2,a3,a4,a5⟩:=hh;clear h hF;unfold qN;by_cases h1:(qb s n).2.1≠0\/0<=(qb s n).1
 ·rw[if_pos h1];refine⟨λhe=>⟨(qb s n).2.1- 1,?_,a1 ?_⟩,λhe hv=>a2 (by have:(((qb s n).2.1:Nat):Int)=0:=he;omega) hv,λhe hv=> ?_,⟨f1.2.2.2.1,f1.2.2.2.2.1⟩,λhe=>f1.2.2.2.2.2 (by have:(((qb s n).2.1:Nat):Int)=0:=he;omega),f1.2.1⟩
  ·have he:(((qb s n).2.1:Nat):Int)≠0:=he;show(((qb s n).2.1:Nat):Int)=(((qb s n).2.1- 1:Nat):Int)+1;omega
  ·have he:(((qb s n).2.1:Nat):Int)≠0:=he;omega
  ·have he:(qb s n).2.1=0:=by have:(((qb s n).2.1:Nat):Int)=0:=he;omega
   have hv:(qb s n).1≠0:=hv;have h0:0<(qb s n).1:=(by omega);obtain⟨F',b1,b2⟩:=a3 he h0;refine⟨by show 1<=(qb s n).1;omega,F', -1,b1, .inl ⟨rfl,rfl⟩,?_⟩;rw[←key];exact b2
 rw[if_neg h1];have he:(qb s n).2.1=0:=by omega
 have hneg:(qb s n).1<0:=by omega
 by_cases h2:(qb s n).1= -9223372036854775808
 ·rw[if_pos h2];exact⟨λ_=>⟨1,rfl,a4 he h2⟩,λg=>absurd (show(2:Int)=0 from g) (by decide),λg=>absurd (show(2:Int)=0 from g) (by decide),⟨f1.2.2.2.1,f1.2.2.2.2.1⟩,λg=>absurd (show(2:Int)=0 from g) (by decide),by show(0:Int)<_;decide⟩
 rw[if_neg h2];obtain⟨b1,b2,b3⟩:=a5 he hneg h2;by_cases h3:(qb s (qb s n).2.2).2.1≠0
 ·rw[if_pos h3];refine⟨λ_=>⟨(qb s (qb s n).2.2).2.1- 1,?_,b1 h3⟩,λg=> ?_,λg=> ?_,⟨by show n<=(qb s (qb s n).2.2).2.2;omega,f2.2.2.2.2.1⟩,λg=> ?_,by show(0:Int)<_;decide⟩
  ·show(((qb s (qb s n).2.2).2.1:Nat):Int)=(((qb s (qb s n).2.2).2.1- 1:Nat):Int)+1;omega
  all_goals
   have g:(((qb s (qb s n).2.2).2.1:Nat):Int)=0:=g;omega
 rw[if_neg h3];have h3:(qb s (qb s n).2.2).2.1=0:=by omega
 by_cases h4:(qb s (qb s n).2.2).1<0
 ·rw[if_pos h4];exact⟨λ_=>⟨1,rfl,b2 h3 h4⟩,λg=>absurd (show(2:Int)=0 from g) (by decide),λg=>absurd (show(2:Int)=0 from g) (by decide),⟨by show n<=(qb s (qb s n).2.2).2.2;omega,f2.2.2.2.2.1⟩,λg=>absurd (show(2:Int)=0 from g) (by decide),by show(0:Int)<_;decide⟩
 rw[if_neg h4];obtain⟨F',c1,c2⟩:=b3 h3 (by omega);refine⟨λg=>absurd rfl g,λ_ g=> ?_,λ_ _=>⟨by show 1<= -(qb s n).1;omega,F',(qb s (qb s n).2.2).1,c1, .inr ⟨by omega,rfl⟩,?_⟩,⟨by show n<=(qb s (qb s n).2.2).2.2;omega,f2.2.2.2.2.1⟩,λ_=> ?_,by show -(qb s n).1<_;omega⟩
 ·have g: -(qb s n).1=0:=g;omega
 ·rw[←key];exact c2
 ·have:=f1.2.2.2.2.2 he;show n<(qb s (qb s n).2.2).2.2;omega
def zwe(n:Nat) (hi0:q1q P 83 (Hb.below KM (n+1))) (hv0:q1q P 82 Ys):q1q P 43 ((wM ZX uP).below vB (n+1)):=by
  refine zt (qcn (qgp zx3 qjr)) (qde (qgo hi0 (qgo hv0 qjq))) (W:=Ox) Tryz.func43 λ⟨S,⟨(x:SV),s,(i:Int),(c:Int)⟩,a,(dp:Int)⟩=>(zwd n S x s i c a dp).mpr ?_;rintro⟨hmu,hok,haS,hk,h,⟨hc0,hc1⟩,hp1,hp2⟩ ⟨p,_,hx,ha⟩;have hmu:(25- dp).toNat<n+1:=hmu;have hi:=h.1;have hi2:=h.2.1;have hsz:=h.2.2;simp only[qH,exists_const,forall_const,Int.toNat_natCast];have abs0:zC (decide (a.k=13)) [] (GV.pvs []) ([],[]):=by
    unfold zC;rw[GV.pvs];split
    · exact⟨List.nodup_nil,rfl,rfl,List.Pairwise.nil, .refl _⟩
    · exact⟨rfl,rfl⟩
  refine⟨⟨⟨s.size+1- i.toNat,i,c,[],[]⟩,rfl,rfl,rfl,rfl,rfl,rfl,λq _=>GV.oks_iff.2 λw hw=>(by cases hw),⟨Int.le_refl _,hi2⟩,⟨Int.le_refl _,hc1⟩,⟨by show((0:Nat):Int)<=c;omega,by show((0:Nat):Int)<=c;omega⟩,(by show(s.size:Int)<((s.size+1- i.toNat:Nat):Int)+i;omega),([],[]),abs0,rfl⟩,?_⟩;rintro⟨F,i1,c1,fs,ks⟩ ⟨⟨r1,r2⟩,⟨r3,r4⟩,⟨r5,r6⟩,r7,st,r8,r9⟩ ⟨p1,hp1',hfs⟩;simp only at r1 r2 r3 r4 r5 r6 r7 r8 r9 hfs⊢;have hd1:qW ((x.1,x.2.1,x.2.2),s,i1,c1):=⟨by omega,r2,hsz⟩;obtain⟨h1,h2,h3,⟨h4,h5⟩,h6,h7⟩:=jg1 rfl hsz (show i1.toNat<=s.size by omega) (show s.size<F+i1.toNat by omega) r9;have rw0:Jj S a dp s i c=vV (qX S s dp a.it) s (decide (a.k=13)) (s.size+1- i.toNat) ([],[]) i.toNat c.toNat:=rfl;have no:∀(e' i' c':Int) (v:PV),(∃k:Nat,e'=k+1/\Jj S a dp s i c= .no k)->j5 (uP (qX S s dp) s a i.toNat c.toNat) v i' c' e':=λe' i' c' v ⟨k,q1,q2⟩=>by show j5 ((Jj S a dp s i c).bind _) _ _ _ _;rw[q2,kG];exact q1
  generalize qN s i1.toNat=H at*;obtain⟨cn,en,er,pos⟩:=H;simp only at h1 h2 h3 h4 h5 h6 h7⊢;have hpos:i1<=pos:=by omega
  refine⟨hd1,λhe=>⟨⟨zV,er,(pos:Int),c1⟩,rfl,rfl,rfl,rfl,rfl,rfl,rfl,rfl,rfl,rfl,rfl,rfl,⟨no _ _ _ _ (h1 he),⟨by show i<=(pos:Int);omega,by show(pos:Int)<=s.size;omega⟩,⟨r3,by show c1<=2001;omega⟩,λg=>absurd g he⟩,λq _=>jD q⟩,λhe=>⟨λhc=> ?_,λhc=> ?_⟩⟩
  · have hR:=h2 he hc;refine⟨⟨fs,ks⟩,rfl,rfl,rfl,rfl,rfl,rfl,⟨by show fs.length<=2001;omega,by show ks.length<=2001;omega,_,st,r8⟩,λq hq=>hq.2,?_⟩;intro b hb _;have hb:=hb _ _ r8;refine⟨⟨b,0,(pos:Int),c1⟩,rfl,rfl,rfl,rfl,rfl,rfl,rfl,rfl,rfl,rfl,rfl,rfl,⟨?_,⟨by show i<=(pos:Int);omega,by show(pos:Int)<=s.size;omega⟩,⟨r3,by show c1<=2001;omega⟩,λ_=>r4⟩,λq hq=>hq.2⟩;show j5 ((Jj S a dp s i c).bind _) _ _ _ _;rw[hR,qT];exact⟨rfl,hb,rfl,by show c1=((c1.toNat:Nat):Int);omega⟩
  obtain⟨hc1',F',sz,g1,g2,g3⟩:=h3 he hc;have hlt:=h6 he;clear h1 h2 h3 h6;refine⟨⟨⟨F',0,(pos:Int),c1,fs,ks⟩,rfl,rfl,rfl,rfl,rfl,rfl,rfl,rfl,rfl,λq hq=>hq.2,⟨by show((0:Nat):Int)<=cn;omega,⟨by show i<=(pos:Int);omega,⟨by show(0:Int)<=(pos:Int);omega,Int.le_refl _⟩,by show(pos:Int)<=s.size;omega⟩,⟨r3,r4⟩,⟨r5,r6⟩,by show(s.size:Int)<F'+(pos:Int);omega,sz,st,g2,r8,?_⟩⟩,?_⟩
  · show(vS _ _ _ (cn- ((0:Nat):Int)).toNat st ((pos:Int).toNat) c1.toNat).bind _=_;rw[show cn- ((0:Nat):Int)=cn by omega,Int.toNat_natCast];exact g3
  rintro⟨F2,j,i2,c2,gs,ls⟩ ⟨t1,⟨t2,⟨t3,t4⟩,t5⟩,⟨t6,t7⟩,⟨t8,t9⟩,t10,z,st2,t11,t12,t13⟩ ⟨p2,hp2',hgs⟩;simp only at t1 t2 t3 t4 t5 t6 t7 t8 t9 t10 t11 t12 t13 hgs⊢;clear g1 g2 g3;have nxt:Jh S a dp s F2 pos z (st2,i2.toNat,c2.toNat)=Jj S a dp s i c->¬(0<=en/\i2≠en)->YS S a s dp i c F2 i2 c2 gs ls/\(s.size+1- i2).toNat<(s.size+1- i1).toNat:=λq1 q2=>by
    refine⟨⟨⟨t2,t5⟩,⟨t6,t7⟩,⟨t8,t9⟩,by omega,st2,t12,?_⟩,by omega⟩;unfold Jh at q1;rw[if_neg ?_]at q1
    · exact q1
    · unfold xN;rw[Bool.and_eq_true,decide_eq_true_eq,decide_eq_true_eq,Int.toNat_natCast,Int.toNat_of_nonneg (by omega)];rintro⟨q3,q4⟩;rcases t11 with⟨q5,_⟩|⟨_,q6⟩
      · omega
      · apply q2;split at q6<;>omega
  refine⟨λhlt2=> ?_,λhge=> ?_⟩
  · refine⟨⟨⟨S,⟨x,s,i2,c2⟩,a,dp⟩,gs,ls⟩,?_⟩;simp only[true_and,and_true,eq_self];refine⟨⟨hmu,hok,haS,hk,⟨by show 0<=i2;omega,t5,hsz⟩,⟨by show 0<=c2;omega,t7⟩,⟨hp1,hp2⟩,t8,t9,st2,t12⟩,λq hq=>⟨hq.1.1,hq.2⟩,?_⟩;rintro⟨fs',ks',e',i',c'⟩ ⟨w1,⟨w2,w3⟩,⟨w4,w5⟩,w6,w7,w8⟩ _;have w1:=w1 st2 t12;have w2:i2<=i':=w2;have w4:c2<=c':=w4;rw[j6o (by omega)]at t13;refine⟨λhne=>⟨⟨zV,e',i',c'⟩,rfl,rfl,rfl,rfl,rfl,rfl,rfl,rfl,rfl,rfl,rfl,rfl,⟨no _ _ _ _ ?_,⟨by show i<=i';omega,w3⟩,⟨by show c<=c';omega,w5⟩,λg=>absurd g hne⟩,λq _=>jD q⟩,λhe0=> ?_⟩
    · revert w1 t13;cases yk (qX S s dp a.it) s (decide (a.k=13)) st2 i2.toNat c2.toNat with
      |no k=>exactλq2 q1=>⟨k,q1,by rw[kG]at q2;exact q2.symm⟩
      |ok r=>exactλ_ q1=>absurd q1.1 hne
    · have he0:e'=0:=he0;obtain⟨w9,w10⟩:=w6 he0;have w9:c2+1<=c':=w9;refine⟨⟨by omega,by omega⟩,⟨F2,j+1,i',c',fs',ks'⟩,by show((j+1:Nat):Int)=_;omega,rfl,rfl,rfl,rfl,rfl,rfl,rfl,rfl,λq hq=>hq.1.1,λq hq=>hq.2,⟨by show((j+1:Nat):Int)<=cn;omega,⟨by show i<=i';omega,⟨t3,by show(pos:Int)<=i';omega⟩,w3⟩,⟨by show c<=c';omega,w10⟩,⟨w7,w8⟩,t10,?_⟩,by show cn.toNat- (j+1)<cn.toNat- j;omega⟩;revert w1 t13;cases yk (qX S s dp a.it) s (decide (a.k=13)) st2 i2.toNat c2.toNat with
      |no k=>intro _ q1;have q1:e'=k+1:=q1;omega
      | ok r=>
        rintro q5 ⟨_,q2,q3,q4⟩;rw[qT,show(cn- (j:Int)).toNat- 1=(cn- ((j+1:Nat):Int)).toNat by omega]at q5;refine⟨z,r.1,t11,q2,?_⟩;show(vS _ _ _ _ r.1 i'.toNat c'.toNat).bind _=_;rw[show i'.toNat=r.2.1 by omega,show c'.toNat=r.2.2 by omega];exact q5
  · rw [show(cn- (j:Int)).toNat=0 by omega,vS,qT]at t13;refine⟨λh0=>⟨λhne=>⟨⟨zV,2,i2,c2⟩,rfl,rfl,rfl,rfl,rfl,rfl,rfl,rfl,rfl,rfl,rfl,rfl,⟨no _ _ _ _ ⟨1,rfl,?_⟩,⟨t2,t5⟩,⟨t6,by show c2<=2001;omega⟩,λg=>absurd (show(2:Int)=0 from g) (by decide)⟩,λq _=>jD q⟩,λheq=> ?_⟩,λh0=> ?_⟩
    · unfold Jh at t13;rw[if_pos ?_]at t13
      · exact t13.symm
      · unfold xN;rw[Bool.and_eq_true,decide_eq_true_eq,decide_eq_true_eq,Int.toNat_natCast,Int.toNat_of_nonneg (by omega)];rcases t11 with⟨_,q5⟩|⟨q5,q6⟩
        · omega
        · refine⟨q5,?_⟩;split at q6<;>omega
    · obtain⟨q1,q2⟩:=nxt t13 (λg=>g.2 heq);exact⟨⟨F2,i2,c2,gs,ls⟩,rfl,rfl,rfl,rfl,rfl,rfl,rfl,rfl,λq hq=>hq.1.1,λq hq=>hq.2,q1,q2⟩
    · obtain⟨q1,q2⟩:=nxt t13 (λg=>h0 g.1);exact⟨⟨F2,i2,c2,gs,ls⟩,rfl,rfl,rfl,rfl,rfl,rfl,rfl,rfl,λq hq=>hq.1.1,λq hq=>hq.2,q1,q2⟩
def Zz(a b:IV):Int:=if qdg a b=true then -1 else if qdg b a=true then 1 else 0
set_option maxHeartbeats 1000000 in
def zi6(x:IV) (w:World):
  Calls Tryz.prog 129 #[.string x] w λe w'=>e= .returned (.bool false)/\w'=w:=by
 go_enter Tryz.func129,Tryz.ntmps129
 go_wp2
 go_ret
 exact⟨by simp,rfl⟩
set_option maxHeartbeats 1000000 in
def za8(x y:IV) (w:World):
  Calls Tryz.prog 114 #[.string x, .string y] w λe w'=>e= .returned (.int .i64 (Zz x y))/\w'=w:=by
 have e7:∀args w,(callFunc 129 args).run Tryz.prog w= .ok (.enter 129 args) w:=Sen.enters_of Tryz.func129 (by kernel_rfl)
 go_enter Tryz.func114,Tryz.ntmps114
 go_wp2_with (go_at_fn 129;refine(zi6 _ _).mono ?_;rintro e w' ⟨rfl,hw⟩;rw[hw])
 all_goals (go_ret)
 all_goals (refine⟨?_,rfl⟩;show Ending.returned (Value.int .i64 _)=Ending.returned (Value.int .i64 _);unfold Zz qdg;have fl:=Ns y.toList x.toList;simp_all<;>first|done|exact fl.resolve_right (λe=>absurd e.symm (by assumption)))
def j6f(args:Array Value) (w:World):(callFunc 114 args).run Tryz.prog w= .ok (.enter 114 args) w:=Sen.enters_of Tryz.func114 (by kernel_rfl) args w
def Zd(a b:IV):Go.Proofs.ltOf Zz a b=qdg a b:=by
 unfold Go.Proofs.ltOf Zz;by_cases h:qdg a b=true
 ·simp[h]
 ·by_cases g:qdg b a=true
  ·simp[h,g]
  ·simp[h,g]
def zyj{a b c:IV} (h1:qdg a b=false) (h2:qdg b c=false):qdg a c=false:=by
 rcases(uk b a).2 h1 with h1|rfl
 ·rcases(uk c b).2 h2 with h2|rfl
  ·exact(uk c a).1 (.inl (Nl h2 h1))
  ·exact(uk _ _).1 (.inl h1)
 ·exact h2
def zwm:Go.Sort.SWO (Go.Proofs.ltOf Zz):=by
 refine⟨λx=> ?_,λx y z=> ?_,λx y z=> ?_⟩
 ·rw[Zd];exact Ib x
 ·rw[Zd,Zd,Zd];exact Nl
 ·rw[Zd,Zd,Zd];exact zyj
def zuz(o:AO):∃h,q0p [(1,o)] .e=some h/\h.get 1=some o/\∀i,i≠1->h.get i=none:=by refine⟨_,rfl,rfl,λi hi=> ?_⟩;have e:T.put 64 1 (some o) T.e=some (T.n (T.n T.e (some o) T.e) none T.e):=rfl;have:=T.get_put _ _ _ _ _ e i;rw[if_neg hi,T.get_e]at this;exact this
def Vu(ks:List IV):Prop:=ks.Pairwise (λa b=>qdg b a=false)
def Oh:CtR where
 σ:=List IV
 args:=λks=>[.ssl 1 0 ks.length 1 2, .fn 114 []]
 h:=λks=>[(1, .row 9 0 (qa qD ks))]
 m:=3
 pre:=λks=>1<=ks.length/\ks.length<=1000000
 β:=λ_=>List IV
 post:=λks ks'=>ks'.Perm ks/\Vu ks'
 r:=λ_ _=> .tup []
 h':=λ_ ks'=>[(1, .row 9 0 (qa qD ks'))]
 m':=3
def Xh(fs:List GV) (ks:List IV) (j:Nat) (gs:List GV) (ls:List IV):Prop:=j<=ks.length/\ls.Perm ks/\Vu ls/\gs.length=j/\gs.map some=(ls.take j).map (λk=>fs[kI k ks]?)
def bG:Ys.σ->WayF:=λ⟨fs,ks⟩=>{
 pubE:=[1000002]
 ann:=λid tt hh=>match Df tt 3 with
  |some vb=>some {σ:=Nat×List GV×List IV,pre:=λ⟨j,gs,ls⟩=>Xh fs ks j gs ls,mem:=λ⟨j,gs,ls⟩=>wV gs,t:=λ⟨j,gs,ls⟩=>[(27, .sv (.int .i64 (j:Nat)))],h:=λ⟨j,gs,ls⟩=>[(vb, .cells 36 (some 0) false [.sv (.int .u64 0), .sv (.string (mkS [])), .ssl 40 0 gs.length 5 41, .ssl 42 0 (ls.take j).length 1 43, .sv (.int .i64 0)]),(40, .row 36 0 (qa GV.cells gs)),(42, .row 9 0 (qa qD (ls.take j))),(5, .row 9 0 (qa qD ls))],more:=60,μ:=λ⟨j,gs,ls⟩=>ks.length- j,keep:=[0,2,3,25,26]}
  |none=>none}
def Jz:∀ks:List IV,qa qD ks=ks.map Value.string
 | []=>rfl
 |k::l=>by rw[qa,Jz l];rfl
def zj8(off:Nat) (d:Array IV) (pre rest:List Value) (ks:List IV) (hp:pre.length=off) (hs:d.size=ks.length):Go.Sort.putCells Value.string off d ⟨pre++(qa qD ks++rest)⟩=⟨pre++(qa qD d.toList++rest)⟩:=by
  rw[Jz,Jz];apply Array.ext_getElem?;intro k;unfold Go.Sort.putCells;rw[Array.getElem?_mapIdx];have e1:(⟨pre++(ks.map Value.string++rest)⟩:Array Value)[k]? =(pre++(ks.map Value.string++rest))[k]? :=List.getElem?_toArray ..
  have e2:(⟨pre++(d.toList.map Value.string++rest)⟩:Array Value)[k]? =(pre++(d.toList.map Value.string++rest))[k]? :=List.getElem?_toArray ..
  rw[e1,e2];rcases Nat.lt_or_ge k pre.length with h|h
  · rw[List.getElem?_append_left h,List.getElem?_append_left h];rw[List.getElem?_eq_getElem h];simp only[Option.map_some];rw[if_neg (by omega)]
  · rw [List.getElem?_append_right h,List.getElem?_append_right h];rcases Nat.lt_or_ge (k- pre.length) ks.length with g|g
    · rw[List.getElem?_append_left (by simpa using g),List.getElem?_append_left (by simp;omega),List.getElem?_map,List.getElem?_map,List.getElem?_eq_getElem g];have g2:k- pre.length<d.size:=(by omega);simp only[Option.map_some];rw[if_pos (by omega),←hp,getElem!_pos d _ g2,Array.getElem?_toList,Array.getElem?_eq_getElem g2];rfl
    · rw[List.getElem?_append_right (by simpa using g),List.getElem?_append_right (by simp;omega)];simp only[List.length_map,Array.length_toList,hs];cases hr:rest[k- pre.length- ks.length]? with
      |none=>rfl
      | some v=>
        simp only[Option.map_some];rw[if_neg (by omega)]
def zjp(w:World) (b off n:Nat) (d:Array IV) (os:Array Obj):(∀k,k≠b->k<w.heap.size->(Go.Proofs.sortWorld Value.string w b off n d os).heap[k]? =w.heap[k]?)/\(∀c e fr,w.heap[b]? =some (.cells c e fr)->(Go.Proofs.sortWorld Value.string w b off n d os).heap[b]? =some (.cells (Go.Sort.putCells Value.string off d c) e fr))/\w.heap.size<=(Go.Proofs.sortWorld Value.string w b off n d os).heap.size/\Same w (Go.Proofs.sortWorld Value.string w b off n d os):=by
 unfold Go.Proofs.sortWorld;have hs:(Go.Sort.putRow Value.string (Go.Sort.ahead w n) b off d).heap.size=w.heap.size:=by rw[Go.Sort.size_putRow];rfl
 refine⟨λk hk hl=> ?_,λc e fr hb=> ?_,?_,⟨rfl,rfl,rfl⟩⟩
 ·rw[Go.Sort.heap_grow_old _ _ (by rw[hs];exact hl)];show(w.heap.modify b _)[k]? =_;rw[Array.getElem?_modify,if_neg (λe=>hk e.symm)]
 ·have hl:b<w.heap.size:=by
   rcases Nat.lt_or_ge b w.heap.size with h|h
   ·exact h
   ·rw[Array.getElem?_eq_none h]at hb;cases hb
  rw[Go.Sort.heap_grow_old _ _ (by rw[hs];exact hl)];show(w.heap.modify b _)[b]? =_;rw[Array.getElem?_modify,if_pos rfl,hb];rfl
 ·rw[Go.Sort.size_grow,hs];omega
def j7s{d:Array IV} {n:Nat} (hn:d.size=n) (h:Go.Sort.SortedIn (Go.Proofs.ltOf Zz) 0 n d):Vu d.toList:=by
 unfold Vu;rw[List.pairwise_iff_getElem];intro i j hi hj hij;have hi':i<d.size:=by simpa using hi
 have hj':j<d.size:=by simpa using hj
 have:=h i j (Nat.zero_le _) hij (by omega);rw[Zd,getElem!_pos d j hj',getElem!_pos d i hi']at this;exact this
def FN{ks:List IV} {d':Array IV} (h:Go.Sort.PermIn 0 ks.toArray.size ks.toArray d'):d'.toList.Perm ks/\d'.size=ks.length:=by
 obtain⟨h1,_,h3⟩:=h;have h1:d'.size=ks.length:=by simpa using h1
 refine⟨?_,h1⟩;have e1:(d'.extract 0 ks.toArray.size).toList=d'.toList:=by
  have:ks.toArray.size=d'.size:=by rw[h1];simp
  rw[this];simp
 have e2:(ks.toArray.extract 0 ks.toArray.size).toList=ks:=by simp
 rw[e1,e2]at h3;exact h3
def zyt:q1q P 113 Oh:=by
 refine⟨Nat.le_refl _,by decide,Sen.enters_of Tryz.func113 (by kernel_rfl),λ(ks:List IV)=> ?_⟩;obtain⟨h0,e0,g0,n0⟩:=zuz (.row 9 0 (qa qD ks));refine⟨h0,e0,λF I w vs hv hs low zf hp _ fr hz=> ?_⟩;obtain⟨hp1,hp2⟩:1<=ks.length/\ks.length<=1000000:=hp;cases hv with|cons hv1 hv2=>
 cases hv2 with|cons hv2 hv3=>
 cases hv3;cases hv2 with|fn hv2=>
 cases hv2;cases hv1 with
 |ssl0 hz0=>omega
 | @ssl _ _ _ _ _ b s t c o x hI k2 k3 k4 k5 k6=>
 have hc0:c≠0:=by omega
 have ho:o=s:=by omega
 subst ho;obtain⟨ob,hb,hO⟩:=hs.obj 1 _ b (o,t) g0 hI;have hfr:=hs.fr 1 _ b (o,t) g0 hI;cases hO with| @row _ _ pre _ rest frz q1 q2 q3=>
 have q1:pre.length=o:=q1;have hbl:b<w.heap.size:=by
  rcases Nat.lt_or_ge b w.heap.size with h|h
  ·exact h
  ·rw[Array.getElem?_eq_none h]at hb;cases hb
 have hH:Go.Sort.Holds Value.string w b o ks.toArray:=by
  intro j hj;have hj':j<ks.length:=by simpa using hj
  constructor
  ·simp only[World.cell?,hb];show(pre++(qa qD ks++rest)).toArray[o+j]? =_;rw[Jz,List.getElem?_toArray,List.getElem?_append_right (by omega),List.getElem?_append_left (by rw[List.length_map];omega),show o+j- pre.length=j by omega,List.getElem?_map,List.getElem?_eq_getElem hj',getElem!_pos ks.toArray j hj];rfl
  ·simp only[World.frozen?,hb];have e:t=ks.length+rest.length:=by have:(qa qD ks++rest).length=t:=q2;rw[Jz,List.length_append,List.length_map]at this;omega
   have:=q3 j (Nat.zero_le _) (by show j<t;omega);simp only[decide_eq_false_iff_not,Bool.and_eq_false_iff];have h2:¬(frz.1<=o+j/\o+j<frz.2):=this;simp;omega
 have hcmp:Go.Proofs.CmpLays1 Tryz.prog 114 #[] Value.string Zz b o ks.toArray.size w:=by refine Go.Proofs.CmpReads.lays λm os dk hd x y=>(za8 x y _).mono ?_;rintro e w' ⟨rfl,rfl⟩;exact⟨rfl,0,rfl⟩
 have hrun:=Tryz.slices_SortFunc Value.string (λ_=>rfl) Zz zwm 114 #[] b o c ks.toArray w j6f hcmp hH hbl (by simp;omega);have hsz:(ks.toArray.size:Nat)=ks.length:=by simp
 rw[hsz]at hrun;refine hrun.mono ?_;rintro e w' ⟨rfl,d',n,os,hP,hS,rfl⟩;rw[←hsz]at hP;obtain⟨p1,p2⟩:=FN hP;obtain⟨h1,e1,g1,n1⟩:=zuz (.row 9 0 (qa qD d'.toList));obtain⟨z1,z2,z3,z4⟩:=zjp w b o n d' os;refine⟨d'.toList,h1,⟨p1,j7s p2 hS⟩,e1,_,I,rfl, .tup .nil,⟨In.le_refl I,λ_ _ h=> .inl h,⟨λid o2 b' t2 h hi=> ?_,λid id' o1 o2 b1 t1 t2 h1' h2' i1 i2=> ?_,λid o2 b' t2 h hi hF=> ?_⟩,λb' hb'=> ?_,z3,z4⟩,trivial⟩
 ·by_cases hid:id=1
  ·subst hid;rw[g1]at h;cases h;rw[hI]at hi;cases hi;refine⟨_,z2 _ _ _ hb,?_⟩;rw[zj8 o d' pre rest ks q1 p2];refine .row q1 ?_ q3;have:(qa qD ks++rest).length=t:=q2;rw[Jz,List.length_append,List.length_map]at this;show(qa qD d'.toList++rest).length=t;rw[Jz,List.length_append,List.length_map,Array.length_toList,p2];exact this
  ·rw[n1 _ hid]at h;cases h
 ·by_cases hid:id=1
  ·by_cases hid':id'=1
   ·rw[hid,hid']
   ·rw[n1 _ hid']at h2';cases h2'
  ·rw[n1 _ hid]at h1';cases h1'
 ·by_cases hid:id=1
  ·subst hid;rw[g1]at h;cases h;rw[hI]at hi;cases hi;have h:true=false:=(hfr hF).1;cases h
  ·rw[n1 _ hid]at h;cases h
 ·refine z1 b' (λe=> ?_) (low _ hb');subst e;have h:true=false:=(hfr hb').1;cases h
section
variable (e:List IV) (c:List GV) (Q:List IV) (a:Nat×List GV×List IV) (v:Nat->Option Obj) (E:Nat) (F:Option Addr) (R:Nat) (S:Option Addr) (H:Prop) (A:GV)
 abbrev Ed:=(True/\GV.oks c v)/\length c<=E/\qgs v F (take (length c*nat_lit 5) (qa GV.cells c))
 def Eb:=GV.b A=0/\(∀(g:Bool) (l:jG),zC g e (GV.pvs c) l->GV.pv A=PV.mk 0 (mkS []) l.2 l.1 0)/\H
 def Ea:=length e=length e/\(↑(length e):Int)=(↑(length e):Int)/\qa GV.cells c=qa GV.cells c/\qy e (0:Nat)=qy e 0/\length e=length e/\H
 def mY:=(0<=(↑a.1:Int)/\(↑a.1:Int)<(↑(length e):Int))/\∃g,qgf (qa qD a.2.2) (nat_lit 0+toNat (↑a.1:Int)*nat_lit 1) [string g]/\length (qa qD (take a.1 a.2.2))=length (take a.1 a.2.2)*1/\(length (take a.1 a.2.2)+nat_lit 1)*16<=140737488355328/\kOK TypeDesc.string (string g)/\(∀(l:MapEntry),l∈qy e 0->kOK TypeDesc.string (MapEntry.key l))/\∃(p:Int),qim (string g) (qy e 0) (int i64 0)=int i64 p/\(0<=p/\p<(↑(length c):Int))/\∃(j:Int),∃w,∃z,∃(B:Nat),∃(i:Nat),∃i8,∃(G:Nat),∃(k:Nat),∃(h:Int),qgf (qa GV.cells c) (nat_lit 0+toNat p*nat_lit 5) [int u64 j,string w,slice z B i,slice i8 G k,int i64 h]/\length (qa GV.cells a.2.1)=length a.2.1*5/\(length a.2.1+nat_lit 1)*80<=140737488355328/\Jb ((↑a.1:Int)+1)/\∃(d:Nat×List GV×List IV),(↑d.1:Int)=(↑a.1:Int)+1/\Ea e c (qa qD d.2.2=qa qD a.2.2/\(0:Int)=0/\mkS []=mkS []/\length d.2.1=length a.2.1+nat_lit 1/\length (take d.1 d.2.2)=length (take a.1 a.2.2)+nat_lit 1/\(0:Int)=0/\length c=length c/\length e=length e/\qa GV.cells d.2.1=qa GV.cells a.2.1++[int u64 j,string w,slice z B i,slice i8 G k,int i64 h]/\qa qD (take d.1 d.2.2)=qa qD (take a.1 a.2.2)++[string g]/\(∀q,(True/\GV.oks c q)/\GV.oks a.2.1 q->True/\GV.oks c q)/\(∀r,(True/\GV.oks c r)/\GV.oks a.2.1 r->GV.oks d.2.1 r)/\Xh c e d.1 d.2.1 d.2.2/\length e- d.1<length e- a.1/\True)
 def Ec:=((True/\GV.oks c v)/\GV.oks a.2.1 v)/\length a.2.1<=E/\qgs v F (take (length a.2.1*nat_lit 5) (qa GV.cells a.2.1))
 def D_:=(Ec c a v E F)/\length (take a.1 a.2.2)<=R/\qgs v S (take (length (take a.1 a.2.2)*nat_lit 1) (qa qD (take a.1 a.2.2)))
 def mX:=Ji ((↑a.1:Int)<(↑(length e):Int)) (mY e c a) (∀(I i16 J:Nat) (m:Option Addr) (K o:Nat),(∃C,Ec c a C o m)->∀(L M N:Nat) (t:Option Addr) (O u:Nat),(∃D,D_ c a D o m u t)->∃(f:GV),GV.n f=0/\GV.s f=mkS []/\(GV.x f).1=m/\(GV.x f).2.1=length a.2.1/\(GV.x f).2.2=o/\(GV.y f).1=t/\(GV.y f).2.1=length (take a.1 a.2.2)/\(GV.y f).2.2=u/\Eb e c ((∀i32,D_ c a i32 o m u t->GV.ok f i32)/\True) f)
 def mW:=(∃(g:Nat×List GV×List IV),(↑g.1:Int)=0/\Ea e c (qa qD g.2.2=qa qD Q/\(0:Int)=0/\mkS []=mkS []/\length g.2.1=0/\length (take g.1 g.2.2)=0/\(0:Int)=0/\length c=length c/\length e=length e/\(∀l,True/\GV.oks c l->True/\GV.oks c l)/\(∀p,True/\GV.oks c p->GV.oks g.2.1 p)/\Xh c e g.1 g.2.1 g.2.2/\True))/\∀(j:Nat×List GV×List IV),Xh c e j.1 j.2.1 j.2.2->(∃w,(True/\GV.oks c w)/\GV.oks j.2.1 w)->mX e c j
 def mV:=Ji ((↑(length e):Int)=0) (∀(g l p:Nat) (j:Option Addr) (w z:Nat),(∃B,Ed c B z j)->∃(i:GV),GV.n i=0/\GV.s i=mkS []/\(GV.x i).1=j/\(GV.x i).2.1=length c/\(GV.x i).2.2=z/\(GV.y i).1=noA/\(GV.y i).2.1=0/\(GV.y i).2.2=0/\Eb e c ((∀k,Ed c k z j->GV.ok i k)/\True) i) (∃(h:List IV),length h=length e/\qa qD h=qa qD e/\(1<=length h/\length h<=1000000)/\∀(d:List IV),List.Perm d h/\Vu d->mW e c d)
end
def j6p(fs:List GV) (ks:List IV):qk4 P (qfa []) (qgc [(113,Oh)]) Tryz.f82 Ys (bG) ⟨fs,ks⟩=((length fs<=2001/\length ks<=2001/\∃(mp:Bool),∃(st:jG),zC mp ks (GV.pvs fs) st)->(∃(p:Pub),True/\GV.oks fs p)->mV ks fs):=by kernel_rfl
def jg4:=λfs ks=>Eq.trans (j6p fs ks) (by delta Ji Jb Jt Jf Ed Eb Ea mY Ec D_ mX mW mV;exact rfl)
section
variable (g:AT) (l:SV) (i:IV) (j o:Int) (d:List IV) (e:List GV) (m:List AT) (p:Int) (w:Nat) (a:zj) (c:wR) (t:Prop) (A:Int) (r:yU) (v:Nat->Option Obj)
 abbrev J5:=True/\(qd m l v/\AT.ok g v)/\GV.oks e v
 def Bj:=l.1=l.1/\l.2.1=l.2.1/\l.2.2=l.2.2/\t
 def Bi:=qy r.2.1 (0:Nat)=qy d 0/\length r.2.1=length d/\length r.1=length e/\length r.2.1=length d/\t
 def L3:=Bi d e (qa GV.cells r.1=qa GV.cells e/\qa qD r.2.1=qa qD d/\t) r
 abbrev Bl:=Jb (j+1)
 def Bg:=c.2.2.1=AT.it g/\c.2.2.2=j+1/\c.2.1.1.1=l.1/\c.2.1.1.2.1=l.2.1/\c.2.1.1.2.2=l.2.2/\c.2.1.2.1=i/\t
 def Bd:=c.2.1.2.2.2=j/\(yR c<w/\jI c.1/\qW (c.2.1.1,c.2.1.2.1,c.2.1.2.2.1,c.2.1.2.2.2)/\(0<=c.2.1.2.2.2/\c.2.1.2.2.2<=2000)/\1<=c.2.2.2/\c.2.2.2<=21)/\(∀h,J5 g l e m h->qd c.1 c.2.1.1 h)/\t
 abbrev Bf:=zk c.1 c.2.1.2.1 (toNat ((21:Int)- c.2.2.2)) c.2.2.1 (toNat c.2.1.2.2.1) (toNat c.2.1.2.2.2)
 def J2:=l.1=c.2.1.1.1/\l.2.1=c.2.1.1.2.1/\l.2.2=c.2.1.1.2.2/\i=c.2.1.2.1/\r.2.2.2.1=a.2.2.1/\r.2.2.2.2=a.2.2.2/\t
 def J3:=VC ((m,(l,i,j,o),g,p),e,d) r/\(∀h,(J5 g l e m h)/\GV.ok a.1 h->GV.oks r.1 h)/\True
 abbrev J6:=(qL i (toNat j)).1
 abbrev wJ:=string (J6 i j)
 def L4:=(∀(h:MapEntry),h∈qy d 0->kOK TypeDesc.string (MapEntry.key h))
 abbrev Qq:=(GV.x a.1).2.1
 abbrev Qr:=(GV.x a.1).2.2
 abbrev Qs:=(GV.y a.1).2.1
 abbrev Qt:=(GV.y a.1).2.2
 def Eg:=(0<=j/\j<(↑(length e):Int))/\nat_lit 0+toNat j*nat_lit 5+length [int u64 (GV.n a.1),string (GV.s a.1),slice (GV.x a.1).1 (Qq a) (Qr a),slice (GV.y a.1).1 (Qs a) (Qt a),int i64 (GV.b a.1)]<=length (qa GV.cells e)/\∃(h:yU),h.2.2.1=0/\J2 l i a c (Bi d e (qa GV.cells h.1=spl (qa GV.cells e) (nat_lit 0+toNat j*nat_lit 5) [int u64 (GV.n a.1),string (GV.s a.1),slice (GV.x a.1).1 (Qq a) (Qr a),slice (GV.y a.1).1 (Qs a) (Qt a),int i64 (GV.b a.1)]/\qa qD h.2.1=qa qD d/\J3 g l i o p d e m A a h) h) h
 def Bh:=L4 d/\length (qa qD d)=length d*1/\(length d+nat_lit 1)*16<=140737488355328/\t
 abbrev UF:=qa GV.cells e++[int u64 0,string (mkS []),slice noA 0 0,slice noA 0 0,int i64 0]
 def Bc:=(0:Nat)+toNat (↑(length e):Int)*5+length [int u64 (GV.n a.1),string (GV.s a.1),slice (GV.x a.1).1 (Qq a) (Qr a),slice (GV.y a.1).1 (Qs a) (Qt a),int i64 (GV.b a.1)]<=length (UF e)
 def YQ:=length (qa GV.cells e)=length e*5/\(length e+nat_lit 1)*80<=140737488355328/\(0<=(↑(length e):Int)/\(↑(length e):Int)<(↑(length e+nat_lit 1):Int))/\Bc e a/\Bc e a/\slice c.2.1.1.1 c.2.1.1.2.1 c.2.1.1.2.2=slice c.2.1.1.1 c.2.1.1.2.1 c.2.1.1.2.2/\string c.2.1.2.1=string c.2.1.2.1/\int i64 a.2.2.1=int i64 a.2.2.1/\int i64 a.2.2.2=int i64 a.2.2.2/\t
 abbrev J4:=int i64 (↑(length e):Int)
 def UE:=int u64 (GV.n a.1)=int u64 (GV.n a.1)/\string (GV.s a.1)=string (GV.s a.1)/\slice (GV.x a.1).1 (Qq a) (Qr a)=slice (GV.x a.1).1 (Qq a) (Qr a)/\slice (GV.y a.1).1 (Qs a) (Qt a)=slice (GV.y a.1).1 (Qs a) (Qt a)/\int i64 (GV.b a.1)=int i64 (GV.b a.1)/\t
 def L6:=length e+nat_lit 1=length e+nat_lit 1
 def L1:=int i64 (AT.k g)=int i64 (AT.k g)/\string (AT.nm g)=string (AT.nm g)/\slice (AT.al g).1 (AT.al g).2.1 (AT.al g).2.2=slice (AT.al g).1 (AT.al g).2.1 (AT.al g).2.2/\int i64 (AT.it g)=int i64 (AT.it g)/\slice (AT.sy g).1 (AT.sy g).2.1 (AT.sy g).2.2=slice (AT.sy g).1 (AT.sy g).2.1 (AT.sy g).2.2/\bool (AT.hd g)=bool (AT.hd g)/\string (AT.df g)=string (AT.df g)/\int i64 (AT.sz g)=int i64 (AT.sz g)/\slice (AT.f g).1 (AT.f g).2.1 (AT.f g).2.2=slice (AT.f g).1 (AT.f g).2.1 (AT.f g).2.2/\slice (AT.br g).1 (AT.br g).2.1 (AT.br g).2.2=slice (AT.br g).1 (AT.br g).2.1 (AT.br g).2.2/\t
 abbrev L5:=(0:Nat)+toNat (↑(length e):Int)*5
 def UD:=spl (UF e) (L5 e) [int u64 (GV.n a.1),string (GV.s a.1),slice (GV.x a.1).1 (Qq a) (Qr a),slice (GV.y a.1).1 (Qs a) (Qt a),int i64 (GV.b a.1)]=spl (UF e) (L5 e) [int u64 (GV.n a.1),string (GV.s a.1),slice (GV.x a.1).1 (Qq a) (Qr a),slice (GV.y a.1).1 (Qs a) (Qt a),int i64 (GV.b a.1)]
 def L2:=qa GV.cells r.1=spl (UF e) (L5 e) [int u64 (GV.n a.1),string (GV.s a.1),slice (GV.x a.1).1 (Qq a) (Qr a),slice (GV.y a.1).1 (Qs a) (Qt a),int i64 (GV.b a.1)]
 def m_:=kOK TypeDesc.string (wJ i j)/\Bh d (YQ e a c (AO.mrow (qd4 (wJ i j) (J4 e) (qy d 0) (length d)) (qd3 (wJ i j) (qy d 0) (length d))=AO.mrow (qd4 (wJ i j) (J4 e) (qy d 0) (length d)) (qd3 (wJ i j) (qy d 0) (length d))/\qa qD d++[string (J6 i j)]=qa qD d++[string (J6 i j)]/\UE a (L6 e/\length d+nat_lit 1=length d+nat_lit 1/\L1 g (UD e a/\string (J6 i j)=string (J6 i j)/\∃(q:yU),q.2.2.1=0/\J2 l i a c (qy q.2.1 (0:Nat)=qd4 (wJ i j) (J4 e) (qy d 0) (length d)/\length q.2.1=qd3 (wJ i j) (qy d 0) (length d)/\length q.1=length e+nat_lit 1/\length q.2.1=length d+nat_lit 1/\L2 e a q/\qa qD q.2.1=qa qD d++[string (J6 i j)]/\J3 g l i j o d e m p a q) q))))
 def Bk:=AO.mrow (qy d 0) (length d)=AO.mrow (qy d 0) (length d)
 def Be:=L6 e/\length d=length d/\L1 g (∃(h:yU),h.2.2.1=0/\J2 l i a c (qy h.2.1 (0:Nat)=qy d 0/\length h.2.1=length d/\length h.1=length e+nat_lit 1/\length h.2.1=length d/\L2 e a h/\qa qD h.2.1=qa qD d/\J3 g l i j o d e m p a h) h)
 def nc:=YQ e a c (Bk d/\UD e a/\qa qD d=qa qD d/\UE a (Be g l i j o d e m p a c))
 def Ee:=Ji (AT.k g=13) (m_ g l i j o d e m p a c) (nc g l i j o d e m p a c)
 def C7:=kOK TypeDesc.string (wJ i j)/\L4 d/\∃(q:Int),qim (wJ i j) (qy d 0) (int i64 0)=int i64 q/\(qkb (wJ i j) (qy d 0)=true->Ji (AT.k g=13) (Eg g l i q j d e m o a c p) (Ee g l i j o d e m p a c))/\(qkb (wJ i j) (qy d 0)=false->Ee g l i j o d e m p a c)
 def C5:=((!decide (a.2.1=0))=true->∃(h:yU),h.2.2.1=a.2.1/\J2 l i a c (L3 d e (J3 g l i j o d e m p a h) h) h)/\((!decide (a.2.1=0))=false->C7 g l i j o d e m p a c)
 def C3:=Bl j/\∃(h:wR),Bg g l i j h (h.2.1.2.2.1=(qL i (toNat o)).2.2/\Bd g l p e m w h (∀(u:zj),um h.1 (Bf h) h.2.1.2.1 h.2.1.2.2.1 h.2.1.2.2.2 h.2.2.1 u->(∃z,(J5 g l e m z)/\GV.ok u.1 z)->C5 g l i o p d e m j u h))
 def nf:=Bj l (i=i/\j=j/\o=o/\qW ((l.1,l.2.1,l.2.2),i,j,o)/\((!decide (vO (qL i (toNat j))=0))=true->∃(h:yU),h.2.2.1=vO (qL i (toNat j))/\Bj l (i=i/\h.2.2.2.1=(qL i (toNat j)).2.2/\h.2.2.2.2=o/\L3 d e (VC ((m,(l,i,j,o),g,p),e,d) h/\(∀q,J5 g l e m q->GV.oks h.1 q)/\True) h))/\((!decide (vO (qL i (toNat j))=0))=false->C3 g l i p j d e m o w))
 def na:=kOK TypeDesc.string (string (mkS []))/\Bh d (YQ e a c (AO.mrow (qd4 (string (mkS [])) (J4 e) (qy d 0) (length d)) (qd3 (string (mkS [])) (qy d 0) (length d))=AO.mrow (qd4 (string (mkS [])) (J4 e) (qy d 0) (length d)) (qd3 (string (mkS [])) (qy d 0) (length d))/\UE a (qa qD d++[string (mkS [])]=qa qD d++[string (mkS [])]/\L6 e/\length d+nat_lit 1=length d+nat_lit 1/\L1 g (UD e a/\∃(q:yU),q.2.2.1=0/\J2 l i a c (qy q.2.1 (0:Nat)=qd4 (string (mkS [])) (J4 e) (qy d 0) (length d)/\length q.2.1=qd3 (string (mkS [])) (qy d 0) (length d)/\length q.1=length e+nat_lit 1/\length q.2.1=length d+nat_lit 1/\L2 e a q/\qa qD q.2.1=qa qD d++[string (mkS [])]/\J3 g l i j o d e m p a q) q))))
 def nd:=YQ e a c (Bk d/\UE a (qa qD d=qa qD d/\UD e a/\Be g l i j o d e m p a c))
 def Ef:=Ji (AT.k g=13) (na g l i j o d e m p a c) (nd g l i j o d e m p a c)
 def C8:=kOK TypeDesc.string (string (mkS []))/\L4 d/\∃(q:Int),qim (string (mkS [])) (qy d 0) (int i64 0)=int i64 q/\(qkb (string (mkS [])) (qy d 0)=true->Ji (AT.k g=13) (Eg g l i q j d e m o a c p) (Ef g l i j o d e m p a c))/\(qkb (string (mkS [])) (qy d 0)=false->Ef g l i j o d e m p a c)
 def C6:=((!decide (a.2.1=0))=true->∃(h:yU),h.2.2.1=a.2.1/\J2 l i a c (L3 d e (J3 g l i j o d e m p a h) h) h)/\((!decide (a.2.1=0))=false->C8 g l i j o d e m p a c)
 def C4:=Bl j/\∃(h:wR),Bg g l i j h (h.2.1.2.2.1=o/\Bd g l p e m w h (∀(u:zj),um h.1 (Bf h) h.2.1.2.1 h.2.1.2.2.1 h.2.1.2.2.2 h.2.2.1 u->(∃z,(J5 g l e m z)/\GV.ok u.1 z)->C6 g l i o p d e m j u h))
 def mZ:=Ji (AT.k g=13) (nf g l i j o d e m p w) (C4 g l i p j d e m o w)
end
def zi8(n:Nat) (S:List AT) (x:SV) (s:IV) (i c:Int) (a:AT) (dp:Int) (fs:List GV) (ks:List IV):qk4 P (qfa [(88,z79)]) (qgc [(27,uo.below yR n)]) Tryz.f83 (Hb.below KM (n+1)) (zvd) ⟨⟨S,⟨x,s,i,c⟩,a,dp⟩,fs,ks⟩=(KM ((S,(x,s,i,c),a,dp),fs,ks)<n+1/\Il ((S,(x,s,i,c),a,dp),fs,ks)->(∃(p:Pub),J5 a x fs S p)->mZ a x s i c ks fs S dp n):=by kernel_rfl
def zow:=λn S x s i c a dp fs ks=>Eq.trans (zi8 n S x s i c a dp fs ks) (by delta Ji Jb Jt Jf J5 Bj Bi L3 Bl Bg Bd Bf J2 J3 J6 wJ L4 Qq Qr Qs Qt Eg Bh UF Bc YQ J4 UE L6 L1 L5 UD L2 m_ Bk Be nc Ee C7 C5 C3 nf na nd Ef C8 C6 C4 mZ;exact rfl)
section
variable {ks:List IV} {vs:List PV} {st:jG}
def zgq{mp:Bool} (h:zC mp ks vs st):mp=true->ks.length=vs.length/\ks.Nodup:=λe=>by subst e;unfold zC at h;rw[if_pos rfl]at h;exact⟨h.2.1,h.1⟩
def GM(h:zC false ks vs st):ks=[]/\st=([],vs):=by unfold zC at h;rw[if_neg (by decide)]at h;exact h
def N7{S:List AT} {x:SV} {s:IV} {i c:Int} {a:AT} {dp:Int} {fs:List GV} {ks:List IV} {e' i' c':Int} (h1:∀st,∃k:Nat,e'=k+1/\yk (qX S s dp a.it) s (decide (a.k=13)) st i.toNat c.toNat= .no k) (h2:i<=i'/\i'<=s.size) (h3:c<=c'/\c'<=2001) (h4:(fs.length:Int)<=c') (h5:(ks.length:Int)<=c'):VC ⟨⟨S,⟨x,s,i,c⟩,a,dp⟩,fs,ks⟩ (fs,ks,e',i',c'):=by
 refine⟨λst _=> ?_,h2,h3,λg=> ?_,h4,h5⟩
 ·obtain⟨k,q1,q2⟩:=h1 st;rw[q2];exact q1
 ·obtain⟨k,q1,_⟩:=h1 ([],[]);have g:e'=0:=g;omega
def NB{S:List AT} {x:SV} {s:IV} {i c:Int} {a:AT} {dp:Int} {fs fs':List GV} {ks ks':List IV} {i' c':Int} (h1:∀st,zC (decide (a.k=13)) ks (GV.pvs fs) st->∃r,yk (qX S s dp a.it) s (decide (a.k=13)) st i.toNat c.toNat= .ok r/\zC (decide (a.k=13)) ks' (GV.pvs fs') r.1/\i'=r.2.1/\c'=r.2.2) (h2:i<=i'/\i'<=s.size) (h3:c+1<=c'/\c'<=2000) (h4:(fs'.length:Int)<=c') (h5:(ks'.length:Int)<=c'):VC ⟨⟨S,⟨x,s,i,c⟩,a,dp⟩,fs,ks⟩ (fs',ks',0,i',c'):=by refine⟨λst hst=> ?_,h2,⟨by show c<=c';omega,by show c'<=2001;omega⟩,λ_=>h3,h4,h5⟩;obtain⟨r,q1,q2,q3,q4⟩:=h1 st hst;rw[q1];exact⟨rfl,q2,q3,q4⟩
def zyc(fs:List GV) (j:Nat) (r:GV):GV.pvs (fs.set j r)=(GV.pvs fs).set j r.pv:=by rw[GV.pvs_map,GV.pvs_map,List.map_set]
def zy1{fs:List GV} {j:Nat} {r:GV} {p:Pub} (h:GV.oks fs p) (hr:r.ok p):GV.oks (fs.set j r) p:=GV.oks_iff.2 λv hv=>(List.mem_or_eq_of_mem_set hv).elim (GV.oks_iff.1 h v) (λe=>e ▸ hr)
def zox(n:Nat) (hv:q1q P 27 (uo.below yR n)):q1q P 83 (Hb.below KM (n+1)):=by
  refine zt (qcn (qgp z9c qjr)) (qde (qgo hv qjq)) (W:=zvd) Tryz.func83 λ⟨⟨S,⟨(x:SV),s,(i:Int),(c:Int)⟩,a,(dp:Int)⟩,fs,ks⟩=>(zow n S x s i c a dp fs ks).mpr ?_;rintro⟨hmu,hok,haS,hk,h,⟨hc0,hc1⟩,⟨hp1,hp2⟩,hfl,hkl,st0,hst0⟩ ⟨p,_,⟨hx,ha⟩,hfs⟩;have hmu:(25- dp).toNat<n+1:=hmu;have hi:=h.1;have hi2:=h.2.1;have hit:=(hok.2.2 a haS).2.2.1 hk;have hpv:=GV.pvs_len fs;simp only[qH,exists_const,forall_const,Int.toNat_natCast];refine⟨λk13=> ?_,λk13=> ?_⟩
  · have hmp:decide (a.k=13)=true:=decide_eq_true k13;have hst:=hst0;rw[hmp]at hst;obtain⟨hln,hnd⟩:=zgq hst rfl;rw[hpv]at hln;have ht:=GH (D:=s) (i:=i.toNat) (by omega);have hve:0<=vO (qL s i.toNat):=(by unfold vO;split<;>omega);have hX:∀st,yk (qX S s dp a.it) s true st i.toNat c.toNat=(wo (qL s i.toNat) (vO (qL s i.toNat))).bind λk=>(qX S s dp a.it k.2 c.toNat).bind λr=> .ok ((qO k.1 st.1,zH k.1 st.1 st.2 r.1),r.2):=λst=>(by unfold yk;rw[if_pos rfl];rfl);generalize qL s i.toNat=T at*;obtain⟨k,er,m⟩:=T;generalize vO (k,er,m)=E at*;simp only at ht hX⊢;unfold wo at hX;refine⟨h,λhe=>⟨⟨fs,ks,E,m,c⟩,rfl,rfl,rfl,rfl,rfl,rfl,rfl,rfl,rfl,N7 (λst=>⟨(E- 1).toNat,by omega,by rw[hmp,hX,if_neg he,kG]⟩) ⟨by omega,by omega⟩ ⟨Int.le_refl _,by omega⟩ hfl hkl,λq hq=>hq.2⟩,λhe=>⟨⟨by omega,by omega⟩,⟨S,⟨x,s,m,c⟩,a.it,dp+1⟩,rfl,rfl,rfl,rfl,rfl,rfl,rfl,rfl,⟨by show(25- (dp+1)).toNat<n;omega,hok,⟨by show 0<=m;omega,by show m<=s.size;omega,h.2.2⟩,⟨hc0,hc1⟩,by show 1<=dp+1;omega,by show dp+1<=21;omega⟩,λq hq=>hq.1.1,?_⟩⟩;rintro⟨r,e',i',c'⟩ ⟨g1,_,⟨g2,g3⟩,⟨g4,g5⟩,g6⟩ _;obtain⟨g7,g8⟩:=g1 hit;have g2:m<=i':=g2;have g8:c+1<=c':=g8;have g5:c'<=2001:=g5;have g7:j5 (zk S s (21- (dp+1)).toNat a.it m.toNat c.toNat) r.pv i' c' e':=g7;rw[show(21- (dp+1)).toNat=(20- dp).toNat by omega]at g7;simp only[if_pos he,qT]at hX;have hG:qX S s dp a.it m.toNat c.toNat=zk S s (20- dp).toNat a.it m.toNat c.toNat:=rfl;rw[←hG]at g7;simp only[true_and,and_true];generalize qX S s dp a.it m.toNat c.toNat=G at*;have hb1:i<=i'/\i'<=s.size:=⟨by omega,g3⟩;refine⟨λhne=>⟨⟨fs,ks,e',i',c'⟩,rfl,rfl,rfl,rfl,rfl,rfl,rfl,rfl,rfl,N7 (λst=> ?_) hb1 ⟨by omega,g5⟩ (by omega) (by omega),λq hq=>hq.1.2⟩,λhe0=>⟨trivial,WL ks 0,?_⟩⟩
    · cases G with
      |no j=>exact⟨j,g7,by rw[hmp,hX,kG]⟩
      |ok w=>exact absurd g7.1 hne
    cases G with
    |no j=>have g7:e'=j+1:=g7;have he0:e'=0:=he0;omega
    | ok w=>
      obtain⟨_,q2,q3,q4⟩:=g7;simp only[qT]at hX;have hcc:c+1<=c'/\c'<=2000:=⟨g8,g6 he0⟩;by_cases hk:k∈ks
      · obtain⟨k1,k2⟩:=Im hk;refine⟨(kI k ks:Nat),zuv _ hk,λ_=>⟨λ_=>⟨⟨by omega,by omega⟩,by rw[Int.toNat_natCast,qv zr];show 0+kI k ks*5+5<=_;omega,⟨fs.set (kI k ks) r,ks,0,i',c'⟩,rfl,rfl,rfl,rfl,rfl,List.length_set ..,rfl,by rw[Int.toNat_natCast];exact Nk zr fs (kI k ks) (by omega) r,rfl,NB (λst hst=>⟨_,by rw[hmp];exact hX st,?_,q3,q4⟩) hb1 hcc (by rw[List.length_set];omega) (by omega),λq hq=>zy1 hq.1.2 hq.2⟩,λg=>absurd k13 g⟩,λg=>by rw[jg9 hk]at g;cases g⟩;rw[hmp]at hst⊢;rw[zyc,q2];exact zw2 hst hk
      · obtain⟨k1,k2⟩:=j6z hk;refine⟨0,zxo _ hk,λg=>(by rw[j6y hk]at g;cases g),λ_=>⟨λ_=>⟨trivial,WL ks 0,qv Ho ks,by omega,qv zr fs,by omega,⟨by omega,by omega⟩,by rw[List.length_append,qv zr];show 0+fs.length*5+5<=fs.length*5+5;omega,by rw[List.length_append,qv zr];show 0+fs.length*5+5<=fs.length*5+5;omega,⟨fs++[r],ks++[k],0,i',c'⟩,rfl,rfl,rfl,?_,?_,by simp,by simp,(zjl fs r _ rfl).symm,by rw[zx];rfl,NB (λst hst=>⟨_,by rw[hmp];exact hX st,?_,q3,q4⟩) hb1 hcc (by rw[List.length_append];show((fs.length+1:Nat):Int)<=c';omega) (by rw[List.length_append];show((ks.length+1:Nat):Int)<=c';omega),λq hq=>Qe hq.1.2 (yF hq.2)⟩,λg=>absurd k13 g⟩⟩
        · rw[←hln];exact k1.symm
        · exact k2.symm
        · rw[hmp]at hst⊢;rw[Dg,q2];exact zw0 hst hk
  · have hmp:decide (a.k=13)=false:=decide_eq_false k13;have hst:=hst0;rw[hmp]at hst;obtain⟨rfl,_⟩:=GM hst;have hX:∀st,yk (qX S s dp a.it) s false st i.toNat c.toNat=(qX S s dp a.it i.toNat c.toNat).bind λr=> .ok ((st.1,st.2++[r.1]),r.2):=λst=>(by unfold yk;rw[if_neg (by decide)]);refine⟨⟨by omega,by omega⟩,⟨S,⟨x,s,i,c⟩,a.it,dp+1⟩,rfl,rfl,rfl,rfl,rfl,rfl,rfl,rfl,⟨by show(25- (dp+1)).toNat<n;omega,hok,h,⟨hc0,hc1⟩,by show 1<=dp+1;omega,by show dp+1<=21;omega⟩,λq hq=>hq.1.1,?_⟩;rintro⟨r,e',i',c'⟩ ⟨g1,_,⟨g2,g3⟩,⟨g4,g5⟩,g6⟩ _;obtain⟨g7,g8⟩:=g1 hit;have g2:i<=i':=g2;have g8:c+1<=c':=g8;have g5:c'<=2001:=g5;have g7:j5 (zk S s (21- (dp+1)).toNat a.it i.toNat c.toNat) r.pv i' c' e':=g7;rw[show(21- (dp+1)).toNat=(20- dp).toNat by omega]at g7;have hG:qX S s dp a.it i.toNat c.toNat=zk S s (20- dp).toNat a.it i.toNat c.toNat:=rfl;rw[←hG]at g7;simp only[true_and,and_true];have hb1:i<=i'/\i'<=s.size:=⟨by omega,g3⟩;generalize qX S s dp a.it i.toNat c.toNat=G at*;refine⟨λhne=>⟨⟨fs,[],e',i',c'⟩,rfl,rfl,rfl,rfl,rfl,rfl,rfl,rfl,rfl,N7 (λst=> ?_) hb1 ⟨by omega,g5⟩ (by omega) (by show((0:Nat):Int)<=c';omega),λq hq=>hq.1.2⟩,λhe0=>⟨trivial,WL [] 0,0,rfl,λg=>absurd g (by decide),λ_=>⟨λg=>absurd g k13,λ_=> ?_⟩⟩⟩
    · cases G with
      |no j=>exact⟨j,g7,by rw[hmp,hX,kG]⟩
      |ok w=>exact absurd g7.1 hne
    cases G with
    |no j=>have g7:e'=j+1:=g7;have he0:e'=0:=he0;omega
    | ok w=>
      obtain⟨_,q2,q3,q4⟩:=g7;simp only[qT]at hX;have hcc:c+1<=c'/\c'<=2000:=⟨g8,g6 he0⟩;refine⟨qv zr fs,by omega,⟨by omega,by omega⟩,by rw[List.length_append,qv zr];show 0+fs.length*5+5<=fs.length*5+5;omega,by rw[List.length_append,qv zr];show 0+fs.length*5+5<=fs.length*5+5;omega,⟨fs++[r],[],0,i',c'⟩,rfl,rfl,rfl,rfl,rfl,by simp,rfl,(zjl fs r _ rfl).symm,rfl,NB (λst hst=>⟨_,by rw[hmp];exact hX st,?_,q3,q4⟩) hb1 hcc (by rw[List.length_append];show((fs.length+1:Nat):Int)<=c';omega) (by show((0:Nat):Int)<=c';omega),λq hq=>Qe hq.1.2 (yF hq.2)⟩;rw[hmp]at hst⊢;obtain⟨_,rfl⟩:=GM hst;unfold zC;rw[if_neg (by decide)];exact⟨rfl,by rw[Dg,q2]⟩
end
section
def zvt:∀{ks:List IV} {vs:List PV},ks.Nodup->∀{k:IV} {v:PV},(k,v)∈ks.zip vs->vs[kI k ks]? =some v
  | [],_,_,k,v,h=>by simp at h
  |a::l,[],_,k,v,h=>by simp at h
  | a ::l,w::vs,hn,k,v,h=>by
    obtain⟨ha,hl⟩:=List.nodup_cons.1 hn;rw[List.zip_cons_cons]at h;rcases List.mem_cons.1 h with h|h
    · cases h;simp[kI]
    · have hk:=(List.of_mem_zip h).1;rw[kI,if_neg (λe=>ha (by rw[←e];exact hk)),List.getElem?_cons_succ];exact zvt hl h
def ziu{α β:Type} {f:α->Option β}:∀{l:List α} {m:List β},l.length=m.length->(∀p∈l.zip m,f p.1=some p.2)->m.map some=l.map f
  | [],[],_,_=>rfl
  | a::l,b::m,h,g=>by rw[List.map_cons,List.map_cons,g (a,b) (by simp),ziu (by simpa using h) λp hp=>g p (by rw[List.zip_cons_cons];exact List.mem_cons_of_mem _ hp)]
def some_inj{α:Type}:∀{l m:List α},l.map some=m.map some->l=m
  | [],[],_=>rfl
  | [],_::_,h=>by cases h
  |_::_,[],h=>by cases h
  | a::l,b::m,h=>by rw[List.map_cons,List.map_cons]at h;obtain⟨h1,h2⟩:=List.cons.inj h;cases h1;rw[some_inj h2]
variable {st:jG}
def zvz{fs gs:List GV} {ks ls:List IV} (h:zC true ks (GV.pvs fs) st) (hp:ls.Perm ks) (hu:Vu ls) (hg:gs.map some=ls.map (λk=>fs[kI k ks]?)):st.1=ls/\st.2=GV.pvs gs:=by
 unfold zC at h;rw[if_pos rfl]at h;obtain⟨h0,h1,h2,h3,h4⟩:=h;have hk:st.1.Perm ks:=by have:=h4.map Prod.fst;rwa [List.map_fst_zip (by omega),List.map_fst_zip (by omega)]at this
 have e1:st.1=ls:=by
  refine List.Perm.eq_of_pairwise (le:=λa b=>qdg b a=false) (λa b _ _ p q=> ?_) (h3.imp λ{a b} p=> ?_) hu (hk.trans hp.symm)
  ·rcases(uk a b).2 p with p|p
   ·rw[q]at p;cases p
   ·exact p
  ·exact(uk a b).1 (.inl p)
 refine⟨e1,some_inj ?_⟩;rw[ziu (f:=λk=>(GV.pvs fs)[kI k ks]?) h2 λp hp'=>zvt h0 (h4.mem_iff.1 hp'),e1,GV.pvs_map,GV.pvs_map,List.map_map];have:gs.map (some∘GV.pv)=(gs.map some).map (Option.map GV.pv):=by rw[List.map_map];rfl
 rw[this,hg,List.map_map];refine List.map_congr_left λk _=> ?_;simp
variable {vs:List PV} {mp:Bool}
def zbz{ks:List IV} (h:zC mp ks vs st) (hk:ks.length≠0):mp=true:=by
 cases mp with
 |true=>rfl
 |false=>rw[(GM h).1]at hk;exact absurd rfl hk
def zw1(h:zC mp [] vs st):st.1=[]/\st.2=vs:=by
  cases mp with
  |false=>rw[(GM h).2];exact⟨rfl,rfl⟩
  | true=>
    unfold zC at h;rw[if_pos rfl]at h;obtain⟨_,h1,h2,_,h4⟩:=h;have h1:vs.length=0:=h1.symm;have e:vs=[]:=List.eq_nil_of_length_eq_zero h1;subst e;have h5:=h4.length_eq;rw[List.length_zip]at h5;have e0:(List.zip ([]:List IV) ([]:List PV)).length=0:=rfl;rw[e0]at h5;have h6:st.1.length=0:=(by omega);have h7:st.2.length=0:=(by omega);exact⟨List.eq_nil_of_length_eq_zero h6,List.eq_nil_of_length_eq_zero h7⟩
def j6k{fs:List GV} {ls:List IV} {a b:Option Addr} {c d:Nat} {q:Pub} (h1:GV.oks fs q) (h2:fs.length<=c) (h3:qgs q a (List.take (fs.length*5) (qa GV.cells fs))) (h4:ls.length<=d) (h5:qgs q b (List.take (ls.length*1) (qa qD ls))):(GV.mk 0 (mkS []) (a,fs.length,c) fs (b,ls.length,d) ls 0).ok q:=by rw[List.take_of_length_le (by rw[qv zr];exact Nat.le_refl _)]at h3;rw[List.take_of_length_le (by rw[qv Ho];exact Nat.le_refl _)]at h5;unfold GV.ok;exact⟨⟨rfl,h2,h3⟩,⟨rfl,h4,h5⟩,h1⟩
def zv2{α:Type} {f:α->List Value} {e:Nat} (hf:∀x,(f x).length=e) {l:List α} {i:Nat} (hi:i<l.length):qgf (qa f l) (0+i*e) (f l[i]):=λj v h=>by
 have hj:j<e:=by
  rcases Nat.lt_or_ge j e with g|g
  ·exact g
  ·rw[List.getElem?_eq_none (by rw[hf];exact g)]at h;cases h
 rw[Nat.zero_add,Zb hf l i hi j hj];exact h
def zx1{fs gs:List GV} {ks ls:List IV} {j m:Nat} (hg:gs.map some=(ls.take j).map (λk=>fs[kI k ks]?)) (hj:j<ls.length) (hm:m<fs.length) (e:kI ls[j] ks=m):(gs++[fs[m]]).map some=(ls.take (j+1)).map (λk=>fs[kI k ks]?):=by rw[List.take_add_one,List.getElem?_eq_getElem hj,List.map_append,List.map_append,hg];simp[e,hm]
def jg5:q1q P 82 Ys:=by
 refine zt (qcn qjr) (qde (qgo zyt qjq)) (W:=bG) Tryz.func82 λ⟨fs,ks⟩=>(jg4 fs ks).mpr ?_;rintro⟨hf,hkl,mp0,st0,hst0⟩ ⟨p,_,hp⟩;simp only[qH,exists_const,forall_const,Int.toNat_natCast];refine⟨λhk a c _=> ?_,λhk=> ?_⟩
 ·have hk:ks=[]:=List.eq_nil_of_length_eq_zero (by omega);subst hk;refine⟨.mk 0 (mkS []) (a,fs.length,c) fs (none,0,0) [] 0,rfl,rfl,rfl,rfl,rfl,rfl,rfl,rfl,rfl,λmp st h=> ?_,λq hq=>zuk hq.1 hq.2.1 hq.2.2⟩;obtain⟨e1,e2⟩:=zw1 h;rw[GV.pv,e1,e2]
 ·have hk0:ks.length≠0:=by omega
  have hmp:=zbz hst0 hk0;rw[hmp]at hst0;have hln:=(zgq hst0 rfl).1;rw[GV.pvs_len]at hln;refine⟨ks,rfl,rfl,⟨by omega,by omega⟩,?_⟩;rintro ls ⟨hpm,hup⟩;refine⟨⟨(0,[],ls),rfl,rfl,rfl,rfl,λq _=>GV.oks_iff.2 λw hw=>(by cases hw),⟨Nat.zero_le _,hpm,hup,rfl,rfl⟩⟩,?_⟩;rintro⟨j,gs,ls⟩ ⟨r1,r2,r3,r4,r5⟩ ⟨p2,hp2,hgs⟩;simp only at r1 r2 r3 r4 r5 hgs⊢;have hll:=r2.length_eq;refine⟨λhlt=> ?_,λhge a c _ b d _=> ?_⟩
  ·have hj:j<ls.length:=(by omega);have hjk:ls[j]∈ks:=r2.mem_iff.1 (List.getElem_mem hj);obtain⟨k1,k2⟩:=Im hjk;have hm:kI ls[j] ks<fs.length:=(by omega);refine⟨⟨by omega,by omega⟩,ls[j],zv2 Ho hj,by rw[qv Ho],by rw[List.length_take];omega,trivial,WL ks 0,(kI ls[j] ks:Nat),zuv _ hjk,⟨by omega,by omega⟩,fs[kI ls[j] ks].n,fs[kI ls[j] ks].s,fs[kI ls[j] ks].x.1,fs[kI ls[j] ks].x.2.1,fs[kI ls[j] ks].x.2.2,fs[kI ls[j] ks].y.1,fs[kI ls[j] ks].y.2.1,fs[kI ls[j] ks].y.2.2,fs[kI ls[j] ks].b,by rw[Int.toNat_natCast];exact zv2 zr hm,qv zr gs,by omega,⟨by omega,by omega⟩,(j+1,gs++[fs[kI ls[j] ks]],ls),by show((j+1:Nat):Int)=_;omega,rfl,by simp,by simp only[List.length_take];omega,by rw[zx];rfl,?_,λq hq=>hq.1,λq hq=>Qe hq.2 (yF (GV.oks_iff.1 hq.1 _ (List.getElem_mem hm))),⟨by show j+1<=_;omega,r2,r3,by simp[r4],zx1 r5 hj hm rfl⟩,by show ks.length- (j+1)<_;omega⟩;show qa qD (ls.take (j+1))=_;rw[List.take_add_one,List.getElem?_eq_getElem hj,zx];rfl
  ·have hj:j=ks.length:=(by omega);have ht:ls.take j=ls:=List.take_of_length_le (by omega);rw[ht]at r5;refine⟨.mk 0 (mkS []) (a,gs.length,c) gs (b,ls.length,d) ls 0,rfl,rfl,rfl,rfl,rfl,rfl,by rw[ht];rfl,rfl,rfl,λmp st h=> ?_,λq hq=> ?_⟩
   ·rw[zbz h hk0]at h;obtain⟨e1,e2⟩:=zvz h r2 r3 r5;rw[GV.pv,e1,e2]
   ·have h5:=hq.2.2;have h4:=hq.2.1;rw[ht]at h4 h5;exact j6k hq.1.1.2 hq.1.2.1 hq.1.2.2 h4 h5
end
def Yo(R:zy) (v:PV) (n e:Int):Prop:=match R with
 | .no k=>e=k+1/\n=0/\v=zV.pv
 | .ok r=>e=0/\v=r.1/\n=r.2.1
abbrev Kt:=List AT×SV×Int×SV×IV
abbrev uH:=GV×Int×Int
def Jy(S:List AT) (t:Int) (D:IV) (b:uH):Prop:=(0<=t/\t<S.length->Yo (zk S D 20 t 0 0) b.1.pv b.2.1 b.2.2)/\(¬(0<=t/\t<S.length)->b.2.2=1/\b.2.1=0/\b.1.pv=zV.pv)/\0<=b.2.1/\b.2.1<=D.size
def Hw:∀c,q1q P 27 (uo.below yR c)
 |0=>CtR.below_zero (by decide) (by decide) (Sen.enters_of Tryz.func27 (by kernel_rfl)) λs=>rfl
 |c+1=>zz2 c (zps c (Hw c)) (zwe c (zox c (Hw c)) jg5) (zz0 c (Hw c))
def j7v:q1q P 27 uo:=CtR.of_below Hw
def HA:CtR where
 σ:=Kt
 args:=λ⟨S,x,t,y,D⟩=>[kx x, .sv (.int .i64 t),z_ y]
 h:=λ_=>[]
 m:=1
 pre:=λ⟨S,x,t,y,D⟩=>jI S/\D.size<100000000000000000
 mem:=λ⟨S,x,t,y,D⟩=>rvM S x y D
 β:=λ_=>uH
 post:=λ⟨S,x,t,y,D⟩ b=>Jy S t D b
 pm:=λ_ ⟨r,n',e'⟩=>vM r
 r:=λ_ ⟨r,n',e'⟩=> .tup [r.av, .sv (.int .i64 n'), .sv (.int .i64 e')]
 h':=λ_ _=>[]
 m':=1
section
variable (c:zj) (g:List AT) (i:Int) (e:IV) (h f:SV) (j:Nat->Option Obj)
 def ZR:=True/\qd g h j/\f.2.1=size e/\qgt j f.1 f.2.1 f.2.2 (q18 e)
 def nh:=AV.sv (int i64 c.2.2.1)=AV.sv (int i64 c.2.2.1)/\∃(a:uH),GV.n a.1=GV.n c.1/\GV.s a.1=GV.s c.1/\(GV.x a.1).1=(GV.x c.1).1/\(GV.x a.1).2.1=(GV.x c.1).2.1/\(GV.x a.1).2.2=(GV.x c.1).2.2/\(GV.y a.1).1=(GV.y c.1).1/\(GV.y a.1).2.1=(GV.y c.1).2.1/\(GV.y a.1).2.2=(GV.y c.1).2.2/\GV.b a.1=GV.b c.1/\a.2.1=c.2.2.1/\a.2.2=0/\Jy g i e a/\(∀d,(ZR g e h f d)/\GV.ok c.1 d->GV.ok a.1 d)/\True
 def ng:=((!decide (c.2.1=0))=true->∃(a:uH),GV.n a.1=0/\GV.s a.1=mkS []/\(GV.x a.1).1=noA/\(GV.x a.1).2.1=0/\(GV.x a.1).2.2=0/\(GV.y a.1).1=noA/\(GV.y a.1).2.1=0/\(GV.y a.1).2.2=0/\GV.b a.1=0/\a.2.1=0/\a.2.2=c.2.1/\Jy g i e a/\(∀d,(ZR g e h f d)/\GV.ok c.1 d->GV.ok a.1 d)/\True)/\((!decide (c.2.1=0))=false->nh c g i e h f)
end
def znx(S:List AT) (x:SV) (t:Int) (y:SV) (D:IV):qk4 P (qfa []) (qgc [(27,uo)]) Tryz.f13 HA (λ_=>{}) ⟨S,x,t,y,D⟩=(jI S/\size D<100000000000000000->(∃(p:Pub),ZR S D x y p)->∃(s:IV),size s=y.2.1/\(∀(p:Pub),ZR S D x y p->qgs p y.1 (q18 s))/\∃(s_1:wR),s_1.2.2.1=t/\s_1.2.2.2=1/\s_1.2.1.1.1=x.1/\s_1.2.1.1.2.1=x.2.1/\s_1.2.1.1.2.2=x.2.2/\s_1.2.1.2.1=s/\s_1.2.1.2.2.1=0/\s_1.2.1.2.2.2=0/\(jI s_1.1/\qW (s_1.2.1.1,s_1.2.1.2.1,s_1.2.1.2.2.1,s_1.2.1.2.2.2)/\(0<=s_1.2.1.2.2.2/\s_1.2.1.2.2.2<=2000)/\1<=s_1.2.2.2/\s_1.2.2.2<=21)/\(∀(p:Pub),ZR S D x y p->qd s_1.1 s_1.2.1.1 p)/\∀(b:zj),um s_1.1 (zk s_1.1 s_1.2.1.2.1 (toNat ((21:Int)- s_1.2.2.2)) s_1.2.2.1 (toNat s_1.2.1.2.2.1) (toNat s_1.2.1.2.2.2)) s_1.2.1.2.1 s_1.2.1.2.2.1 s_1.2.1.2.2.2 s_1.2.2.1 b->(∃(p:Pub),(ZR S D x y p)/\GV.ok b.1 p)->ng b S t D x y):=by kernel_rfl
def zwo:=λS x t y D=>Eq.trans (znx S x t y D) (by delta ZR nh ng;exact rfl)
def zhi:q1q P 13 HA:=by
 refine zt (qcn qjr) (qde (qgo j7v qjq)) (W:=λ_=>{}) Tryz.func13 λ⟨S,(x:SV),(t:Int),(y:SV),D⟩=>(zwo S x t y D).mpr ?_;rintro⟨hok,hD⟩ ⟨p,_,hx,hyl,hy⟩;have xs:x.2.1=S.length:=hx.1.1;refine⟨D,hyl.symm,λq hq=>hq.2.2.2.2,⟨S,⟨x,D,0,0⟩,t,1⟩,rfl,rfl,rfl,rfl,rfl,rfl,rfl,rfl,⟨hok,⟨Int.le_refl _,by show(0:Int)<=D.size;omega,hD⟩,⟨by show(0:Int)<=0;decide,by show(0:Int)<=2000;decide⟩,by show(1:Int)<=1;decide,by show(1:Int)<=21;decide⟩,λq hq=>hq.2.1,?_⟩;rintro⟨r,e',n',c'⟩ ⟨h1,h2,⟨h3,h4⟩,h5,h6⟩ _;have h1:uR S t->j5 (zk S D 20 t 0 0) r.pv n' c' e'/\(0:Int)+1<=c':=h1;have h2:¬uR S t->e'=1:=h2;have h3:(0:Int)<=n':=h3;have h4:n'<=D.size:=h4;simp only[qH,exists_const,forall_const,Int.toNat_natCast,Bool.and_eq_false_iff,Bool.and_eq_true];refine⟨λhne=>⟨⟨zV,0,e'⟩,rfl,rfl,rfl,rfl,rfl,rfl,rfl,rfl,rfl,rfl,rfl,⟨λhin=> ?_,λh=>⟨h2 h,rfl,rfl⟩,Int.le_refl _,by show(0:Int)<=D.size;omega⟩,λq _=>jD q⟩,λhe=>⟨⟨r,n',0⟩,rfl,rfl,rfl,rfl,rfl,rfl,rfl,rfl,rfl,rfl,rfl,⟨λhin=> ?_,λh=> ?_,h3,h4⟩,λq hq=>hq.2⟩⟩
 ·show Yo (zk S D 20 t 0 0) zV.pv 0 e';have h1:=(h1 hin).1;cases hR:zk S D 20 t 0 0 with
  |no k=>rw[hR]at h1;exact⟨h1,rfl,rfl⟩
  |ok w=>rw[hR]at h1;exact absurd h1.1 hne
 ·show Yo (zk S D 20 t 0 0) r.pv n' 0;have h1:=(h1 hin).1;cases hR:zk S D 20 t 0 0 with
  |no k=>rw[hR]at h1;have h1:e'=k+1:=h1;have he:e'=0:=he;omega
  |ok w=>rw[hR]at h1;exact⟨rfl,h1.2.1,h1.2.2.1⟩
 ·have:=h2 h;have he:e'=0:=he;omega
def pH:GV->Nat:=λv=>SizeOf.sizeOf v
def Ki:Ct:=ZH (GV×GV) (λ⟨v,w⟩=>[v.av,w.av]) (λ⟨v,w⟩=>v.pv.sm/\w.pv.sm) (λ⟨v,w⟩=>vwM v w) λ⟨v,w⟩=> .sv (.bool (PV.same v.pv w.pv))
def bL:GV×GV->WayF:=λ⟨v,w⟩=>{
 ann:=λid _ _=>match id with
  |0=>some {σ:=Nat,pre:=λj=>j<=v.ks.length/\v.n=w.n/\v.s=w.s/\v.b=w.b/\v.l.length=w.l.length/\v.ks.length=w.ks.length/\v.ks.take j=w.ks.take j,t:=λj=>[(5, .sv (.int .i64 (j:Int)))],h:=λ_=>[],more:=0,μ:=λj=>v.ks.length- j,keep:=[0,1,2,3]}
  |_=>some {σ:=Nat,pre:=λj=>j<=v.l.length/\v.n=w.n/\v.s=w.s/\v.b=w.b/\v.l.length=w.l.length/\v.ks=w.ks/\PV.sames ((GV.pvs v.l).drop j) ((GV.pvs w.l).drop j)=PV.sames (GV.pvs v.l) (GV.pvs w.l),t:=λj=>[(6, .sv (.int .i64 (j:Int)))],h:=λ_=>[],more:=0,μ:=λj=>v.l.length- j,keep:=[0,1,2,3]}}
section
variable (a c:GV) (e w:Nat) (E:Prop) (F:Nat->Option Obj)
 abbrev Qu:=True/\GV.ok a F/\GV.ok c F
 def Zr:=PV.same (GV.pv a) (GV.pv c)=false/\True
 abbrev Zs:=(↑(GV.x a).2.1:Int)
 abbrev Zt:=(↑(GV.y a).2.1:Int)
 def k0:=GV.n a=GV.n a/\GV.s a=GV.s a/\(GV.x a).1=(GV.x a).1/\(GV.x a).2.1=(GV.x a).2.1/\(GV.x a).2.2=(GV.x a).2.2/\(GV.y a).1=(GV.y a).1/\(GV.y a).2.1=(GV.y a).2.1/\(GV.y a).2.2=(GV.y a).2.2/\GV.b a=GV.b a/\E
 def UG:=(∀f,Qu a c f->Qu a c f)
 def Bn:=GV.n a=GV.n c/\GV.s a=GV.s c/\GV.b a=GV.b c/\length (GV.l a)=length (GV.l c)/\E
 def L8:=e<=length (GV.ks a)/\Bn a c (length (GV.ks a)=length (GV.ks c)/\take e (GV.ks a)=take e (GV.ks c))
 abbrev Bm:=Jb ((↑e:Int)+1)
 def aa:=Bm e/\∃(f:Nat),k0 a (k0 c ((↑f:Int)=(↑e:Int)+1/\k0 a (k0 c (UG a c/\(L8 a c f)/\length (GV.ks a)- f<length (GV.ks a)- e/\True))))
 def C':=(0<=(↑e:Int)/\(↑e:Int)<(Zt a))/\(GV.y a).1≠noA/\∃f,(∀i,Qu a c i->q37 i (adr (GV.y a).1 (toNat (↑e:Int)*1)) [string f])/\(0<=(↑e:Int)/\(↑e:Int)<(Zt c))/\(GV.y c).1≠noA/\∃g,(∀v,Qu a c v->q37 v (adr (GV.y c).1 (toNat (↑e:Int)*1)) [string g])/\((!decide (f=g))=true->Zr a c)/\((!decide (f=g))=false->aa a c e)
 def L7:=e<=length (GV.l a)/\Bn a c (GV.ks a=GV.ks c/\PV.sames (drop e (GV.pvs (GV.l a))) (drop e (GV.pvs (GV.l c)))=PV.sames (GV.pvs (GV.l a)) (GV.pvs (GV.l c)))
 def C_:=Bm e/\∃(f:Nat),k0 a (k0 c ((↑f:Int)=(↑e:Int)+1/\k0 a (k0 c (UG a c/\(L7 a c f)/\length (GV.l a)- f<length (GV.l a)- e/\True))))
 def C9:=(0<=(↑e:Int)/\(↑e:Int)<(Zs a))/\(GV.x a).1≠noA/\∃(f:Int),∃i,∃g,∃(v:Nat),∃(z:Nat),∃A,∃(B:Nat),∃(C:Nat),∃(i8:Int),(∀D,Qu a c D->q37 D (adr (GV.x a).1 (toNat (↑e:Int)*5)) [int u64 f,string i,slice g v z,slice A B C,int i64 i8])/\(0<=(↑e:Int)/\(↑e:Int)<(Zs c))/\(GV.x c).1≠noA/\∃(j:Int),∃k,∃m,∃(o:Nat),∃(p:Nat),∃q,∃(i16:Nat),∃(r:Nat),∃(t:Int),(∀u,Qu a c u->q37 u (adr (GV.x c).1 (toNat (↑e:Int)*5)) [int u64 j,string k,slice m o p,slice q i16 r,int i64 t])/\∃(d:GV×GV),GV.n d.1=f/\GV.s d.1=i/\(GV.x d.1).1=g/\(GV.x d.1).2.1=v/\(GV.x d.1).2.2=z/\(GV.y d.1).1=A/\(GV.y d.1).2.1=B/\(GV.y d.1).2.2=C/\GV.b d.1=i8/\GV.n d.2=j/\GV.s d.2=k/\(GV.x d.2).1=m/\(GV.x d.2).2.1=o/\(GV.x d.2).2.2=p/\(GV.y d.2).1=q/\(GV.y d.2).2.1=i16/\(GV.y d.2).2.2=r/\GV.b d.2=t/\(Kp d<w/\PV.sm (GV.pv d.1)/\PV.sm (GV.pv d.2))/\(∀h,Qu a c h->GV.ok d.1 h/\GV.ok d.2 h)/\((!PV.same (GV.pv d.1) (GV.pv d.2))=true->Zr a c)/\((!PV.same (GV.pv d.1) (GV.pv d.2))=false->C_ a c e)
 def ny:=Ji ((↑e:Int)<(Zs a)) (C9 a c e w) (PV.same (GV.pv a) (GV.pv c)=true/\True)
 def nw:=(∃(f:Nat),k0 a (k0 c ((↑f:Int)=0/\k0 a (k0 c (UG a c/\(L7 a c f)/\True)))))/\∀(g:Nat),L7 a c g->ny a c g e
 def nv:=Ji ((↑e:Int)<(Zt a)) (C' a c e) (nw a c w)
 def nu:=(∃(f:Nat),k0 a (k0 c ((↑f:Int)=0/\k0 a (k0 c (UG a c/\(L8 a c f)/\True)))))/\∀(g:Nat),L8 a c g->nv a c g e
 def nt:=((!decide ((Zt a)=(Zt c)))=true->Zr a c)/\((!decide ((Zt a)=(Zt c)))=false->nu a c e)
 def nq:=((!decide ((Zs a)=(Zs c)))=true->Zr a c)/\((!decide ((Zs a)=(Zs c)))=false->nt a c e)
 def nk:=((!decide (GV.b a=GV.b c))=true->Zr a c)/\((!decide (GV.b a=GV.b c))=false->nq a c e)
 def nj:=((!decide (GV.s a=GV.s c))=true->Zr a c)/\((!decide (GV.s a=GV.s c))=false->nk a c e)
 def ni:=((!decide (GV.n a=GV.n c))=true->Zr a c)/\((!decide (GV.n a=GV.n c))=false->nj a c e)
end
def zyr(n:Nat) (v w:GV):qk3 P (qfa [(14,Ki.below Kp n)]) Tryz.f14 (Ki.below Kp (n+1)) (bL) ⟨v,w⟩=(Kp (v,w)<n+1/\PV.sm (GV.pv v)/\PV.sm (GV.pv w)->(∃(p:Pub),Qu v w p)->ni v w n):=by kernel_rfl
def j7d:=λn v w=>Eq.trans (zyr n v w) (by delta Ji Jb Jt Jf Qu Zr Zs Zt k0 UG Bn L8 Bm aa C' L7 C_ C9 ny nw nv nu nt nq nk nj ni;exact rfl)
section
variable {v:GV} {j:Nat}
def HG(hj:j<v.l.length) {q:Pub} (h:v.ok q):v.x.1≠noA/\q37 q (adr v.x.1 (j*5)) (v.l[j]).cells:=z17 zr (by decide) (by rw[GV.ok_eq]at h;exact h.1) hj
def zul(hj:j<v.l.length) {q:Pub} (h:v.ok q):(v.l[j]).ok q:=GV.oks_at (by rw[GV.ok_eq]at h;exact h.2.2) hj
def Hn(hj:j<v.ks.length) {q:Pub} (h:v.ok q):v.y.1≠noA/\q37 q (adr v.y.1 (j*1)) [.string v.ks[j]]:=z17 jV (by decide) (by rw[GV.ok_eq]at h;exact h.2.1) hj
def zi0{q:Pub} (h:v.ok q):v.x.2.1=v.l.length/\v.y.2.1=v.ks.length:=by rw[GV.ok_eq]at h;exact⟨h.1.1,h.2.1.1⟩
def N_(hj:j<v.l.length):j<(GV.pvs v.l).length:=by rw[GV.pvs_len];exact hj
def j70(hj:j<v.l.length):pH v.l[j]<pH v:=by
 have h1:=NL hj;have h2:SizeOf.sizeOf v.l<SizeOf.sizeOf v:=by cases v;simp[GV.l];omega
 exact Nat.lt_trans h1 h2
def zv1(h:v.pv.sm) {j:Nat} (hj:j<v.l.length):(v.l[j]).pv.sm:=by rw[GV.sm_eq]at h;have:=PV.sms_at h.2.2.2.2.2 (N_ hj);rw[Zg hj]at this;exact this
end
def j7e(n:Nat) (hc:q4p P 14 (Ki.below Kp n)):q4p P 14 (Ki.below Kp (n+1)):=by
 refine qF (qcn (qgp hc qjr)) (W:=bL) Tryz.func14 λ⟨v,w⟩=>(j7d n v w).mpr ?_;rintro⟨hmu,hv,hw⟩ ⟨p,_,hp,hq⟩;have hmu:SizeOf.sizeOf v<n+1:=hmu;obtain⟨hxl,hyl⟩:=zi0 hp;obtain⟨hxl2,hyl2⟩:=zi0 hq;have hl:=hv;have hl2:=hw;rw[GV.sm_eq]at hl hl2;have hsame:PV.same v.pv w.pv=(decide (v.n=w.n)&&decide (v.s=w.s)&&decide (v.b=w.b)&&decide (v.ks=w.ks)&&PV.sames (GV.pvs v.l) (GV.pvs w.l)):=by rw[GV.pv_eq v,GV.pv_eq w,PV.same]
 simp only[qH,Int.toNat_natCast];rw[hsame];refine⟨λh=>by rw[decide_eq_false h];rfl,λh1=>⟨λh=>by rw[decide_eq_false h];simp,λh2=>⟨λh=>by rw[decide_eq_false h];simp,λh3=>⟨λh=> ?_,λh4=>⟨λh=> ?_,λh5=>⟨⟨0,rfl,by omega,h1,h2,h3,by omega,by omega,by simp⟩,?_⟩⟩⟩⟩⟩⟩
 ·rw[z98 (l:=GV.pvs v.l) (m:=GV.pvs w.l) (by rw[GV.pvs_len,GV.pvs_len];omega)];simp
 ·rw[decide_eq_false (p:=v.ks=w.ks) (λe=>h (by rw[hyl,hyl2,e]))];simp
 rintro j ⟨hj, -, -, -,hll,hkl,ht⟩;refine⟨λhlt=> ?_,λhge=> ?_⟩
 ·have hj1:j<v.ks.length:=by omega
  have hj2:j<w.ks.length:=by omega
  refine⟨by omega,(Hn hj1 hp).1,v.ks[j],λq hq=>(Hn hj1 hq.1).2,by omega,(Hn hj2 hq).1,w.ks[j],λq hq=>(Hn hj2 hq.2).2,λhne=> ?_,λhe=>⟨by omega,j+1,rfl,⟨by omega,h1,h2,h3,hll,hkl,?_⟩,by omega⟩⟩
  ·rw[decide_eq_false (p:=v.ks=w.ks) (λe=>hne (by simp only[e]))];simp
  ·rw[List.take_succ_eq_append_getElem hj1,List.take_succ_eq_append_getElem hj2,ht,he]
 ·obtain rfl:j=v.ks.length:=by omega
  have hks:v.ks=w.ks:=by rw[List.take_length,hkl,List.take_length]at ht;exact ht
  refine⟨⟨0,rfl,by omega,h1,h2,h3,hll,hks,by simp⟩,?_⟩;rintro i ⟨hi, -, -, -, -, -,hs⟩;refine⟨λhlt=> ?_,λhge=> ?_⟩
  ·have hi1:i<v.l.length:=(by omega);have hi2:i<w.l.length:=(by omega);have hd:=zfg (N_ hi1) (N_ hi2);rw[Zg hi1,Zg hi2]at hd;refine⟨by omega,(HG hi1 hp).1,v.l[i].n,v.l[i].s,v.l[i].x.1,v.l[i].x.2.1,v.l[i].x.2.2,v.l[i].y.1,v.l[i].y.2.1,v.l[i].y.2.2,v.l[i].b,λq hq=>(HG hi1 hq.1).2,by omega,(HG hi2 hq).1,w.l[i].n,w.l[i].s,w.l[i].x.1,w.l[i].x.2.1,w.l[i].x.2.2,w.l[i].y.1,w.l[i].y.2.1,w.l[i].y.2.2,w.l[i].b,λq hq=>(HG hi2 hq.2).2,⟨v.l[i],w.l[i]⟩,?_⟩;simp only[true_and,eq_self];refine⟨⟨?_,zv1 hv hi1,zv1 hw hi2⟩,λq hq=>⟨zul hi1 hq.1,zul hi2 hq.2⟩,λhb=> ?_,λhb=>⟨by omega,i+1,rfl,⟨by omega,h1,h2,h3,hll,hks,?_⟩,by omega⟩⟩
   ·show SizeOf.sizeOf v.l[i]<n;have:=j70 hi1;have:SizeOf.sizeOf v.l[i]<SizeOf.sizeOf v:=this;omega
   ·rw[←hs,hd,hb];simp
   ·rw[←hs,hd,hb];rfl
  ·obtain rfl:i=v.l.length:=(by omega);rw[List.drop_of_length_le (by rw[GV.pvs_len];exact Nat.le_refl _),List.drop_of_length_le (by rw[GV.pvs_len];omega)]at hs;rw[←hs,decide_eq_true h1,decide_eq_true h2,decide_eq_true h3,decide_eq_true hks,PV.sames];rfl
def zjo:∀n,q4p P 14 (Ki.below Kp n)
 |0=>Ct.below_zero (by decide) (by decide) (Sen.enters_of Tryz.func14 (by kernel_rfl)) λs=>⟨rfl,rfl⟩
 |n+1=>j7e n (zjo n)
def zys:q4p P 14 Ki:=Ct.of_below zjo
def MQ:Ct where
 σ:=SV
 args:=λx=>[z_ x]
 h:=λ_=>[]
 m:=1
 r:=λ_=> .ptr 1 0
 h':=λx=>jc x 0
 m':=2
 g:=λ_=>none
def GB:Ct where
 σ:=Unit
 args:=λ_=>[]
 h:=λ_=>[]
 m:=1
 r:=λ_=> .sv (.bool true)
 h':=λ_=>[]
 m':=1
 g:=λ_=>none
def ze2:GB.σ->WayF:=λ_=>{pub:=λi k=>match i,k with
 |2,2=>[10,14]
 |_,_=>[]}
def VH(L:List Int):Prop:=L.length<9223372036854775808/\∀b∈L,0<=b/\b<256
def zp7(x:SV):qk3 P (λ_=>none) Tryz.f8 MQ (λ_=>{}) x=(True->Prod.fst x=Prod.fst x/\Prod.fst (Prod.snd x)=Prod.fst (Prod.snd x)/\Prod.snd (Prod.snd x)=Prod.snd (Prod.snd x)/\(0:Int)=(0:Int)/\True):=by kernel_rfl
section
variable (e:Nat->Option Obj) (c d f g:Nat) (b h:uH) (a:Kt) (k:Int) (l:Prop)
 abbrev Eh:=True/\q37 e (Addr.mk c d none) [int i64 4,string (mkS []),slice noA 0 0,int i64 0,slice noA 0 0,bool false,string (mkS []),int i64 0,slice noA 0 0,slice noA 0 0,int i64 12,string (mkS []),slice noA 0 0,int i64 0,slice noA 0 0,bool false,string (mkS []),int i64 0,slice noA 0 0,slice noA 0 0]
 def ZS:=(Eh e c d)/\q37 e (Addr.mk f g none) [int u8 2,int u8 10,int u8 0,int u8 9]
 def Ej:=a.2.1.1=some (Addr.mk c (d+nat_lit 0) none)/\a.2.1.2.1=nat_lit 2/\a.2.1.2.2=nat_lit 2/\a.2.2.1=k/\l
 def Ek:=(jI a.1/\size a.2.2.2.2<100000000000000000)
 def Ei:=qd a.1 a.2.1 e/\a.2.2.2.1.2.1=size a.2.2.2.2/\qgt e a.2.2.2.1.1 a.2.2.2.1.2.1 a.2.2.2.1.2.2 (q18 a.2.2.2.2)
 def nE:=((0:Int)<=0/\0<(↑(GV.x b.1).2.1:Int))/\(GV.x b.1).1≠noA/\∃(j:Int),(∀i,((ZS i c d f g)/\GV.ok b.1 i)/\GV.ok h.1 i->q37 i (Addr.add (adr (GV.x b.1).1 ((0:Nat)*5)) 0) [int u64 j])/\Ji (j=5) (true=decide (h.2.2=2)/\True) (true=false/\True)
 def nD:=Ji ((↑(GV.x b.1).2.1:Int)=1) (nE c d f g b h) (true=false/\True)
 def nC:=Ji (b.2.1=3) (nD c d f g b h) (true=false/\True)
 def nA:=Ji (b.2.2=0) (nC c d f g b h) (true=false/\True)
end
def z9y(u:Unit):qk5 P (qfa []) (qgc [(13,HA)]) Tryz.f7 GB (ze2) u=(True->∀(b s u:Nat),(∃(p:Pub),Eh p b s)->∀(b_1 s_1 u:Nat),(∃(p:Pub),ZS p b s b_1 s_1)->∃(s_2:Kt),Ej b s s_2 1 (s_2.2.2.2.1.1=some (Addr.mk b_1 (s_1+nat_lit 0) none)/\s_2.2.2.2.1.2.1=nat_lit 4/\s_2.2.2.2.1.2.2=nat_lit 4/\Ek s_2/\(∀(p:Pub),ZS p b s b_1 s_1->Ei p s_2)/\∀(b_2:uH),Jy s_2.1 s_2.2.2.1 s_2.2.2.2.2 b_2->(∃(p:Pub),(ZS p b s b_1 s_1)/\GV.ok b_2.1 p)->∃(s_3:Kt),Ej b s s_3 0 (s_3.2.2.2.1.1=noA/\s_3.2.2.2.1.2.1=0/\s_3.2.2.2.1.2.2=0/\Ek s_3/\(∀(p:Pub),(ZS p b s b_1 s_1)/\GV.ok b_2.1 p->Ei p s_3)/\∀(b_3:uH),Jy s_3.1 s_3.2.2.1 s_3.2.2.2.2 b_3->(∃(p:Pub),((ZS p b s b_1 s_1)/\GV.ok b_2.1 p)/\GV.ok b_3.1 p)->nA b s b_1 s_1 b_2 b_3))):=by kernel_rfl
def zef:=λu=>Eq.trans (z9y u) (by delta Ji Jt Jf Eh ZS Ej Ek Ei nE nD nC nA;exact rfl)
def zp8:q4p P 8 MQ:=by refine qF jz (W:=λ_=>{}) Tryz.func8 λ(x:SV)=>(zp7 x).mpr ?_;simp only[true_and,and_true,eq_self,imp_self,implies_true]
def zx0{S:List AT} (h:qx S):jI S:=⟨⟨by have:=h.1;omega,λe he=>by have:=(h.2 e he).2.2.2.2.2.2.2;omega⟩,λe he=>(h.2 e he).1,λa ha=>⟨λf hf=>((h.2 a ha).2.2.2.2.1 f hf).1,(h.2 a ha).2.2.1,(h.2 a ha).2.1,λk=>by have:=(h.2 a ha).2.2.2.2.2.2.1 k;omega⟩⟩
def tD(k it:Int):AT:=⟨k,mkS [],(none,0,0),[],it,(none,0,0),[],false,mkS [],0,(none,0,0),[],(none,0,0),[]⟩
def SD:List AT:=[tD 4 0,tD 12 0]
def dP:PV:= .mk 0 (mkS []) [.mk 5 (mkS []) [] [] 0] [] 0
def jgf(k it:Int) (p:Pub):(tD k it).ok p:=⟨qY,qY,qY,qY,λf hf=>absurd hf (by simp[tD])⟩
def zu7{p:Pub} {b s:Nat} (h:q37 p ⟨b,s,none⟩ (qa AT.cells SD)):qd SD (some ⟨b,s+0,none⟩,2,2) p:=
 ⟨⟨rfl,Nat.le_refl _, .inr ⟨_,rfl,rfl,h⟩⟩,λe he=>by simp[SD]at he;rcases he with rfl|rfl<;>exact jgf _ _ _⟩
def I_:jI SD:=by
 refine⟨⟨by decide,λe he=> ?_⟩,λe he=> ?_,λe he=> ?_⟩;all_goals simp[SD]at he;rcases he with rfl|rfl
 all_goals first|decide|exact⟨λf hf=>absurd hf (by simp[tD]),λf hf=>absurd hf (by simp[tD]),by decide,by decide⟩
def jv5:zk SD (mkS [2,10,0,9]) 20 1 0 0= .ok (dP,3,2):=by kernel_rfl
def jv6:zk SD (mkS []) 20 0 0 0= .no 1:=by kernel_rfl
def zeg:q4p P 7 GB:=by
  refine bA (qcn qjr) (qde (qgo zhi qjq)) (W:=ze2) Tryz.func7 λ(u:Unit)=>(zef u).mpr ?_;intro _ b s _ _ b1 s1 _ _;refine⟨⟨SD,(some ⟨b,s+0,none⟩,2,2),1,(some ⟨b1,s1+0,none⟩,4,4),mkS [2,10,0,9]⟩,rfl,rfl,rfl,rfl,rfl,rfl,rfl,⟨I_,by show 4<100000000000000000;decide⟩,λp h=>⟨zu7 h.1.2,rfl,Nat.le_refl _, .inr ⟨_,rfl,rfl,h.2⟩⟩,?_⟩;rintro⟨v,n,e⟩ hv ⟨p,hp⟩;refine⟨⟨SD,(some ⟨b,s+0,none⟩,2,2),0,(none,0,0),mkS []⟩,rfl,rfl,rfl,rfl,rfl,rfl,rfl,⟨I_,by show 0<100000000000000000;decide⟩,λp h=>⟨zu7 h.1.1.2,rfl,Nat.le_refl _, .inl ⟨rfl,trivial⟩⟩,?_⟩;rintro⟨w,m,f⟩ hw _;have hv:=hv.1 ⟨by show(0:Int)<=1;decide,by show(1:Int)<2;decide⟩;have hw:=hw.1 ⟨by show(0:Int)<=0;decide,by show(0:Int)<2;decide⟩;have hv:Yo (zk SD (mkS [2,10,0,9]) 20 1 0 0) v.pv n e:=hv;have hw:Yo (zk SD (mkS []) 20 0 0 0) w.pv m f:=hw;rw[jv5]at hv;rw[jv6]at hw;obtain⟨v1,v2,v3⟩:=hv;obtain⟨w1,w2,w3⟩:=hw;have v2:v.pv=dP:=v2;have v3:n=3:=v3;have w1:f=2:=w1;subst v1 v3 w1;have hok:v.ok p:=hp.2;have hl:∃h,v.l=[h]/\h.n=5:=by
    obtain⟨vn,vs,vx,vl,vy,vk,vb⟩:=v;rw[GV.pv]at v2;unfold dP at v2;injection v2 with _ _ q _ _
    rw[GV.pvs_map]at q;cases vl with
    |nil=>cases q
    | cons h l=>
      cases l with
      |cons _ _=>have:=congrArg List.length q;simp at this
      | nil=>
        refine⟨h,rfl,?_⟩;obtain⟨hn,hs,hx,hl,hy,hk,hb⟩:=h;rw[List.map_cons,GV.pv]at q;injection q with q _
        injection q with q
  obtain⟨h,hl,hn⟩:=hl;have hlen:v.l.length=1:=by rw[hl];rfl
  have hx:=GV.x_len hok;have h0:0<v.l.length:=by omega
  have hca:=λq (hq:v.ok q)=>GV.cells_at hq h0;have he:v.l[0]=h:=by simp only[hl];rfl
  rw[he]at hca;simp only[decide_eq_true_eq,decide_eq_false_iff_not];refine⟨λ_=>⟨λ_=>⟨λ_=>⟨⟨by decide,by omega⟩,(hca p hok).1,h.n,λq hq=> ?_,λ_=>⟨by decide,trivial⟩,λg=>absurd hn g⟩,λg=>absurd (by omega) g⟩,λg=>absurd trivial g⟩,λg=>absurd trivial g⟩;have c:=(hca q hq.1.2).2;intro j z hj;cases j with
  |succ j=>simp at hj
  | zero=>
    have e0:Addr.add (adr v.x.1 (0*5)) 0=adr v.x.1 (0*5):=(by unfold Addr.add;rw[if_pos rfl]);rw[e0];exact c 0 z hj
def I9(y:SV) (R:List Int):PF:=⟨true,qc qi y R,λ_ _ h e=>jo h e⟩
def inL(R:List Int):List SV->PF
 | [y]=>I9 y R
 |_=>{}
def I6(R:List Int):GS:=some {β:=Unit,ks:=[1],pre:=λ_=>True,mem:=λ_ xs=>inL R xs}
def S6(S:List AT) (x y:SV) (R:List Int):PF:=⟨true,λp=>qd S x p/\qc qi y R p,λ_ _ h e=>⟨yC h e.1,jo h e.2⟩⟩
def arM(a:AT) (y:SV) (R:List Int):PF:=⟨true,λp=>a.ok p/\qc qi y R p,λ_ _ h e=>⟨AT.ok_mono h e.1,jo h e.2⟩⟩
def Kq(n:Nat) (R:List Int):Prop:=R.length=n/\∀t:Int,0<=t/\t<n-> -1<=qg R t/\qg R t<=100
def rid:AV->Option Nat
 | .ssl r _ _ _ _=>some r
 | .msl r _ _=>some r
 |_=>none
def Xo(t:T AV) (k:Nat):Option Nat:=match t.get k with
 |some a=>rid a
 |none=>none
def bE(t:T AV) (k:Nat):Option Nat:=match t.get k with
 |some (.ptr b _)=>some b
 |_=>none
abbrev ML:=List AT×SV×Int×SV×List Int
def Ny:Ct:=ZH ML (λ⟨S,x,t,y,R⟩=>[kx x, .sv (.int .i64 t),z_ y]) (λ⟨S,x,t,y,R⟩=>qx S/\Kq S.length R/\0<=t/\t<S.length) (λ⟨S,x,t,y,R⟩=>S6 S x y R) λ⟨S,x,t,y,R⟩=> .sv (.int .i64 (v7 R (qe S t)))
def zkn:ML->WayF:=λ⟨S,x,t,y,R⟩=>{
 ann:=λid _ _=>match id with
  |0=>some {σ:=Nat×Int,pre:=λ⟨j,m⟩=>j<=(qe S t).brs.length/\(-1<=m/\m<=100)/\kZ R ((qe S t).brs.drop j) m=kZ R (qe S t).brs (-1),t:=λ⟨j,m⟩=>[(9, .sv (.int .i64 (j:Int))),(8, .sv (.int .i64 m))],h:=λ_=>[],more:=0,μ:=λ⟨j,m⟩=>(qe S t).brs.length- j,keep:=[2,7]}
  |_=>some {σ:=Nat×Int,pre:=λ⟨j,m⟩=>j<=(qe S t).fs.length/\(0<=m/\m<=100)/\kM R ((qe S t).fs.drop j) m=kM R (qe S t).fs 0,t:=λ⟨j,m⟩=>[(12, .sv (.int .i64 (j:Int))),(11, .sv (.int .i64 m))],h:=λ_=>[],more:=0,μ:=λ⟨j,m⟩=>(qe S t).fs.length- j,keep:=[2,7]}}
def z76:Ct where
 σ:=List AT×SV
 args:=λ⟨S,x⟩=>[kx x]
 h:=λ_=>[]
 m:=1
 pre:=λ⟨S,x⟩=>qx S
 mem:=λ⟨S,x⟩=>sM S x
 r:=λ_=> .tsl 1
 h':=λ_=>[]
 m':=2
 g:=λ⟨S,x⟩=>I6 (qB S)
def jt(A B:List Int) (i:Nat):List Int:=A.take i++B.drop i
def zko:z76.σ->WayF:=λ⟨S,x⟩=>{
  pub:=λi k=>match i,k with
    |8,0=>[3]
    |17,1=>[67]
    |_,_=>[]
  ann :=λid t _=>match id with
    | 0=>match Xo t 3 with
      |some r=>some {σ:=Nat,pre:=λj=>j<=S.length,t:=λj=>[(4, .sv (.int .i64 (j:Int)))],h:=λj=>[(r, .row 3 0 (qa qi (jt (S.map kj) (List.replicate S.length 0) j)))],more:=0,μ:=λj=>S.length- j,keep:=[1,3]}
      |none=>none
    |2=>some {σ:=Nat×SV,pre:=λ⟨j,y⟩=>j<=S.length+1,mem:=λ⟨j,y⟩=>I9 y (zL S j),t:=λ⟨j,y⟩=>[(5, .sv (.int .i64 (j:Int))),(3,z_ y)],h:=λ_=>[],more:=0,μ:=λ⟨j,y⟩=>S.length+1- j,keep:=[1]}
    | _ =>match jT t 5 with
      | some k=>match Xo t 6 with
        |some r=>some {σ:=Nat,pre:=λi=>i<=S.length,t:=λi=>[(7, .sv (.int .i64 (i:Int)))],h:=λi=>[(r, .row 3 0 (qa qi (jt (wk S (zL S k.toNat)) (zL S k.toNat) i)))],more:=0,μ:=λi=>S.length- i,keep:=[1,3,5,6]}
        |none=>none
      |none=>none}
def WJ:Ct:=ZH (AT×SV×List Int) (λ⟨a,y,R⟩=>[a.av,z_ y]) (λ⟨a,y,R⟩=>R.length<1000/\a.brs.length<=30/\∀b∈a.brs,0<=b/\b<R.length) (λ⟨a,y,R⟩=>arM a y R) λ⟨a,y,R⟩=> .sv (.int .i64 (zu R a.brs:Nat))
def xP(R B:List Int) (i m:Nat):Bool:=decide (0<=qg R (B.getD i 0)/\(qg R (B.getD m 0)<0\/qg R (B.getD i 0)<qg R (B.getD m 0)))
def zki:WJ.σ->WayF:=λ⟨a,y,R⟩=>{
  cut :=λr t _=>match r with
    | 6 =>match jT t 6 with
      | some i=>match jT t 5 with
        |some m=>some {σ:=Unit,t:=λ_=>[(52, .sv (.bool (xP R a.brs i.toNat m.toNat)))],h:=λ_=>[],more:=0,μ:=λ_=>0,keep:=[1,2,5,6]}
        |none=>none
      |none=>none
    |_=>none
  ann:=λ_ _ _=>some {σ:=Nat×Nat,pre:=λ⟨i,m⟩=>i<=a.brs.length/\m<=i/\(m=i->m=0)/\yi R a.brs (a.brs.length- i) i m=zu R a.brs,t:=λ⟨i,m⟩=>[(6, .sv (.int .i64 (i:Int))),(5, .sv (.int .i64 (m:Int)))],h:=λ_=>[],more:=0,μ:=λ⟨i,m⟩=>a.brs.length- i,keep:=[1,2]}}
abbrev U9:=List AT×SV×SV×List Int
def Nd:Ct where
 σ:=U9
 args:=λ⟨S,x,y,R⟩=>[kx x,z_ y]
 h:=λ_=>[]
 m:=1
 pre:=λ⟨S,x,y,R⟩=>qx S/\Kq S.length R
 mem:=λ⟨S,x,y,R⟩=>S6 S x y R
 r:=λ_=> .tsl 1
 h':=λ_=>[]
 m':=2
 g:=λ⟨S,x,y,R⟩=>I6 (wts S R)
def kO(S:List AT) (R:List Int) (k:Int) (i:Nat) (W:List Int):List Int:=wall S R (S.length- k.toNat) (k+1) (QE S R k (S.length- i) i W)
def ze8:U9->WayF:=λ⟨S,x,y,R⟩=>{
  pubE:=[86]
  ann :=λid t _=>match Xo t 5 with
    | some r=>match id with
      |0=>some {σ:=Nat×List Int,pre:=λ⟨k,W⟩=>k<=S.length+1/\WB S.length W/\wall S R (S.length+1- k) k W=wts S R,t:=λ⟨k,W⟩=>[(6, .sv (.int .i64 (k:Int)))],h:=λ⟨k,W⟩=>[(r, .row 3 0 (qa qi W))],more:=0,μ:=λ⟨k,W⟩=>S.length+1- k,keep:=[1,2,5]}
      | 2=>match jT t 6 with
        |some k=>some {σ:=Nat×List Int,pre:=λ⟨i,W⟩=>i<=S.length/\WB S.length W/\kO S R k i W=wts S R,t:=λ⟨i,W⟩=>[(7, .sv (.int .i64 (i:Int)))],h:=λ⟨i,W⟩=>[(r, .row 3 0 (qa qi W))],more:=0,μ:=λ⟨i,W⟩=>S.length- i,keep:=[1,2,5,6]}
        |none=>none
      | _ =>match jT t 6 with
        | some k=>match jT t 7 with
          |some i=>some {σ:=Nat×List Int,pre:=λ⟨m,W⟩=>m<=(qe S i).fs.length/\WB S.length W/\kO S R k (i.toNat+1) (wfs W i.toNat ((qe S i).fs.drop m))=wts S R,t:=λ⟨m,W⟩=>[(9, .sv (.int .i64 (m:Int)))],h:=λ⟨m,W⟩=>[(r, .row 3 0 (qa qi W))],more:=0,μ:=λ⟨m,W⟩=>(qe S i).fs.length- m,keep:=[1,2,5,6,7,8]}
          |none=>none
        |none=>none
    |none=>none
  cut :=λi t _=>match i with
    | 13=>match Xo t 5 with
      | some r=>match jT t 6 with
        | some k=>match jT t 7 with
          |some i=>some {σ:=List Int,pre:=λW=>WB S.length W/\kO S R k (i.toNat+1) (wfs W i.toNat (qe S i).fs)=wts S R,t:=λW=>[],h:=λW=>[(r, .row 3 0 (qa qi W))],more:=0,μ:=λ_=>0,keep:=[1,2,5,6,7,8]}
          |none=>none
        |none=>none
      |none=>none
    |_=>none}
def zB(n:Nat):IV:=mkS (List.replicate n 0)
def XZ(S:List AT) (t:Int):Int:=qg (wts S (qB S)) t
def yn(S:List AT) (t:Int) (v:GV):Prop:=PV.fitz S t v.pv/\v.pv.sn/\(v.pv.wt:Int)<=30*XZ S t/\((qe S t).k=12\/(qe S t).k=13->v=zV)
abbrev ZF:=List AT×SV×Int×SV
def Jr:CtR:=uQ ZF (λ⟨S,x,t,y⟩=>[kx x, .sv (.int .i64 t),z_ y]) (λ⟨S,x,t,y⟩=>qx S/\zT S t=true) (λ⟨S,x,t,y⟩=>S6 S x y (qB S)) GV (λ⟨S,x,t,y⟩ v=>yn S t v) (λ_ v=>vM v) λ_ v=>v.av
def Kn:ZF->Nat:=λ⟨S,x,t,y⟩=>(qg (qB S) t).toNat
def uS(S:List AT) (t:Int) (j:Nat) (l:List PV):Prop:=l.length=j/\j<=(qe S t).fs.length/\(∀(i:Nat) (h1:i<l.length) (h2:i<(qe S t).fs.length),PV.fitz S ((qe S t).fs[i]).ty l[i])/\(∀v∈l,v.sn)/\(PV.wts l:Int)<=30*jh (wts S (qB S)) ((qe S t).fs.take j)
def zkk:ZF->WayF:=λ⟨S,x,t,y⟩=>{
 pubE:=[49,65]
 spl:=λi=>match i with
  |10=>some 10
  |14=>some 8
  |_=>none
 flo:=λi=>match i with
  |10=>some (10,[0,1])
  |14=>some (8,[0])
  |_=>none
 ann:=λ_ tt _=>match bE tt 8 with
  |some vb=>some {σ:=Nat×List GV,pre:=λ⟨j,fs⟩=>uS S t j (GV.pvs fs),mem:=λ⟨j,fs⟩=>wV fs,t:=λ⟨j,fs⟩=>[(9, .sv (.int .i64 (j:Int)))],h:=λ⟨j,fs⟩=>[(vb,S3 40 fs.length 41),(40, .row 36 0 (qa GV.cells fs))],more:=60,μ:=λ⟨j,fs⟩=>(qe S t).fs.length- j,keep:=[2,3,6,7,8]}
  |none=>none}
def Nv:CtR:=uQ (List AT×SV×Int) (λ⟨S,x,t⟩=>[kx x, .sv (.int .i64 t)]) (λ⟨S,x,t⟩=>qx S) (λ⟨S,x,t⟩=>sM S x) (GV×Bool) (λ⟨S,x,t⟩ ⟨v,b⟩=>b=zT S t/\v.pv.sn/\v.pv.wt<=60000/\(b=true->PV.fitz S t v.pv)/\(b=false\/(qe S t).k=12\/(qe S t).k=13->v=zV)) (λ_ ⟨v,b⟩=>vM v) λ_ ⟨v,b⟩=> .tup [v.av, .sv (.bool b)]
def zh8:CtR:=uQ (List AT×SV×Int) (λ⟨S,x,t⟩=>[kx x, .sv (.int .i64 t)]) (λ⟨S,x,t⟩=>qx S/\(qe S t).k=12) (λ⟨S,x,t⟩=>sM S x) Bool (λ⟨S,x,t⟩ b=>b=zT S t) (λ_ _=>vM zV) λ_ b=> .tup [.agg [.int .u64 0, .str [], .nsl, .nsl, .int .i64 0], .sv (.bool b)]
section
variable (f:Int) (e:SV) (b:List AT) (t:SV) (c:List Int) (y:IV) (u:Option Addr) (v z:Nat) (w:Int) (h:Option Addr) (i j:Nat) (k:Bool) (l:IV) (m:Int) (n:Option Addr) (o p:Nat) (q:Option Addr) (r s:Nat) (g:Int) (a:Nat×Int) (A:Int) (K:Prop) (S:Nat×Int)
 abbrev Mb:=(0<=f/\f<(↑e.2.1:Int))/\e.1≠noA/\K
 def Ya:=e.1=e.1/\e.2.1=e.2.1/\e.2.2=e.2.2/\K
 def V_:=f=f/\y=y/\u=u/\v=v/\z=z/\w=w/\h=h/\i=i/\j=j/\k=k/\l=l/\m=m/\n=n/\o=o/\p=p/\q=q/\r=r/\s=s/\(∀d,True/\qd b e d/\qc qi t c d->True/\qd b e d/\qc qi t c d)/\K
 def L9:=a.1<=length (AT.brs (qe b f))/\((-1:Int)<=a.2/\a.2<=100)/\kZ c (drop a.1 (AT.brs (qe b f))) a.2=kZ c (AT.brs (qe b f)) (-1:Int)
 def Bp:=(∀d,True/\qd b e d/\qc qi t c d->q37 d (adr t.1 (toNat f*1)) [int i64 w])
 abbrev Ma:=Jb ((↑a.1:Int)+1)
 def Bq:=(L9 f b c a)/\length (AT.brs (qe b f))- a.1<length (AT.brs (qe b f))- S.1/\True
 def Em:=Ma a/\∃(d:Nat×Int),(↑d.1:Int)=(↑a.1:Int)+1/\Ya e (d.2=f/\V_ w t b e c y u v z m h i j k l g n o p q r s (Bq A b c d a))
 def El:=Ma a/\∃(d:Nat×Int),(↑d.1:Int)=(↑a.1:Int)+1/\Ya e (d.2=a.2/\V_ f t b e c y u v z w h i j k l m n o p q r s (Bq g b c d a))
 def nJ:=Ji (a.2<0) (Em f e b t c y u v z w h i j k l m n o p q r s g a A) (Ji (f<a.2) (Em f e b t c y u v z w h i j k l m n o p q r s g a A) (El w e b t c y u v z m h i j k l g n o p q r s A a))
 def nI:=(0<=(↑a.1:Int)/\(↑a.1:Int)<(↑v:Int))/\u≠noA/\∃(d:Int),(∀B,True/\qd b e B/\qc qi t c B->q37 B (adr u (toNat (↑a.1:Int)*1)) [int i64 d])/\Mb d t (∃(x:Int),Bp d e b t c x/\Ji (0<=x) (nJ x t b e c y h z i f n j o k l w q p r u v s m a g) (El f t b e c y h z i w n j o k l m q p r u v s g a))
 def Bo:=Jb (a.2+1)/\v7 c (qe b f)=a.2+1/\True
 def ae:=Ji (a.2<0) (v7 c (qe b f)= -1/\True) (Bo f b c a)
 def nH:=Ji ((↑a.1:Int)<(↑v:Int)) (nI f e b t c y u v z w h i j k l m n o p q r s g a) (ae g b c a)
 def nG:=(∃(d:Nat×Int),(↑d.1:Int)=0/\Ya e (d.2= -1/\V_ f t b e c y u v z w h i j k l m n o p q r s ((L9 g b c d)/\True)))/\∀(x:Nat×Int),L9 g b c x->nH f t b e c y q r v w u z i k l m h j o n p s g x
 def L_:=a.1<=length (AT.fs (qe b f))/\(0<=a.2/\a.2<=100)/\kM c (drop a.1 (AT.fs (qe b f))) a.2=kM c (AT.fs (qe b f)) 0
 abbrev ab:=Ma a/\∃(d:Nat×Int),(d.2=if f>a.2 then f else a.2)/\Ya e ((↑d.1:Int)=(↑a.1:Int)+1/\V_ w t b e c y u v z m h i j k l g n o p q r s ((L_ A b c d)/\length (AT.fs (qe b A))- d.1<length (AT.fs (qe b A))- a.1/\True))
 def nM:=(0<=(↑a.1:Int)/\(↑a.1:Int)<(↑v:Int))/\u≠noA/\∃(d:Int),(∀B,True/\qd b e B/\qc qi t c B->q37 B (Addr.add (adr u (toNat (↑a.1:Int)*9)) 2) [int i64 d])/\Mb d t (∃(x:Int),Bp d e b t c x/\Ji (x<0) (v7 c (qe b f)= -1/\True) (ab x t b e c y h z i w n j o k l m u v p q r s g a f))
 def nL:=Ji ((↑a.1:Int)<(↑v:Int)) (nM f e b t c y u v z w h i j k l m n o p q r s g a) (Bo f b c a)
 def nK:=(∃(d:Nat×Int),d.2=0/\Ya e ((↑d.1:Int)=0/\V_ f t b e c y u v z w h i j k l m n o p q r s ((L_ g b c d)/\True)))/\∀(x:Nat×Int),L_ g b c x->nL g t b e c y n o v f u z i k l w h j p q r s m x
 def nF:=Mb f e (∃(d:Int),∃B,∃x,∃(L:Nat),∃(M:Nat),∃(N:Int),∃O,∃(Q:Nat),∃(i8:Nat),∃(R:Bool),∃C,∃(D:Int),∃E,∃(F:Nat),∃(G:Nat),∃H,∃(i16:Nat),∃(I:Nat),(∀J,True/\qd b e J/\qc qi t c J->q37 J (adr e.1 (toNat f*10)) [int i64 d,string B,slice x L M,int i64 N,slice O Q i8,bool R,string C,int i64 D,slice E F G,slice H i16 I])/\Ji (d=14) (nG d t b e c B x L M N O Q i8 R C D E F G H i16 I f) (nK d t b e c B x L M N O Q i8 R C D E F G H i16 I f))
end
def zfa(S:List AT) (x:SV) (t:Int) (y:SV) (R:List Int):qk3 P (qfa []) Tryz.f75 Ny (zkn) ⟨S,x,t,y,R⟩=(qx S/\Kq (length S) R/\0<=t/\t<(↑(length S):Int)->(∃(p:Pub),True/\qd S x p/\qc qi y R p)->nF t x S y R):=by kernel_rfl
def zjd:=λS x t y R=>Eq.trans (zfa S x t y R) (by delta Ji Jb Jt Jf Mb Ya V_ L9 Bp Ma Bq Em El nJ nI Bo ae nH nG L_ ab nM nL nK nF;exact rfl)
section
variable (b:SV) (a:List AT) (c g h i:Nat) (d:Nat×Option Addr×Nat×Nat) (m:Nat) (u:Nat->Option Obj) (v:Option Addr) (t:Nat) (q:Prop) (z:Int)
 abbrev kb:=(↑b.2.1:Int)
 def Qv:=b.1=b.1/\b.2.1=b.2.1/\b.2.2=b.2.2/\q
 abbrev Qw:=jt (List.map kj a) (List.replicate (length a) 0) c
 def Me:=(∀e,True/\qd a b e->True/\qd a b e)
 abbrev Mg:=(↑c:Int)<(↑(toNat (kb b)):Int)
 def Br:=(∀e,True/\qd a b e->q37 e (Addr.add (adr b.1 (toNat (↑c:Int)*10)) 0) [int i64 z])
 abbrev UK:=(0:Nat)+toNat (↑c:Int)*nat_lit 1
 abbrev UI:=Jb ((↑c:Int)+1)
 def UJ:=c<=length a/\length a- c<length a- g/\True
 def af:=(0<=(↑c:Int)/\Mg b c)/\(0:Nat)+toNat (↑c:Int)*nat_lit 1+length [int i64 0]<=length (spl (qa qi (Qw a c)) (UK c) [int i64 (-1:Int)])/\UI c/\∃(e:Nat),toNat (kb b)=toNat (kb b)/\(↑e:Int)=(↑c:Int)+1/\Qv b (qa qi (Qw a e)=spl (spl (qa qi (Qw a c)) (UK c) [int i64 (-1:Int)]) (UK c) [int i64 0]/\Me b a/\UJ a e c)
 def En:=UI c/\∃(e:Nat),toNat (kb b)=toNat (kb b)/\(↑e:Int)=(↑c:Int)+1/\Qv b (qa qi (Qw a e)=spl (qa qi (Qw a c)) (UK c) [int i64 (-1:Int)]/\Me b a/\UJ a e c)
 def nU:=(0<=(↑c:Int)/\(↑c:Int)<(kb b))/\b.1≠noA/\∃(e:Int),Br b a c e/\((!decide (e=14))=true->af b a c)/\((!decide (e=14))=false->En b a c)
 def nS:=(0<=(↑c:Int)/\Mg b c)/\(0:Nat)+toNat (↑c:Int)*nat_lit 1+length [int i64 (-1:Int)]<=length (qa qi (Qw a c))/\(0<=(↑c:Int)/\(↑c:Int)<(kb b))/\b.1≠noA/\∃(e:Int),Br b a c e/\((!decide (e=9))=true->nU b a c)/\((!decide (e=9))=false->En b a c)
 def ZT:=(True/\qd a b u)/\True/\toNat (kb b)<=c / nat_lit 1/\qgs u (some (Addr.mk g h none)) (take (toNat (kb b)*nat_lit 1) (qa qi (Qw a i)))
 def uz:=(ZT b a c g h i u)/\qc qi d.2 (zL a d.1) u
 abbrev Mf:=(↑d.2.2.1:Int)
 def UH:=d.2.1=d.2.1/\d.2.2.1=d.2.2.1/\d.2.2.2=d.2.2.2/\q
 def Md:=(↑d.1:Int)=(↑d.1:Int)/\(0:Nat)+d.2.2.1=0+d.2.2.1/\q
 abbrev Zu:=jt (wk a (zL a (toNat (↑d.1:Int)))) (zL a (toNat (↑d.1:Int))) c
 def Mh:=(∀e,uz b a c g h i d e->uz b a c g h i d e)
 def ah:=UI c/\∃(e:Nat),UH d ((↑e:Int)=(↑c:Int)+1/\Md d (Qv b (qa qi (Zu a e d)=qa qi (Zu a c d)/\Mh b a g h i m d/\UJ a e c)))
 def nT:=(0<=(↑c:Int)/\(↑c:Int)<(Mf d))/\d.2.1≠noA/\∃(e:Int),(∀k,uz b a g h i m d k->q37 k (adr d.2.1 (toNat (↑c:Int)*1)) [int i64 e])/\Ji (0<=e) (ah b a c g h i d m) (∃(f:ML),f.2.1.1=b.1/\f.2.1.2.1=b.2.1/\f.2.1.2.2=b.2.2/\f.2.2.1=(↑c:Int)/\f.2.2.2.1.1=d.2.1/\f.2.2.2.1.2.1=d.2.2.1/\f.2.2.2.1.2.2=d.2.2.2/\(qx f.1/\Kq (length f.1) f.2.2.2.2/\0<=f.2.2.1/\f.2.2.1<(↑(length f.1):Int))/\(∀x,uz b a g h i m d x->qd f.1 f.2.1 x/\qc qi f.2.2.2.1 f.2.2.2.2 x)/\(0<=(↑c:Int)/\(↑c:Int)<(↑((0:Nat)+d.2.2.1):Int))/\nat_lit 0+toNat (↑c:Int)*nat_lit 1+length [int i64 (v7 f.2.2.2.2 (qe f.1 f.2.2.1))]<=length (qa qi (Zu a c d))/\UI c/\∃(y:Nat),UH d ((↑y:Int)=(↑c:Int)+1/\Md d (Qv b (qa qi (Zu a y d)=spl (qa qi (Zu a c d)) (nat_lit 0+toNat (↑c:Int)*nat_lit 1) [int i64 (v7 f.2.2.2.2 (qe f.1 f.2.2.1))]/\Mh b a g h i m d/\UJ a y c))))
 def Mc:=(0:Nat)+d.2.2.1<=c/\qgs u v (take (((0:Nat)+d.2.2.1)*nat_lit 1) (qa qi (Zu a g d)))
 def ag:=Jb ((↑d.1:Int)+1)/\∃(e:Nat×Option Addr×Nat×Nat),e.2.1=v/\e.2.2.1=0+d.2.2.1/\e.2.2.2=c/\(↑e.1:Int)=(↑d.1:Int)+1/\Qv b ((∀k,(uz b a g h i m d k)/\Mc a c t d k v->ZT b a g h i m k)/\(∀j,(uz b a g h i m d j)/\Mc a c t d j v->qc qi e.2 (zL a e.1) j)/\e.1<=length a+1/\length a+1- e.1<length a+1- d.1/\True)
 def nR:=Ji ((↑c:Int)<(Mf d)) (nT b a c g h i d m) (∀(i8 B o:Nat) (l:Option Addr) (p n:Nat),(∃r,(uz b a g h i m d r)/\Mc a n c d r l)->ag b a n g h i d m l c)
 def nQ:=Ji ((↑d.1:Int)<=(Mf d)) (∃e,length e=d.2.2.1*1/\(∀k,uz b a c g h i d k->qgs k d.2.1 e)/\qkd e/\((0:Nat)+d.2.2.1)*8<=140737488355328/\(∃(j:Nat),UH d ((↑j:Int)=0/\Md d (Qv b (qa qi (Zu a j d)=[]++e/\Mh b a c g h i d/\j<=length a/\True))))/\∀(f:Nat),f<=length a->nR b a f c g h d i) (∃(A:Unit),UH d (Pl d.2.1/\True/\(∀s,uz b a c g h i d s->qc qi (d.2.1,d.2.2.1,d.2.2.2) (qB a) s)/\True))
 def nP:=(∃(e:Nat×Option Addr×Nat×Nat),e.2.1=some (Addr.mk c g none)/\e.2.2.1=toNat (kb b)/\e.2.2.2=h / nat_lit 1/\(↑e.1:Int)=0/\Qv b ((∀k,ZT b a h c g i k->ZT b a h c g i k)/\(∀j,ZT b a h c g i j->qc qi e.2 (zL a e.1) j)/\e.1<=length a+1/\True))/\∀(w:Nat×Option Addr×Nat×Nat),w.1<=length a+1->(∃f,uz b a h c g i w f)->nQ b a h c g i w
 def nO:=Ji (Mg b c) (nS b a c) (∀(o l p:Nat),(∃n,ZT b a p o l c n)->nP b a o l p c)
 def nN:=(0<=(kb b)/\(kb b)<=(kb b)/\(↑(8:Nat):Int)*(kb b)<=140737488355328/\(kb b)<140737488355328)/\(∃(e:Nat),toNat (kb b)=toNat (kb b)/\(↑e:Int)=0/\Qv b (qa qi (Qw a e)=q6y [int i64 0] (toNat (kb b))/\Me b a/\e<=length a/\True))/\∀(j:Nat),j<=length a->nO b a j
end
def zfb(S:List AT) (x:SV):qk3 P (qfa [(75,Ny)]) Tryz.f35 z76 (zko) ⟨S,x⟩=(qx S->(∃(p:Pub),True/\qd S x p)->nN x S):=by kernel_rfl
def zjf:=λS x=>Eq.trans (zfb S x) (by delta Ji Jb Jt Jf kb Qv Qw Me Mg Br UK UI UJ af En nU nS ZT uz Mf UH Md Zu Mh ah nT Mc ag nR nQ nP nO nN;exact rfl)
section
variable (d:SV) (a:AT) (e:List Int) (b:Nat×Nat) (c:Int) (j:Prop) (i p:Int) (n:Nat×Nat)
 abbrev Zv:=d.1=d.1/\d.2.1=d.2.1/\d.2.2=d.2.2/\j
 def KU:=AT.k a=AT.k a/\AT.nm a=AT.nm a/\(AT.al a).1=(AT.al a).1/\(AT.al a).2.1=(AT.al a).2.1/\(AT.al a).2.2=(AT.al a).2.2/\AT.it a=AT.it a/\(AT.sy a).1=(AT.sy a).1/\(AT.sy a).2.1=(AT.sy a).2.1/\(AT.sy a).2.2=(AT.sy a).2.2/\AT.hd a=AT.hd a/\AT.df a=AT.df a/\AT.sz a=AT.sz a/\(AT.f a).1=(AT.f a).1/\(AT.f a).2.1=(AT.f a).2.1/\(AT.f a).2.2=(AT.f a).2.2/\(AT.br a).1=(AT.br a).1/\(AT.br a).2.1=(AT.br a).2.1/\(AT.br a).2.2=(AT.br a).2.2/\(∀g,True/\AT.ok a g/\qc qi d e g->True/\AT.ok a g/\qc qi d e g)/\j
 def Mi:=b.1<=length (AT.brs a)/\b.2<=b.1/\(b.2=b.1->b.2=0)/\yi e (AT.brs a) (length (AT.brs a)- b.1) b.1 b.2=zu e (AT.brs a)
 abbrev Yb:=(↑(AT.br a).2.1:Int)
 def Bt:=(∀g,True/\AT.ok a g/\qc qi d e g->q37 g (adr (AT.br a).1 (toNat (↑b.1:Int)*1)) [int i64 c])
 def UM:=(0<=c/\c<(↑d.2.1:Int))/\d.1≠noA/\j
 def UL:=(∀g,True/\AT.ok a g/\qc qi d e g->q37 g (adr d.1 (toNat c*1)) [int i64 i])
 def jN:=decide (0<=c)=decide (0<=c)
 def Bu:=(∀g,True/\AT.ok a g/\qc qi d e g->q37 g (adr (AT.br a).1 (toNat (↑b.2:Int)*1)) [int i64 c])
 def yS:=decide (c<0)=decide (c<0)
 def J7:=yS c/\yS c/\yS c/\yS c/\j
 def Mj:=(Jf (0<=c)->∃(g:Unit),Zv d ((↑b.2:Int)=(↑b.2:Int)/\xP e (AT.brs a) (toNat (↑b.1:Int)) (toNat (↑b.2:Int))=false/\(↑b.1:Int)=(↑b.1:Int)/\KU d a e (True/\True)))
 def Eo:=(Jt (0<=c)->∃(g:Unit),Zv d ((↑b.2:Int)=(↑b.2:Int)/\xP e (AT.brs a) (toNat (↑b.1:Int)) (toNat (↑b.2:Int))=true/\(↑b.1:Int)=(↑b.1:Int)/\KU d a e (True/\True)))/\Mj d a e b c
 def Bs:=(Jt (0<=c)->∃(g:Unit),Zv d ((↑b.2:Int)=(↑b.2:Int)/\False))/\Mj d a e b c
 def n7:=J7 c (J7 c (J7 c (J7 c (jN i/\Ji (c<0) (Eo d a e b i) (Bs d a e b i)))))
 def an:=(Jt (0<=c)->∃(g:Unit),Zv d ((↑b.2:Int)=(↑b.2:Int)/\xP e (AT.brs a) (toNat (↑b.1:Int)) (toNat (↑b.2:Int))=decide (i<p)/\(↑b.1:Int)=(↑b.1:Int)/\KU d a e (True/\True)))/\Mj d a e b c
 def nZ:=J7 c ((0<=(↑b.1:Int)/\(↑b.1:Int)<(Yb a))/\(AT.br a).1≠noA/\yS c/\∃(g:Int),Bt d a e b g/\yS c/\UM d g (yS c/\∃(h:Int),UL d a e g h/\yS c/\J7 c ((0<=(↑b.2:Int)/\(↑b.2:Int)<(Yb a))/\(AT.br a).1≠noA/\yS c/\∃(l:Int),Bu d a e b l/\yS c/\UM d l (yS c/\∃(m:Int),UL d a e l m/\yS c/\jN i/\Ji (c<0) (Eo d a e b i) (an d a e b i h m)))))
 def nY:=jN c/\jN c/\jN c/\jN c/\(0<=(↑b.2:Int)/\(↑b.2:Int)<(Yb a))/\(AT.br a).1≠noA/\jN c/\∃(g:Int),Bu d a e b g/\jN c/\UM d g (jN c/\∃(h:Int),UL d a e g h/\jN c/\jN c/\Ji (h<0) (n7 d a e b h c) (nZ d a e b h c))
 def ai:=jN c/\jN c/\jN c/\jN c/\jN c/\jN c/\jN c/\jN c/\jN c/\jN c/\Bs d a e b c
 abbrev Bw:=Jb ((↑b.1:Int)+1)
 def Bv:=(↑b.1:Int)=(↑n.1:Int)+1/\KU d a e ((Mi a e b)/\length (AT.brs a)- b.1<length (AT.brs a)- n.1/\True)
 def aj:=Bw b/\∃(g:Nat×Nat),Zv d ((↑g.2:Int)=(↑b.1:Int)/\Bv d a e g b)
 def ak:=Bw b/\∃(g:Nat×Nat),Zv d ((↑g.2:Int)=(↑b.2:Int)/\Bv d a e g b)
 def n9:=(xP e (AT.brs a) (toNat (↑b.1:Int)) (toNat (↑b.2:Int))=true->aj d a e b)/\(xP e (AT.brs a) (toNat (↑b.1:Int)) (toNat (↑b.2:Int))=false->ak d a e b)
 def nX:=((0<=(↑b.1:Int)/\(↑b.1:Int)<(Yb a))/\(AT.br a).1≠noA/\∃(g:Int),Bt d a e b g/\UM d g (∃(h:Int),UL d a e g h/\Ji (0<=h) (nY d a e b h) (ai d a e b h)))/\∀(o:Unit),True->n9 d a e b
 def nW:=Ji ((↑b.1:Int)<(Yb a)) (nX d a e b) ((↑(zu e (AT.brs a)):Int)=(↑b.2:Int)/\True)
 def nV:=(∃(g:Nat×Nat),Zv d ((↑g.2:Int)=0/\(↑g.1:Int)=0/\KU d a e ((Mi a e g)/\True)))/\∀(h:Nat×Nat),Mi a e h->nW d a e h
end
def zeq(a:AT) (y:SV) (R:List Int):qk3 P (qfa []) Tryz.f76 WJ (zki) ⟨a,y,R⟩=((length R<1000/\length (AT.brs a)<=30/\∀(b:Int),b∈AT.brs a->0<=b/\b<(↑(length R):Int))->(∃(p:Pub),True/\AT.ok a p/\qc qi y R p)->nV y a R):=by kernel_rfl
def zhg:=λa y R=>Eq.trans (zeq a y R) (by delta Ji Jb Jt Jf Zv KU Mi Yb Bt UM UL jN Bu yS J7 Mj Eo Bs n7 an nZ nY ai Bw Bv aj ak n9 nX nW nV;exact rfl)
section
variable {R:List Int}
def yG{y:SV} {p:Pub} (h:qc qi y R p) {k:Nat} (hk:k<R.length):y.1≠noA/\q37 p (adr y.1 (k*1)) [.int .i64 (qg R (k:Int))]:=by rw[wy hk];exact z17 z24 (by decide) h hk
variable {S:List AT}
def kz{i:Nat} (hi:i<S.length):qe S (i:Int)=S[i]:=by unfold qe;rw[Int.toNat_natCast,List.getElem?_eq_getElem hi];rfl
def WO{a:AT} {p:Pub} (h:a.ok p) {j:Nat} (hj:j<a.fs.length):q37 p ((adr a.f.1 (j*9)).add 2) [.int .i64 a.fs[j].ty]:=λi v hi=>by
 cases i with
 |zero=>have:=(wB h hj).2 2 v hi;rw[Addr.add_add];exact this
 |succ i=>simp at hi
def zh0{R B:List Int} {j:Nat} (hj:j<B.length) (m:Int):kZ R (B.drop j) m=kZ R (B.drop (j+1)) (if 0<=qg R B[j]/\(m<0\/qg R B[j]<m)then qg R B[j]else m):=by rw[List.drop_eq_getElem_cons hj,kZ]
def ziw{B:List AF} {j:Nat} (hj:j<B.length) (m:Int):kM R (B.drop j) m=if qg R B[j].ty<0 then -1 else kM R (B.drop (j+1)) (if m<qg R B[j].ty then qg R B[j].ty else m):=by rw[List.drop_eq_getElem_cons hj,kM]
def zje:q4p P 75 Ny:=by
 refine qF (qcn qjr) (W:=zkn) Tryz.func75 λ⟨S,(x:SV),(t:Int),(y:SV),R⟩=>(zjd S x t y R).mpr ?_;rintro⟨hS,⟨hRl,hR⟩,ht0,ht1⟩ ⟨p,_,hx,hy⟩;obtain⟨i,rfl⟩:=Int.eq_ofNat_of_zero_le ht0;have hi:i<S.length:=by omega
 have sl:x.2.1=S.length:=hx.1.1;have yl:y.2.1=R.length:=hy.1;have hat:=λq (hq:qd S x q/\qc qi y R q)=>wC hq.1 hi;have hao:=λq (hq:qd S x q/\qc qi y R q)=>hq.1.2 S[i] (List.getElem_mem hi);have hgd:=hS.2 S[i] (List.getElem_mem hi);simp only[qH,exists_const,forall_const,Int.toNat_natCast,sl,yl,kz hi];have hpp:qd S x p/\qc qi y R p:=⟨hx,hy⟩;have h60:=hS.1;obtain⟨_,_,fl,bl⟩:=yE (hao p hpp);have hb30:=hgd.2.2.2.2.2.2.2.2.1;have hf30:=hgd.2.2.2.2.2.2.2.1;have hbr:=hgd.2.2.1;have hfr:=λf (hf:f∈S[i].fs)=>(hgd.2.2.2.2.1 f hf).1;clear hgd;refine⟨⟨by omega,by omega⟩,(hat p hpp).1,S[i].k,S[i].nm,S[i].al.1,S[i].al.2.1,S[i].al.2.2,S[i].it,S[i].sy.1,S[i].sy.2.1,S[i].sy.2.2,S[i].hd,S[i].df,S[i].sz,S[i].f.1,S[i].f.2.1,S[i].f.2.2,S[i].br.1,S[i].br.2.1,S[i].br.2.2,λq hq=>(hat q hq).2,λhk=>⟨⟨⟨0, -1⟩,rfl,rfl,Nat.zero_le _,⟨by decide,by decide⟩,rfl⟩,?_⟩,λhk=>⟨⟨⟨0,0⟩,rfl,rfl,Nat.zero_le _,⟨by decide,by decide⟩,rfl⟩,?_⟩⟩
 ·rintro⟨j,m⟩ ⟨hj,⟨hm1,hm2⟩,hb⟩;simp only at hj hm1 hm2 hb⊢;refine⟨λhlt=> ?_,λhge=> ?_⟩
  ·have hjl:j<S[i].brs.length:=(by omega);have hd:=zh0 (R:=R) hjl m;have bin:=hbr _ (List.getElem_mem hjl);have bat:=λq hq=>z22 (hao q hq) hjl;rw[hb]at hd;generalize S[i].brs[j]=b at*;obtain⟨k,hk2,rfl⟩:=vj bin;have hkR:k<R.length:=(by omega);obtain⟨r1,r2⟩:=hR k bin;refine⟨⟨by omega,by omega⟩,(bat p hpp).1,(k:Int),λq hq=>(bat q hq).2,⟨by omega,by omega⟩,(yG hy hkR).1,qg R k,λq hq=>(by rw[Int.toNat_natCast];exact(yG hq.2 hkR).2),λh0=>⟨λh1=>⟨⟨by omega,by omega⟩,⟨j+1,qg R k⟩,by show((j+1:Nat):Int)=_;omega,rfl,⟨by show j+1<=_;omega,⟨r1,r2⟩,?_⟩,by show _- (j+1)<_;omega⟩,λh1=>⟨λh2=>⟨⟨by omega,by omega⟩,⟨j+1,qg R k⟩,by show((j+1:Nat):Int)=_;omega,rfl,⟨by show j+1<=_;omega,⟨r1,r2⟩,?_⟩,by show _- (j+1)<_;omega⟩,λh2=>⟨⟨by omega,by omega⟩,⟨j+1,m⟩,by show((j+1:Nat):Int)=_;omega,rfl,⟨by show j+1<=_;omega,⟨hm1,hm2⟩,?_⟩,by show _- (j+1)<_;omega⟩⟩⟩,λh0=>⟨⟨by omega,by omega⟩,⟨j+1,m⟩,by show((j+1:Nat):Int)=_;omega,rfl,⟨by show j+1<=_;omega,⟨hm1,hm2⟩,?_⟩,by show _- (j+1)<_;omega⟩⟩
   ·rw[if_pos ⟨h0, .inl h1⟩]at hd;exact hd.symm
   ·rw[if_pos ⟨h0, .inr h2⟩]at hd;exact hd.symm
   ·rw[if_neg (by omega)]at hd;exact hd.symm
   ·rw[if_neg (by omega)]at hd;exact hd.symm
  ·rw[List.drop_of_length_le (by omega),kZ]at hb;unfold v7;rw[if_pos hk,←hb];exact⟨λh=>by rw[if_pos h],λh=>⟨⟨by omega,by omega⟩,by rw[if_neg h]⟩⟩
 ·rintro⟨j,m⟩ ⟨hj,⟨hm1,hm2⟩,hb⟩;simp only at hj hm1 hm2 hb⊢;have er:v7 R S[i]=kM R S[i].fs 0:=by unfold v7;rw[if_neg hk]
  rw[er,←hb];refine⟨λhlt=> ?_,λhge=> ?_⟩
  ·have hjl:j<S[i].fs.length:=(by omega);have hd:=ziw (R:=R) hjl m;have bin:=hfr _ (List.getElem_mem hjl);have bat:=λq hq=>WO (hao q hq) hjl;have bne:=(wB (hao p hpp) hjl).1;rw[hd];generalize S[i].fs[j]=f at*;obtain⟨k,hk2,e⟩:=vj bin;rw[e]at hd bin⊢;have hkR:k<R.length:=(by omega);obtain⟨r1,r2⟩:=hR k bin;refine⟨⟨by omega,by omega⟩,bne,(k:Int),λq hq=>(by have:=bat q hq;rw[e]at this;exact this),⟨by omega,by omega⟩,(yG hy hkR).1,qg R k,λq hq=>(by rw[Int.toNat_natCast];exact(yG hq.2 hkR).2),λh0=>by rw[if_pos h0],λh0=>⟨⟨by omega,by omega⟩,⟨j+1,if m<qg R k then qg R k else m⟩,rfl,by show((j+1:Nat):Int)=_;omega,⟨by show j+1<=_;omega,⟨?_,?_⟩,?_⟩,by show _- (j+1)<_;omega⟩⟩
   ·show 0<=if m<qg R k then qg R k else m;split<;>omega
   ·show(if m<qg R k then qg R k else m)<=100;split<;>omega
   ·rw[if_neg h0]
  ·rw[List.drop_of_length_le (by omega),kM];exact⟨⟨by omega,by omega⟩,rfl⟩
def G2{A B:List Int} (h:A.length=B.length) (i:Nat):(jt A B i).length=B.length:=by unfold jt;simp;omega
def zyn{α:Type} (X:List α) (b v:α) (Y:List α):(X++b::Y).set X.length v=X++v::Y:=by
 induction X with
 |nil=>rfl
 |cons a X ih=>simp
def zxp{A B:List Int} (h:A.length=B.length) {i:Nat} (hi:i<B.length):(jt A B i).set i (qg A i)=jt A B (i+1):=by
 unfold jt;have hA:i<A.length:=by omega
 have e:(A.take i).length=i:=by simp;omega
 have:=zyn (A.take i) B[i] A[i] (B.drop (i+1));rw[e]at this;rw[wy hA,List.drop_eq_getElem_cons hi,this,List.take_succ_eq_append_getElem hA,List.append_assoc];rfl
def zp9{A B:List Int} (h:A.length=B.length) {i:Nat} (hi:i<B.length) (e:qg A i=qg B i):jt A B i=jt A B (i+1):=by
 unfold jt;have hA:i<A.length:=by omega
 rw[wy hA,wy hi]at e;rw[List.drop_eq_getElem_cons hi,←e,List.take_succ_eq_append_getElem hA,List.append_assoc];rfl
def zdg(A B:List Int):jt A B 0=B:=by unfold jt;simp
def ziv{A B:List Int} (h:A.length=B.length) {i:Nat} (hi:B.length<=i):jt A B i=A:=by unfold jt;rw[List.take_of_length_le (by omega),List.drop_of_length_le (by omega),List.append_nil]
def Jn(W:List Int) (i:Nat) (hi:i<W.length) (v:Int):qa qi (W.set i v)=spl (qa qi W) (0+i*1) [.int .i64 v]:=Nk z24 W i hi v
def G3{A B:List Int} (h:A.length=B.length) {i:Nat} (hi:i<B.length) {v:Int} (e:qg A i=v):qa qi (jt A B (i+1))=spl (qa qi (jt A B i)) (0+i*1) [.int .i64 v]:=by rw[←zxp h hi,e];exact Jn _ _ (by rw[G2 h];exact hi) _
def NR:∀n:Nat,q6y [.int .i64 0] n=qa qi (List.replicate n 0)
 |0=>rfl
 |n+1=>by rw[q6y,NR n];rfl
def zjj{K:Int} (h:yh S R K) (hK:K<=100):Kq S.length R:=⟨h.1,λt ht=>by obtain⟨j,hj,rfl⟩:=vj ht;have:=(h.2 j hj).1;omega⟩
end
section
variable (b h:SV) (c:List AT) (e:List Int) (a i:Nat×List Int) (O:Int) (T:IV) (Q:Option Addr) (F p:Nat) (m:Int) (r:Option Addr) (q s:Nat) (t:Bool) (u:IV) (v:Int) (w:Option Addr) (x y:Nat) (j:Option Addr) (l n:Nat) (E:List Int) (A:Nat×List Int) (x26:Prop) (S:Nat->Option Obj)
 abbrev xD:=True/\qd c b S/\qc qi h e S
 abbrev ke:=(↑b.2.1:Int)
 def kc:=b.1=b.1/\b.2.1=b.2.1/\b.2.2=b.2.2/\x26
 def J8:=toNat (ke b)=toNat (ke b)
 def xC:=(∀d,xD b h c e d->xD b h c e d)
 def Ml:=a.1<=length c+1/\WB (length c) a.2/\wall c e (length c+1- a.1) (↑a.1:Int) a.2=wts c e
 def Ye:=J8 b/\(↑a.1:Int)=(↑a.1:Int)/\x26
 def UN:=a.1<=length c/\WB (length c) a.2/\kO c e (↑i.1:Int) a.1 a.2=wts c e
 abbrev UO:=Jb ((↑a.1:Int)+1)
 def UQ:=(↑a.1:Int)=(↑i.1:Int)+1
 def ar:=UO a/\∃(d:Nat×List Int),kc b (UQ d a/\Ye b i (kc h (qa qi d.2=qa qi a.2/\xC h b c e/\(UN c e d i)/\length c- d.1<length c- a.1/\True)))
 def Yd:=(0<=(↑a.1:Int)/\(↑a.1:Int)<(↑(toNat (ke b)):Int))
 abbrev Zw:=(0:Nat)+toNat (↑a.1:Int)*nat_lit 1
 abbrev Yc:=spl (qa qi a.2) (Zw a) [int i64 1]
 abbrev UP:=if(1000000:Int)<O+m then 1000000 else O+m
 def Mm:=WB (length c) e/\kO c E (↑a.1:Int) (toNat (↑i.1:Int)+1) (wfs e (toNat (↑i.1:Int)) (AT.fs (qe c (↑i.1:Int))))=wts c E
 def ot:=Yd b a/\∃(d:Int),qgf (Yc a) (Zw a) [int i64 d]/\∃(g:AT×(Option Addr×Nat×Nat)×List Int),AT.k g.1=O/\AT.nm g.1=T/\(AT.al g.1).1=Q/\(AT.al g.1).2.1=F/\(AT.al g.1).2.2=p/\AT.it g.1=m/\(AT.sy g.1).1=r/\(AT.sy g.1).2.1=q/\(AT.sy g.1).2.2=s/\AT.hd g.1=t/\AT.df g.1=u/\AT.sz g.1=v/\(AT.f g.1).1=w/\(AT.f g.1).2.1=x/\(AT.f g.1).2.2=y/\(AT.br g.1).1=j/\(AT.br g.1).2.1=l/\(AT.br g.1).2.2=n/\g.2.1.1=b.1/\g.2.1.2.1=b.2.1/\g.2.1.2.2=b.2.2/\(length g.2.2<1000/\length (AT.brs g.1)<=30/\∀(o:Int),o∈AT.brs g.1->0<=o/\o<(↑(length g.2.2):Int))/\(∀B,xD h b c e B->AT.ok g.1 B/\qc qi g.2.1 g.2.2 B)/\(0<=(↑(zu g.2.2 (AT.brs g.1)):Int)/\(↑(zu g.2.2 (AT.brs g.1)):Int)<(↑l:Int))/\j≠noA/\∃(z:Int),(∀U,xD h b c e U->q37 U (adr j (toNat (↑(zu g.2.2 (AT.brs g.1)):Int)*1)) [int i64 z])/\(0<=z/\z<(↑(toNat (ke b)):Int))/\∃(R:Int),qgf (Yc a) ((0:Nat)+toNat z*nat_lit 1) [int i64 R]/\Jb (d+R)/\Yd b a/\(0:Nat)+toNat (↑a.1:Int)*nat_lit 1+length [int i64 (UP d R)]<=length (Yc a)/\∃(V:Int),qgf (Yc a) (Zw a) [int i64 V]/\AV.sv (int i64 V)=AV.sv (int i64 d)/\AV.sv (slice j l n)=AV.sv (slice j l n)/\∃(i8:List Int),kc b ((↑a.1:Int)=(↑a.1:Int)/\Ye b i (kc h (O=O/\T=T/\Q=Q/\F=F/\p=p/\m=m/\r=r/\q=q/\s=s/\t=t/\u=u/\v=v/\w=w/\x=x/\y=y/\j=j/\l=l/\n=n/\qa qi i8=spl (Yc a) (Zw a) [int i64 (UP d R)]/\xC h b c e/\(Mm c i8 i a e)/\True)))
 def Mk:=a.1<=length (AT.fs (qe c (↑i.1:Int)))/\WB (length c) a.2/\kO c e (↑A.1:Int) (toNat (↑i.1:Int)+1) (wfs a.2 (toNat (↑i.1:Int)) (drop a.1 (AT.fs (qe c (↑i.1:Int)))))=wts c e
 def ov:=Yd b a/\∃(d:Int),qgf (qa qi i.2) (Zw a) [int i64 d]/\(0<=(↑i.1:Int)/\(↑i.1:Int)<(↑F:Int))/\Q≠noA/\∃(g:Int),(∀o,xD h b c e o->q37 o (Addr.add (adr Q (toNat (↑i.1:Int)*9)) 2) [int i64 g])/\(0<=g/\g<(↑(toNat (ke b)):Int))/\∃(B:Int),qgf (qa qi i.2) ((0:Nat)+toNat g*nat_lit 1) [int i64 B]/\Jb (d+B)/\Yd b a/\(0:Nat)+toNat (↑a.1:Int)*nat_lit 1+length [int i64 (UP d B)]<=length (qa qi i.2)/\UO i/\∃(z:Nat×List Int),kc b ((↑a.1:Int)=(↑a.1:Int)/\J8 b/\UQ z i/\(↑A.1:Int)=(↑A.1:Int)/\kc h (O=O/\T=T/\r=r/\p=p/\q=q/\m=m/\w=w/\s=s/\x=x/\t=t/\u=u/\v=v/\Q=Q/\F=F/\y=y/\j=j/\l=l/\n=n/\qa qi z.2=spl (qa qi i.2) (Zw a) [int i64 (UP d B)]/\xC h b c e/\(Mk c e z a A)/\length (AT.fs (qe c (↑a.1:Int)))- z.1<length (AT.fs (qe c (↑a.1:Int)))- i.1/\True))
 def aw:=UO a/\∃(d:Nat×List Int),kc b (UQ d a/\Ye b i (kc h (qa qi d.2=qa qi A.2/\xC h b c e/\(UN c e d i)/\length c- d.1<length c- a.1/\True)))
 def ou:=Ji ((↑a.1:Int)<(↑F:Int)) (ov b h c e i a O T Q F p m r q s t u v w x y j l n A) (aw b h c e i A a)
 def oq:=(∃(d:Nat×List Int),kc b ((↑a.1:Int)=(↑a.1:Int)/\J8 b/\(↑d.1:Int)=0/\(↑i.1:Int)=(↑i.1:Int)/\kc h (O=O/\T=T/\Q=Q/\F=F/\p=p/\m=m/\r=r/\q=q/\s=s/\t=t/\u=u/\v=v/\w=w/\x=x/\y=y/\j=j/\l=l/\n=n/\qa qi d.2=qa qi e/\xC h b c E/\(Mk c E d a i)/\True)))/\∀(o:Nat×List Int),Mk c E o a i->ou b h c E o a O T w x F m Q p q t u v r s y j l n i
 def om:=Yd b a/\(0:Nat)+toNat (↑a.1:Int)*nat_lit 1+length [int i64 1]<=length (qa qi a.2)/\(0<=(↑a.1:Int)/\(↑a.1:Int)<(ke h))/\h.1≠noA/\∃(d:Int),∃g,∃o,∃(B:Nat),∃(z:Nat),∃(U:Int),∃R,∃(V:Nat),∃(i8:Nat),∃(i9:Bool),∃G,∃(H:Int),∃I,∃(J:Nat),∃(K:Nat),∃L,∃(i16:Nat),∃(M:Nat),(∀W,xD h b c e W->q37 W (adr h.1 (toNat (↑a.1:Int)*10)) [int i64 d,string g,slice o B z,int i64 U,slice R V i8,bool i9,string G,int i64 H,slice I J K,slice L i16 M])/\(Ji (d=14) (ot b h c e a i d g o B z U R V i8 i9 G H I J K L i16 M) (∃(X:List Int),kc b ((↑a.1:Int)=(↑a.1:Int)/\Ye b i (kc h (d=d/\g=g/\o=o/\B=B/\z=z/\U=U/\R=R/\V=V/\i8=i8/\i9=i9/\G=G/\H=H/\I=I/\J=J/\K=K/\L=L/\i16=i16/\M=M/\qa qi X=spl (qa qi a.2) (Zw a) [int i64 1]/\xC h b c e/\(Mm c X i a e)/\True)))))/\∀(Y:List Int),Mm c Y i a e->oq b h c Y a i d g o B z U R V i8 i9 G H I J K L i16 M e
 def oi:=(0<=(↑a.1:Int)/\(↑a.1:Int)<(ke b))/\b.1≠noA/\∃(d:Int),(∀g,xD h b c e g->q37 g (adr b.1 (toNat (↑a.1:Int)*1)) [int i64 d])/\((!decide (d=(↑i.1:Int)))=true->ar b h c e a i)/\((!decide (d=(↑i.1:Int)))=false->om b h c e a i)
 def ao:=UO a/\∃(d:Nat×List Int),kc b (J8 b/\UQ d a/\kc h (qa qi d.2=qa qi i.2/\xC h b c e/\(Ml c e d)/\length c+1- d.1<length c+1- a.1/\True))
 def oh:=Ji ((↑a.1:Int)<(ke b)) (oi b h c e a i) (ao b h c e i a)
 def od:=(∃(d:Nat×List Int),kc b ((↑d.1:Int)=0/\Ye b a (kc h (qa qi d.2=qa qi a.2/\xC h b c e/\(UN c e d a)/\True))))/\∀(o:Nat×List Int),UN c e o a->oh b h c e o a
 def Bx:=(xD b h c e S)/\True/\toNat (ke h)<=F / nat_lit 1/\qgs S (some (Addr.mk p q none)) (take (toNat (ke h)*nat_lit 1) (qa qi a.2))
 def oa:=Ji ((↑a.1:Int)<=(ke b)) (od b h c e a) (∀(C D N:Nat),(∃i55,Bx h b c e a N C D i55)->∃(i56:Unit),some (Addr.mk C D none)=some (Addr.mk C D none)/\J8 b/\N / nat_lit 1=N / nat_lit 1/\Pl (some (Addr.mk C D none))/\True/\(∀Z,Bx h b c e a N C D Z->qc qi (some (Addr.mk C D none),toNat (ke b),N / nat_lit 1) (wts c e) Z)/\True)
 def n_:=(0<=(ke b)/\(ke b)<=(ke b)/\(↑(8:Nat):Int)*(ke b)<=140737488355328/\(ke b)<140737488355328)/\(∃(d:Nat×List Int),kc b (J8 b/\(↑d.1:Int)=0/\kc h (qa qi d.2=q6y [int i64 0] (toNat (ke b))/\xC h b c e/\(Ml c e d)/\True)))/\∀(o:Nat×List Int),Ml c e o->oa b h c e o
end
def zat(S:List AT) (x y:SV) (R:List Int):qk3 P (qfa [(76,WJ)]) Tryz.f36 Nd (ze8) ⟨S,x,y,R⟩=(qx S/\Kq (length S) R->(∃(p:Pub),xD x y S R p)->n_ y x S R):=by kernel_rfl
def zfl:=λS x y R=>Eq.trans (zat S x y R) (by delta Ji Jb Jt Jf xD ke kc J8 xC Ml Ye UN UO UQ ar Yd Zw Yc UP Mm ot Mk ov aw ou oq om oi ao oh od Bx oa n_;exact rfl)
section
variable (o:Int) (e:SV) (g:List AT) (h:SV) (G:Nat) (Q:IV) (H:Option Addr) (J:Nat) (M:Int) (R:Option Addr) (p q:Nat) (r:Bool) (t:IV) (u:Int) (v:Option Addr) (w z:Nat) (j:Option Addr) (l A:Nat) (i:Int) (E:Nat) (a:Nat×List GV) (c:GV) (O:AT×(Option Addr×Nat×Nat)×List Int) (I:Nat->Option Obj) (X:Prop) (m:ZF)
 abbrev z20:=True/\qd g e I/\qc qi h (qB g) I
 def Mn:=(GV.y c).1=noA/\(GV.y c).2.1=0/\(GV.y c).2.2=0/\X
 def BA:=(GV.x c).1=noA/\(GV.x c).2.1=0/\(GV.x c).2.2=0/\Mn c (GV.b c=0/\yn g o c/\(∀d,z20 e g h d->GV.ok c d)/\True)
 def oE:=(0<=o/\o<=o/\(↑(1:Nat):Int)*o<=140737488355328/\o<140737488355328)/\∃d,size d=toNat o/\qgf (q6y [int u8 0] (toNat o)) 0 (q18 d)/\∃(B:GV),GV.n B=0/\GV.s B=d/\BA M e g h B
 def UR:=e.1=e.1/\e.2.1=e.2.1/\e.2.2=e.2.2/\X
 def By:=m.2.1.1=e.1/\m.2.1.2.1=e.2.1/\m.2.1.2.2=e.2.2/\m.2.2.1=o/\m.2.2.2.1=h.1/\m.2.2.2.2.1=h.2.1/\m.2.2.2.2.2=h.2.2/\(Kn m<G/\qx m.1/\zT m.1 m.2.2.1=true)/\X
 def BB:=qd m.1 m.2.1 I/\qc qi m.2.2.2 (qB m.1) I
 def oC:=length (qa GV.cells a.2)=length a.2*5/\(length a.2+nat_lit 1)*80<=140737488355328/\Jb ((↑a.1:Int)+1)/\∃(d:Nat×List GV),(↑d.1:Int)=(↑a.1:Int)+1/\UR e (UR h (o=o/\Q=Q/\H=H/\G=G/\J=J/\M=M/\R=R/\p=p/\q=q/\r=r/\t=t/\u=u/\v=v/\w=w/\z=z/\j=j/\l=l/\A=A/\length d.2=length a.2+nat_lit 1/\qa GV.cells d.2=qa GV.cells a.2++[int u64 (GV.n c),string (GV.s c),slice (GV.x c).1 (GV.x c).2.1 (GV.x c).2.2,slice (GV.y c).1 (GV.y c).2.1 (GV.y c).2.2,int i64 (GV.b c)]/\(∀B,((z20 h g e B)/\GV.oks a.2 B)/\GV.ok c B->z20 h g e B)/\(∀D,((z20 h g e D)/\GV.oks a.2 D)/\GV.ok c D->GV.oks d.2 D)/\uS g i d.1 (GV.pvs d.2)/\length (AT.fs (qe g i))- d.1<length (AT.fs (qe g i))- a.1/\True))
 def XW:=(0<=(↑a.1:Int)/\(↑a.1:Int)<(↑G:Int))/\H≠noA/\∃(d:Int),(∀B,(z20 e g h B)/\GV.oks a.2 B->q37 B (Addr.add (adr H (toNat (↑a.1:Int)*9)) 2) [int i64 d])/\∃(D:ZF),By d e h J ((∀K,(z20 e g h K)/\GV.oks a.2 K->BB K D)/\∀(L:GV),yn D.1 D.2.2.1 L->(∃U,((z20 e g h U)/\GV.oks a.2 U)/\GV.ok L U)->oC o h g e p Q R q M v w z r t u H G l j A E i a L) D
 def oB:=(XW o e g h G Q H J M R p q r t u v w z j l A i E a)/\(XW o e g h G Q H J M R p q r t u v w z j l A i E a)/\XW o e g h G Q H J M R p q r t u v w z j l A i E a
 def oA:=Ji ((↑a.1:Int)<(↑G:Int)) (oB o e g h G Q H J M R p q r t u v w z j l A i E a) (∀(S i28 i29:Nat) (V:Option Addr) (i31 i32:Nat),(∃W,((z20 e g h W)/\GV.oks a.2 W)/\length a.2<=i32/\qgs W V (take (length a.2*nat_lit 5) (qa GV.cells a.2)))->∃(F:GV),GV.n F=0/\GV.s F=mkS []/\(GV.x F).1=V/\(GV.x F).2.1=length a.2/\(GV.x F).2.2=i32/\Mn F (GV.b F=0/\yn g i F/\(∀T,((z20 e g h T)/\GV.oks a.2 T)/\length a.2<=i32/\qgs T V (take (length a.2*nat_lit 5) (qa GV.cells a.2))->GV.ok F T)/\True))
 def oz:=(∃(d:Nat×List GV),(↑d.1:Int)=0/\UR e (UR h (o=o/\Q=Q/\H=H/\G=G/\J=J/\M=M/\R=R/\p=p/\q=q/\r=r/\t=t/\u=u/\v=v/\w=w/\z=z/\j=j/\l=l/\A=A/\length d.2=0/\(∀B,z20 h g e B->z20 h g e B)/\(∀D,z20 h g e D->GV.oks d.2 D)/\uS g i d.1 (GV.pvs d.2)/\True)))/\∀(K:Nat×List GV),uS g i K.1 (GV.pvs K.2)->(∃L,(z20 h g e L)/\GV.oks K.2 L)->oA o h g e w Q v E M H G J r t u R p q j z l i A K
 abbrev US:=(↑(zu O.2.2 (AT.brs O.1)):Int)
 def Bz:=((z20 e g h I)/\GV.ok c I)/\q37 I (Addr.mk G J none) [int u64 (GV.n c),string (GV.s c),slice (GV.x c).1 (GV.x c).2.1 (GV.x c).2.2,slice (GV.y c).1 (GV.y c).2.1 (GV.y c).2.2,int i64 (GV.b c)]
 def Ep:=(0<=(US O)/\(US O)<(↑G:Int))/\H≠noA/\∃(d:Int),(∀B,z20 e g h B->q37 B (adr H (toNat (US O)*1)) [int i64 d])/\∃(D:ZF),By d e h J ((∀K,z20 e g h K->BB K D)/\∀(L:GV),yn D.1 D.2.2.1 L->(∃U,(z20 e g h U)/\GV.ok L U)->∀(Y Z i8:Nat),(∃i9,Bz e g h Y Z L i9)->∃(C:GV),GV.n C=0/\GV.s C=mkS []/\(GV.x C).1=some (Addr.mk Y (Z+nat_lit 0) none)/\(GV.x C).2.1=nat_lit 1/\(GV.x C).2.2=nat_lit 1/\Mn C (GV.b C=(US O)/\yn g o C/\(∀N,Bz e g h Y Z L N->GV.ok C N)/\True)) D
 def oD:=Ji (o=14) (∃(d:AT×(Option Addr×Nat×Nat)×List Int),AT.k d.1=o/\AT.nm d.1=Q/\(AT.al d.1).1=H/\(AT.al d.1).2.1=G/\(AT.al d.1).2.2=J/\AT.it d.1=M/\(AT.sy d.1).1=R/\(AT.sy d.1).2.1=p/\(AT.sy d.1).2.2=q/\AT.hd d.1=r/\AT.df d.1=t/\AT.sz d.1=u/\(AT.f d.1).1=v/\(AT.f d.1).2.1=w/\(AT.f d.1).2.2=z/\(AT.br d.1).1=j/\(AT.br d.1).2.1=l/\(AT.br d.1).2.2=A/\d.2.1.1=e.1/\d.2.1.2.1=e.2.1/\d.2.1.2.2=e.2.2/\(length d.2.2<1000/\length (AT.brs d.1)<=30/\∀(B:Int),B∈AT.brs d.1->0<=B/\B<(↑(length d.2.2):Int))/\(∀D,z20 h g e D->AT.ok d.1 D/\qc qi d.2.1 d.2.2 D)/\(Ep i h g e l j E d)/\Ep i h g e l j E d) (∃(S:GV),GV.n S=0/\GV.s S=mkS []/\BA i h g e S)
 def oy:=Ji (o=9) (oz o e g h G Q H J M R p q r t u v w z j l A i E) (oD o e g h G Q H J M R p q r t u v w z j l A i E)
 def ox:=(0<=o/\o<(↑e.2.1:Int))/\e.1≠noA/\∃(d:Int),∃B,∃D,∃(K:Nat),∃(L:Nat),∃(U:Int),∃Y,∃(Z:Nat),∃(i8:Nat),∃(i9:Bool),∃C,∃(N:Int),∃i12,∃(i13:Nat),∃(i14:Nat),∃i15,∃(i16:Nat),∃(i17:Nat),(∀i18,z20 e g h i18->q37 i18 (adr e.1 (toNat o*10)) [int i64 d,string B,slice D K L,int i64 U,slice Y Z i8,bool i9,string C,int i64 N,slice i12 i13 i14,slice i15 i16 i17])/\Ji (d=11) (oE N e g h o) (oy d h g e K B D L U Y Z i8 i9 C N i12 i13 i14 i15 i16 i17 o G)
end
def zf4(n:Nat) (S:List AT) (x:SV) (t:Int) (y:SV):qk4 P (qfa [(76,WJ)]) (qgc [(37,Jr.below Kn n)]) Tryz.f37 (Jr.below Kn (n+1)) (zkk) ⟨S,x,t,y⟩=(Kn (S,x,t,y)<n+1/\qx S/\zT S t=true->(∃(p:Pub),z20 x S y p)->ox t x S y n):=by kernel_rfl
def zij:=λn S x t y=>Eq.trans (zf4 n S x t y) (by delta Ji Jb Jt Jf z20 Mn BA oE UR By BB oC XW oB oA oz US Bz Ep oD oy ox;exact rfl)
section
variable (g:Int) (h:Nat) (f:Option Addr) (d:List AT) (e:SV) (j:Nat) (m:List AT×Option Addr×Nat×Nat) (r:Option Addr) (t v:Nat) (i:U9) (a:GV×Bool) (E:Prop) (o:Nat->Option Obj) (q:(Option Addr×Nat×Nat)×Int)
 abbrev ZV:=(True/\qd d e o)/\qc qi (f,h,j) (qB m.1) o
 def Es:= !(decide (0<=q.2)&&decide (q.2<(↑q.1.2.1:Int)))
 def Er:=(a.2=zT d g/\PV.sn (GV.pv a.1)/\PV.wt (GV.pv a.1)<=60000/\(a.2=true->PV.fitz d g (GV.pv a.1))/\(a.2=false\/AT.k (qe d g)=12\/AT.k (qe d g)=13->a.1=zV))
 def XX:=GV.n a.1=0/\GV.s a.1=mkS []/\(GV.x a.1).1=noA/\(GV.x a.1).2.1=0/\(GV.x a.1).2.2=0/\(GV.y a.1).1=noA/\(GV.y a.1).2.1=0/\(GV.y a.1).2.2=0/\GV.b a.1=0/\a.2=false/\Er g d a/\E
 def ZU:=(ZV h f d e j m o)/\qc qi (r,t,v) (wts i.1 i.2.2.2) o
 def oG:=(0<=g/\g<(↑h:Int))/\f≠noA/\∃(w:Int),(∀z,ZU j r d e t m f h v i z->q37 z (adr f (toNat g*1)) [int i64 w])/\Ji (2000<w) (∃(A:GV×Bool),XX g d A ((∀B,ZU j r d e t m f h v i B->GV.ok A.1 B)/\True)) (∃(c:ZF),c.2.1.1=e.1/\c.2.1.2.1=e.2.1/\c.2.1.2.2=e.2.2/\c.2.2.1=g/\c.2.2.2.1=r/\c.2.2.2.2.1=j/\c.2.2.2.2.2=t/\(qx c.1/\zT c.1 c.2.2.1=true)/\(∀p,ZU j r d e t m f h v i p->qd c.1 c.2.1 p/\qc qi c.2.2.2 (qB c.1) p)/\∀(l:GV),yn c.1 c.2.2.1 l->(∃C,(ZU j r d e t m f h v i C)/\GV.ok l C)->∃(i8:GV×Bool),GV.n i8.1=GV.n l/\GV.s i8.1=GV.s l/\(GV.x i8.1).1=(GV.x l).1/\(GV.x i8.1).2.1=(GV.x l).2.1/\(GV.x i8.1).2.2=(GV.x l).2.2/\(GV.y i8.1).1=(GV.y l).1/\(GV.y i8.1).2.1=(GV.y l).2.1/\(GV.y i8.1).2.2=(GV.y l).2.2/\GV.b i8.1=GV.b l/\i8.2=true/\Er g d i8/\(∀u,(ZU j r d e t m f h v i u)/\GV.ok l u->GV.ok i8.1 u)/\True)
 def oF:=(0<=g/\g<(↑h:Int))/\f≠noA/\∃(w:Int),(∀z,ZV h f d e j m z->q37 z (adr f (toNat g*1)) [int i64 w])/\Ji (w<0) (∃(A:GV×Bool),XX g d A ((∀B,ZV h f d e j m B->GV.ok A.1 B)/\True)) (∃(c:U9),c.2.1.1=e.1/\c.2.1.2.1=e.2.1/\c.2.1.2.2=e.2.2/\c.2.2.1.1=f/\c.2.2.1.2.1=h/\c.2.2.1.2.2=j/\(qx c.1/\Kq (length c.1) c.2.2.2)/\(∀p,ZV h f d e j m p->qd c.1 c.2.1 p/\qc qi c.2.2.1 c.2.2.2 p)/\∀(l:Unit),True->∀(C:Option Addr) (i8 u:Nat),(∃D,ZU h f d e j m C i8 u c D)->oG g i8 C d e h m f j u c)
end
def zf3(S:List AT) (x:SV) (t:Int):qk4 P (qfa [(35,z76),(30,KG),(36,Nd)]) (qgc [(37,Jr)]) Tryz.f21 Nv (λ_=>{}) ⟨S,x,t⟩=(qx S->(∃(p:Pub),True/\qd S x p)->∃(s:List AT×Option Addr×Nat×Nat),s.2.1=x.1/\s.2.2.1=x.2.1/\s.2.2.2=x.2.2/\qx s.1/\(∀(p:Pub),True/\qd S x p->qd s.1 s.2 p)/\∀(b:Unit),True->∀(a:Option Addr) (n c:Nat),(∃(p:Pub),ZV n a S x c s p)->∃(s_1:(Option Addr×Nat×Nat)×Int),s_1.1.1=x.1/\s_1.1.2.1=x.2.1/\s_1.1.2.2=x.2.2/\s_1.2=t/\True/\((Es s_1)=true->∃(b:GV×Bool),XX t S b ((∀(p:Pub),ZV n a S x c s p->GV.ok b.1 p)/\True))/\((Es s_1)=false->oF t n a S x c s)):=by kernel_rfl
def zih:=λS x t=>Eq.trans (zf3 S x t) (by delta Ji Jt Jf ZV Es Er XX ZU oG oF;exact rfl)
end
end Go.Proofs.YtniogjgfomaicaaGreat.Wd
