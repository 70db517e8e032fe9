/-
  What the functions do: contracts, and their questions answered. No condition but what its theorems ask.
-/
import Derived.Test.YtniogjgfomaicaaGreatRx
import Derived.Test.YtniogjgfomaicaaGreatT2
namespace Go.Proofs.YtniogjgfomaicaaGreat.Wd
open Go.Proofs.YtniogjgfomaicaaGreat.Eng Go.Proofs.YtniogjgfomaicaaGreat.Sen Go.RowKit
set_option linter.defProp false
set_option linter.unusedVariables false
set_option linter.unusedSimpArgs false
set_option maxRecDepth 1000000
open Go.Value (int string slice bool)
open Go.IntKind (i64 u64 u8 u32 i32)
open _root_.List (length take drop)
open _root_.ByteArray (size)
open _root_.Int (toNat)
noncomputable section
section
def qx:List O6->Nat
 | []=>0
 |k::l=>k.size+10+qx l
mutual
def PV.wt:PV->Nat
 | .mk n s l ks b=>30+0*s.size+qx ks+PV.wts l
def PV.wts:List PV->Nat
 | []=>0
 |v::l=>PV.wt v+PV.wts l
end
def wZ(n:Int) (s:O6) (l:List PV) (ks:List O6) (b:Int):(PV.mk n s l ks b).wt=30+0*s.size+qx ks+PV.wts l:=by rw[PV.wt]
def QB:zV.pv= .mk 0 (mkS []) [] [] 0:=by unfold zV;rw[GV.pv,GV.pvs]
def jM:(mkS []).size=0:=rfl
def xy:∀(l m:List PV),PV.wts (l++m)=PV.wts l+PV.wts m
 | [],m=>by rw[PV.wts];simp
 |v::l,m=>by rw[List.cons_append,PV.wts,PV.wts,xy l m];omega
def JZ(v:PV):PV.wts [v]=PV.wt v:=by rw[PV.wts,PV.wts];rfl
def zw8:∀v:PV,30<=PV.wt v
 | .mk n s l ks b=>by rw[PV.wt];omega
def Oc:∀l:List PV,30*l.length<=PV.wts l
  | []=>by simp
  | v::l=>by have:=Oc l;have:=zw8 v;rw[PV.wts,List.length_cons];omega
def ziq:∀{l:List O6} {k:O6},k∈l->k.size<=qx l
  | a::l,v,h=>by
    rw[qx];rcases List.mem_cons.1 h with rfl|h
    · omega
    · have:=ziq h;omega
def IW:∀(l m:List O6),qx (l++m)=qx l+qx m
 | [],m=>by rw[qx];simp
 |v::l,m=>by rw[List.cons_append,qx,qx,IW l m];omega
def WZ(l:List PV) (k:Nat):PV.wts (l.take k)+PV.wts (l.drop k)=PV.wts l:=by rw[←xy,List.take_append_drop]
variable {l:List PV}
def zzi{k:Nat} (h:k<l.length) (w:PV):PV.wts (l.set k w)+PV.wt l[k]=PV.wts l+PV.wt w:=by have e:=WZ l k;rw[List.drop_eq_getElem_cons h,PV.wts]at e;rw[List.set_eq_take_append_cons_drop,if_pos h,xy,PV.wts];omega
def W8:∀{l:List PV},PV.sms l↔∀v∈l,v.sm
 | []=>by unfold PV.sms;simp
 |v::l=>by unfold PV.sms;rw[W8 (l:=l)];simp
mutual
def PV.nar:PV->Prop
 | .mk n s l ks b=>s.size<=1000000/\l.length<=1000/\ks.length<=1000/\PV.nars l
def PV.nars:List PV->Prop
 | []=>True
 |v::l=>PV.nar v/\PV.nars l
end
def IB:∀{l:List PV},PV.nars l↔∀v∈l,v.nar
 | []=>by unfold PV.nars;simp
 |v::l=>by unfold PV.nars;rw[IB (l:=l)];simp
def PV.sn(v:PV):Prop:=v.sm/\v.nar
variable {s:O6} {ks:List O6}
def yq{n:Int} {b:Int} (H:0<=n/\n<18446744073709551616) (hs:s.size<=1000000) (G:l.length<=1000) (C:ks.length<=1000) (u:∀k∈ks,k.size<9223372036854775808) (h:∀v∈l,v.sn):(PV.mk n s l ks b).sn:=⟨by rw[PV.sm];exact⟨H,by omega,by omega,by omega,u,W8.2 λv A=>(h v A).1⟩,by rw[PV.nar];exact⟨hs,G,C,IB.2 λv A=>(h v A).2⟩⟩
def Px{n:Int} {b:Int} (h:(PV.mk n s l ks b).sn):(0<=n/\n<18446744073709551616)/\s.size<=1000000/\l.length<=1000/\ks.length<=1000/\(∀k∈ks,k.size<9223372036854775808)/\∀v∈l,v.sn:=by obtain⟨A,u⟩:=h;rw[PV.sm]at A;rw[PV.nar]at u;exact⟨A.1,u.1,u.2.1,u.2.2.1,A.2.2.2.2.1,λv C=>⟨W8.1 A.2.2.2.2.2 v C,IB.1 u.2.2.2 v C⟩⟩
mutual
def PV.ss:PV->Prop
 | .mk n s l ks b=>s.size<=1000001/\PV.sss l
def PV.sss:List PV->Prop
 | []=>True
 |v::l=>PV.ss v/\PV.sss l
end
def I_:∀{l:List PV},PV.sss l↔∀v∈l,v.ss
 | []=>by unfold PV.sss;simp
 |v::l=>by unfold PV.sss;rw[I_ (l:=l)];simp
mutual
def zvi:∀{v:PV},v.nar->v.ss
  | .mk n s l ks b,h=>by rw[PV.nar]at h;rw[PV.ss];exact⟨by omega,nars_sss h.2.2.2⟩
def nars_sss:∀{l:List PV},PV.nars l->PV.sss l
  | [],_=>by unfold PV.sss;trivial
  | v::l,h=>by unfold PV.nars at h;unfold PV.sss;exact⟨zvi h.1,nars_sss h.2⟩
end
def PV.sz(v:PV):Prop:=v.sm/\v.ss
def PV.sn.sz{v:PV} (h:v.sn):v.sz:=⟨h.1,zvi h.2⟩
def Hh{S:List AT} {f:Nat->Int}:∀{l:List PV} {i:Nat},(∀(j:Nat) (h:j<l.length),PV.fits S (f (i+j)) l[j]=true)->PV.fitL S f i l=true
  | [],i,h=>by rw[PV.fitL]
  | v ::l,i,h=>by
    rw[PV.fitL];have u:=h 0 (by simp);have:=Hh (S:=S) (f:=f) (l:=l) (i:=i+1) λj A=>by have:=h (j+1) (by simp;omega);rw[show i+1+j=i+(j+1)by omega];simpa using this
    rw[this];simpa using u
variable {S:List AT}
def zdb{f:Nat->Int} {t:Int} (u:∀i,f i=t) {l:List PV} (h:∀v∈l,PV.fits S t v=true):PV.fitL S f 0 l=true:=
 Hh λj A=>by rw[u];exact h _ (List.getElem_mem A)
variable {i:Nat}
def j7o(hi:i<S.length) {n:Int} (u:qI S[i].k=true) (h:zS S[i] n=true):PV.fits S i (.mk n (mkS []) [] [] 0)=true:=by rw[PV.fits,if_neg (by omega)];simp only[Int.toNat_natCast,List.getElem?_eq_getElem hi];rw[if_pos u,h];rfl
def j7p(hi:i<S.length) {s:O6} (u:qG S[i].k=true) (h:jC S[i] s=true):PV.fits S i (.mk 0 s [] [] 0)=true:=by
 have A:qI S[i].k=false:=by unfold qG at u;have:=of_decide_eq_true u;unfold qI;exact decide_eq_false (by omega)
 rw[PV.fits,if_neg (by omega)];simp only[Int.toNat_natCast,List.getElem?_eq_getElem hi];rw[if_neg (by rw[A];decide),if_pos u,h];rfl
def HW(hi:i<S.length) {l:List PV} {ks:List O6} {b:Int} (u:ql S[i].k=true) (h:zx S[i] l.length ks b=true) (A:PV.fitL S (qj S[i] b) 0 l=true):PV.fits S i (.mk 0 (mkS []) l ks b)=true:=by
 have hq:=u;unfold ql at hq;have hq:=of_decide_eq_true hq;have C:qI S[i].k=false:=by unfold qI;exact decide_eq_false (by omega)
 have G:qG S[i].k=false:=by unfold qG;exact decide_eq_false (by omega)
 rw[PV.fits,if_neg (by omega)];simp only[Int.toNat_natCast,List.getElem?_eq_getElem hi];rw[if_neg (by rw[C];decide),if_neg (by rw[G];decide),if_pos u,h,A];rfl
def zoq(hi:i<S.length) (u:S[i].k=9) {l:List PV} (C:l.length=S[i].fs.length) (h:∀(j:Nat) (G:j<l.length) (H:j<S[i].fs.length),PV.fits S (S[i].fs[j]).ty l[j]=true):PV.fits S i (.mk 0 (mkS []) l [] 0)=true:=by
 refine HW hi (by unfold ql;exact decide_eq_true (.inl u)) ?_ (Hh λj A=> ?_)
 ·unfold zx;rw[if_neg (by simp),if_pos u];exact decide_eq_true C
 ·have e:qj S[i] 0 (0+j)=(S[i].fs[j]'(by omega)).ty:=by unfold qj;rw[if_pos u,Nat.zero_add,List.getElem?_eq_getElem (by omega)]
  rw[e];exact h j A (by omega)
def zor(hi:i<S.length) (u:S[i].k=14) {b:Nat} (C:b<S[i].brs.length) {v:PV} (h:PV.fits S (S[i].brs.getD b 0) v=true):PV.fits S i (.mk 0 (mkS []) [v] [] b)=true:=by
 refine HW hi (by unfold ql;exact decide_eq_true (by omega)) ?_ (Hh λj A=> ?_)
 ·unfold zx;rw[if_neg (by simp[u]),if_neg (by omega),if_pos u];exact decide_eq_true ⟨by omega,by omega,rfl⟩
 ·obtain rfl:j=0:=by simp at A;exact A
  have e:qj S[i] (b:Int) (0+0)=S[i].brs.getD b 0:=by unfold qj;rw[if_neg (by omega),if_pos u,Int.toNat_natCast]
  rw[e];exact h
def zom(hi:i<S.length) (u:S[i].k=12) {l:List PV} (h:∀v∈l,PV.fits S S[i].it v=true):PV.fits S i (.mk 0 (mkS []) l [] 0)=true:=by
 refine HW hi (by unfold ql;exact decide_eq_true (by omega)) ?_ (zdb (λj=> ?_) h)
 ·unfold zx;rw[if_neg (by simp),if_neg (by omega),if_neg (by omega),if_neg (by omega)]
 ·unfold qj;rw[if_neg (by omega),if_neg (by omega)]
def zop(hi:i<S.length) (A:S[i].k=13) {l:List PV} {ks:List O6} (C:ks.length=l.length) (u:zd ks=true) (h:∀v∈l,PV.fits S S[i].it v=true):PV.fits S i (.mk 0 (mkS []) l ks 0)=true:=by
 refine HW hi (by unfold ql;exact decide_eq_true (by omega)) ?_ (zdb (λj=> ?_) h)
 ·unfold zx;rw[if_neg (by omega),if_neg (by omega),if_neg (by omega),if_pos A,u,decide_eq_true C.symm];rfl
 ·unfold qj;rw[if_neg (by omega),if_neg (by omega)]
def Z'(a:O6):List O6->Bool
 | []=>true
 |j::_=>qcn a j
def VX(a:O6) (l:List O6):zd (a::l)=(qz a&&Z' a l&&zd l):=by
 cases l with
 |nil=>rw[zd,Z',zd];simp
 |cons j l=>rw[zd,Z']
def z9o(k a:O6) (l:List O6):q9 k (a::l)=if qcn a k=true then a::q9 k l else if a=k then a::l else k::a::l:=by
 unfold q9 vW;rw[zR];by_cases h:qcn a k=true
 ·rw[if_pos h,if_pos h];simp only[List.getElem?_cons_succ,List.take_succ_cons,List.drop_succ_cons];split<;>rfl
 ·rw[if_neg h,if_neg h];simp only[List.getElem?_cons_zero,List.take_zero,List.drop_zero,List.nil_append,decide_eq_true_eq,Option.some.injEq]
def zyl{a k:O6} {l:List O6} (h:qcn a k=true) (u:Z' a l=true):Z' a (q9 k l)=true:=by
  cases l with
  |nil=>unfold q9 vW;simp[zR,Z',h]
  | cons j l=>
    rw[z9o];split
    · exact u
    · split
      · exact u
      · exact h
def zdo{k:O6} (u:qz k=true):∀{l:List O6},zd l=true->zd (q9 k l)=true
  | [],_=>by unfold q9 vW;simp[zR,zd,u]
  | a ::l,h=>by
    have G:=h;rw[VX,Bool.and_eq_true,Bool.and_eq_true]at h;obtain⟨⟨H,J⟩,N⟩:=h;rw[z9o];split;next A=>rw[VX,H,zyl A J,zdo u N];rfl
    next A=>
      split
      · exact G
      next C=>
        rw[VX,u,G];rw[Z'];rcases(zyz k a).2 (by simpa using A)with g|g
        · rw[g];rfl
        · exact absurd g.symm C
variable {k:O6}
def zq0{w v:PV} (h:v∈jV k ks l w):v=w\/v∈l:=by
 unfold jV at h;split at h
 ·rcases List.mem_or_eq_of_mem_set h with h|h
  ·exact .inr h
  ·exact .inl h
 ·rcases List.mem_append.1 h with h|h
  ·exact .inr (List.mem_of_mem_take h)
  ·rcases List.mem_cons.1 h with h|h
   ·exact .inl h
   ·exact .inr (List.mem_of_mem_drop h)
def zpz{x:O6} (h:x∈q9 k ks):x=k\/x∈ks:=by
 unfold q9 at h;split at h
 ·exact .inr h
 ·rcases List.mem_append.1 h with h|h
  ·exact .inr (List.mem_of_mem_take h)
  ·rcases List.mem_cons.1 h with h|h
   ·exact .inl h
   ·exact .inr (List.mem_of_mem_drop h)
def zyo{w:PV}:PV.wts (jV k ks l w)<=PV.wts l+PV.wt w:=by
 unfold jV;split
 ·by_cases h:zR k ks<l.length
  ·have:=zzi h w;omega
  ·rw[List.set_eq_of_length_le (by omega)];omega
 ·have:=WZ l (zR k ks);rw[xy,PV.wts];omega
def zym:qx (q9 k ks)<=qx ks+k.size+10:=by
 unfold q9;split
 ·omega
 ·have:qx (ks.take (zR k ks))+qx (ks.drop (zR k ks))=qx ks:=by rw[←IW,List.take_append_drop]
  rw[IW,qx];omega
end
def Qe(k:Int):Bool:=decide (k=3\/k=4)
def Qd(k:Int):Bool:=decide (k=7\/k=8)
def Qf(k:Int):Bool:=decide (k=12\/k=13)
def EO(t:T AV) (k:Nat):Option Nat:=match t.get k with
 |some (.ptr b _)=>some b
 |_=>none
def XG(h:T AO) (u n:Nat):AO:=match h.get u with
 |some (.cells ty fz g [a,b,_,d,e])=> .cells ty fz g [a,b, .ssl 40 0 n 5 41,d,e]
 |_=> .cells 0 none false []
abbrev vj:=List AT×ze×Int×Int
abbrev zp:=GV×Int×Int×Int
def rvM(S:List AT) (x y:SV) (D:O6):PF:=⟨true,λp=>qc S x p/\(y.2.1=D.size/\qfv p y.1 y.2.1 y.2.2 (q11 D)),λ_ _ h e=>⟨uC h e.1,e.2.1,q48 h e.2.2⟩⟩
def jy(all h e:Int):Int:=if e=0/\(20<h\/2000<all)then 3 else e
def j1(R:z') (D:O6) (n all e:Int):zp->Prop:=λ⟨r,n',h,u⟩=>(if e=0 then YP R r.pv n' h u else u=e)/\qC D n'/\(all<=h/\h<=2001)/\(u=0->h<=2000)/\n<=n'
def wv:CtR where
 σ:=vj
 args:=λ⟨S,⟨x,y,D,n,all,e⟩,t,A⟩=>[.ptr 1 0, .sv (.int .i64 t), .sv (.int .i64 A)]
 h:=λ⟨S,⟨x,y,D,n,all,e⟩,t,A⟩=>js x y n all e
 m:=2
 pre:=λ⟨S,⟨x,y,D,n,all,e⟩,t,A⟩=>kg S/\qC D n/\(0<=all/\all<=2000)/\0<=e/\(0<=t/\t<S.length)/\1<=A/\A<=21
 mem:=λ⟨S,⟨x,y,D,n,all,e⟩,t,A⟩=>rvM S x y D
 β:=λ_=>zp
 post:=λ⟨S,⟨x,y,D,n,all,e⟩,t,A⟩ b=>j1 (jB S D (21- A).toNat t n.toNat all.toNat) D n (all+1) e b
 pm:=λ_ ⟨r,n',u,C⟩=>vM r
 r:=λ_ ⟨r,n',u,C⟩=>r.av
 h':=λ⟨S,⟨x,y,D,n,all,e⟩,t,A⟩ ⟨r,n',u,C⟩=>js x y n' u C
 m':=2
def v8:vj->Nat:=λ⟨S,_,t,h⟩=>(25- h).toNat
abbrev YO:=List AT×ze×AT×Int
def rbM(S:List AT) (a:AT) (x y:SV) (D:O6):PF:=⟨true,λp=>qc S x p/\a.ok p/\(y.2.1=D.size/\qfv p y.1 y.2.1 y.2.2 (q11 D)),λ_ _ h e=>⟨uC h e.1,AT.ok_mono h e.2.1,e.2.2.1,q48 h e.2.2.2⟩⟩
def zk(S:List AT) (D:O6) (h:Int):Int->Nat->Nat->z':=λt n c=>jB S D (20- h).toNat t n c
def Z7(κ:AT->Prop):CtR where
 σ:=YO
 args:=λ⟨S,⟨x,y,D,n,all,e⟩,a,A⟩=>[.ptr 1 0,a.av, .sv (.int .i64 A)]
 h:=λ⟨S,⟨x,y,D,n,all,e⟩,a,A⟩=>js x y n all e
 m:=2
 pre:=λ⟨S,⟨x,y,D,n,all,e⟩,a,A⟩=>kg S/\a∈S/\κ a/\qC D n/\(0<=all/\all<=2000)/\e=0/\1<=A/\A<=20
 mem:=λ⟨S,⟨x,y,D,n,all,e⟩,a,A⟩=>rbM S a x y D
 β:=λ_=>zp
 post:=λ⟨S,⟨x,y,D,n,all,e⟩,a,A⟩ b=>j1 (wq (zk S D A) D a n.toNat all.toNat) D n all 0 b
 pm:=λ_ ⟨r,n',u,C⟩=>vM r
 r:=λ_ ⟨r,n',u,C⟩=>r.av
 h':=λ⟨S,⟨x,y,D,n,all,e⟩,a,A⟩ ⟨r,n',u,C⟩=>js x y n' u C
 m':=2
def xU:YO->Nat:=λ⟨S,_,a,h⟩=>(25- h).toNat
def EI(a:AT):Prop:=a.k=12
def EJ(a:AT):Prop:=a.k=13
def Fu(a:AT):Prop:=a.k=12\/a.k=13
def vu{α:Type} (h:Rs α) (e:Int) (q:Prop):Prop:=(e=0/\q)\/∃k:Nat,e=k+1/\h= .no k
def GU(S:List AT) (t u:Int) (D:O6) (n all:Int) (j:Nat) (A h e1:Int) (fs:List GV):Prop:=
 j<=(qd S t).fs.length/\fs.length=j/\qC D A/\(all<=h/\h<=2001)/\(e1=0->h<=2000)/\n<=A/\
 vu (yA (zk S D u) ((qd S t).fs.map AF.ty) [] n.toNat all.toNat) e1 (yA (zk S D u) (((qd S t).fs.map AF.ty).drop j) (GV.pvs fs) A.toNat h.toNat=yA (zk S D u) ((qd S t).fs.map AF.ty) [] n.toNat all.toNat)
def wRv:vj->WayF:=λ⟨S,⟨x,y,D,n,all,e⟩,t,G⟩=>{
 pubE:=[183]
 spl:=λi=>match i with
  |40=>some 11
  |_=>none
 flo:=λi=>match i with
  |40=>some (11,[0,1])
  |_=>none
 cut:=λi C _=>match i with
  |4=>some {σ:=Unit,t:=λ_=>[],h:=λ_=>js x y n (all+1) (jy (all+1) G e),more:=0,μ:=λ_=>0,keep:=[0,1,2,6]}
  |15=>yi Qe 56 45 [0,1,2,6,7,8,45] C
  |25=>yi Qd 87 45 [0,1,2,6,7,8,45] C
  |43=>yi Qf 176 45 [0,1,2,6,7,8,45] C
  |_=>none
 ann:=λid C J=>match EO C 7 with
  |some H=>some {σ:=Nat×Int×Int×Int×List GV,pre:=λ⟨j,A,u,e1,fs⟩=>GU S t G D n (all+1) j A u e1 fs,mem:=λ⟨j,A,u,e1,fs⟩=>Qb fs,t:=λ⟨j,A,u,e1,fs⟩=>[(10, .sv (.int .i64 (j:Int)))],h:=λ⟨j,A,u,e1,fs⟩=>js x y A u e1++[(H,XG J H fs.length),(40, .row 36 0 (qa GV.cells fs))],more:=60,μ:=λ⟨j,A,u,e1,fs⟩=>(qd S t).fs.length- j,keep:=[0,1,2,6,7,8]}
  |none=>none}
def dB(h:T AO):Option Int:=match h.get 1 with
  | some (.cells _ _ _ [_,_,_,a,_])=>match gi a with
    |some (_,k)=>some k
    |none=>none
  |_=>none
abbrev Xq:=Rs (kW×Nat×Nat)
def zW(S:List AT) (a:AT) (h:Int) (D:O6) (n all:Int):Xq:=vk (zk S D h a.it) D (decide (a.k=13)) (D.size+1- n.toNat) ([],[]) n.toNat all.toNat
def kE(S:List AT) (a:AT) (h:Int) (D:O6) (F:Nat) (st:Int) (sz:Int) (r:kW×Nat×Nat):Xq:=if uj st.toNat sz r.2.1=true then .no 1 else vk (zk S D h a.it) D (decide (a.k=13)) F r.1 r.2.1 r.2.2
def Ii(D:O6) (n all:Int) (u h e1:Int) (st:kW):Prop:=(qC D u/\n<=u)/\(all<=h/\h<=2001)/\(e1=0->h<=2000)/\st.2.length<=h
def Zq(S:List AT) (a:AT) (u:Int) (D:O6) (n all:Int) (F:Nat) (A h e1:Int) (st:kW):Prop:=Ii D n all A h e1 st/\D.size<F+A/\vu (zW S a u D n all) e1 (vk (zk S D u a.it) D (decide (a.k=13)) F st A.toNat h.toNat=zW S a u D n all)
def JL(S:List AT) (a:AT) (u:Int) (D:O6) (n all:Int) (F:Nat) (cnt sz A h e1:Int) (st:kW):Prop:=Ii D n all A h e1 st/\cnt<=9223372036854775807/\D.size<F+A/\vu (zW S a u D n all) e1 (1<=cnt/\(j9 (zk S D u a.it) D (decide (a.k=13)) cnt.toNat st A.toNat h.toNat).bind (kE S a u D F A sz)=zW S a u D n all)
def VS(S:List AT) (a:AT) (A:Int) (D:O6) (n all:Int) (F:Nat) (al cnt sz u:Int) (i:Nat) (C h e1:Int) (st:kW):Prop:=((i=0\/(i:Int)<=cnt)/\al<=h/\(e1=0->al+i<=h))/\Ii D n all C h e1 st/\(0<=u/\u<=C)/\D.size<F+u/\vu (zW S a A D n all) e1 (1<=cnt/\(j9 (zk S D A a.it) D (decide (a.k=13)) (cnt- i).toNat st C.toNat h.toNat).bind (kE S a A D F u sz)=zW S a A D n all)
def uK(u:GV):Prop:=u.n=0/\u.s=mkS []/\u.b=0/\u.ks.length=u.l.length
def G1 (arr:Bool):YO->WayF:=λ⟨S,⟨x,y,D,n,all,e⟩,a,H⟩=>{
  pubE:=[31,120]
  spl:=λi=>match i with
    |19=>some 7
    |_=>none
  flo:=λi=>match i with
    |19=>some (7,[0,1])
    |_=>none
  cut :=λi N J=>match i,EO N 7,dB J with
    | 14,some G,some al=>match arr with
      |true=>some {σ:=Nat×Int×Int×Int×Int×List GV,pre:=λ⟨F,cnt,sz,C,e1,fs⟩=>JL S a H D n all F cnt sz C al e1 ([],GV.pvs fs),mem:=λ⟨F,cnt,sz,C,e1,fs⟩=>Qb fs,t:=λ⟨F,cnt,sz,C,e1,fs⟩=>[(8, .sv (.int .i64 cnt)),(9, .sv (.int .i64 sz))],h:=λ⟨F,cnt,sz,C,e1,fs⟩=>js x y C al e1++[(G,XG J G fs.length),(40, .row 36 0 (qa GV.cells fs))],more:=60,μ:=λ_=>0,keep:=[0,2,4,6,7]}
      |false=>some {σ:=Nat×Int×Int×Int×Int×GV,pre:=λ⟨F,cnt,sz,C,e1,u⟩=>uK u/\JL S a H D n all F cnt sz C al e1 (u.ks,GV.pvs u.l),mem:=λ⟨F,cnt,sz,C,e1,u⟩=>vM u,t:=λ⟨F,cnt,sz,C,e1,u⟩=>[(8, .sv (.int .i64 cnt)),(9, .sv (.int .i64 sz))],h:=λ⟨F,cnt,sz,C,e1,u⟩=>js x y C al e1++[(G,K3 u)],more:=0,μ:=λ_=>0,keep:=[0,2,4,6,7]}
    |_,_,_=>none
  ann :=λid N J=>match EO N 7 with
    | some G=>match id with
      | 0=>match arr with
        |true=>some {σ:=Nat×Int×Int×Int×List GV,pre:=λ⟨F,C,A,e1,fs⟩=>Zq S a H D n all F C A e1 ([],GV.pvs fs),mem:=λ⟨F,C,A,e1,fs⟩=>Qb fs,t:=λ_=>[],h:=λ⟨F,C,A,e1,fs⟩=>js x y C A e1++[(G,XG J G fs.length),(40, .row 36 0 (qa GV.cells fs))],more:=60,μ:=λ⟨F,C,A,e1,fs⟩=>2*(2001- A).toNat+(if e1=0 then 1 else 0),keep:=[0,2,4,6,7]}
        |false=>some {σ:=Nat×Int×Int×Int×GV,pre:=λ⟨F,C,A,e1,u⟩=>uK u/\Zq S a H D n all F C A e1 (u.ks,GV.pvs u.l),mem:=λ⟨F,C,A,e1,u⟩=>vM u,t:=λ_=>[],h:=λ⟨F,C,A,e1,u⟩=>js x y C A e1++[(G,K3 u)],more:=0,μ:=λ⟨F,C,A,e1,u⟩=>2*(2001- A).toNat+(if e1=0 then 1 else 0),keep:=[0,2,4,6,7]}
      | _=>match arr,jQ N 8,jQ N 9,jQ N 10,dB J with
        |true,some O,some T,some st,some al=>some {σ:=Nat×Nat×Int×Int×Int×List GV,pre:=λ⟨F,i,C,A,e1,fs⟩=>VS S a H D n all F al O T st i C A e1 ([],GV.pvs fs),mem:=λ⟨F,i,C,A,e1,fs⟩=>Qb fs,t:=λ⟨F,i,C,A,e1,fs⟩=>[(11, .sv (.int .i64 (i:Int)))],h:=λ⟨F,i,C,A,e1,fs⟩=>js x y C A e1++[(G,XG J G fs.length),(40, .row 36 0 (qa GV.cells fs))],more:=60,μ:=λ⟨F,i,C,A,e1,fs⟩=>O.toNat- i,keep:=[0,2,4,6,7,8,9,10]}
        |false,some O,some T,some st,some al=>some {σ:=Nat×Nat×Int×Int×Int×GV,pre:=λ⟨F,i,C,A,e1,u⟩=>uK u/\VS S a H D n all F al O T st i C A e1 (u.ks,GV.pvs u.l),mem:=λ⟨F,i,C,A,e1,u⟩=>vM u,t:=λ⟨F,i,C,A,e1,u⟩=>[(11, .sv (.int .i64 (i:Int)))],h:=λ⟨F,i,C,A,e1,u⟩=>js x y C A e1++[(G,K3 u)],more:=0,μ:=λ⟨F,i,C,A,e1,u⟩=>O.toNat- i,keep:=[0,2,4,6,7,8,9,10]}
        |_,_,_,_,_=>none
    |none=>none}
section
variable (g j:Int) (c d:SV) (o q t:Int) (i:List AT) (m:O6) (O:Nat) (p:Int) (w:Option Addr) (A:Nat) (z:Int) (C:Option Addr) (D E:Nat) (F:Bool) (G:O6) (N:Int) (H:Option Addr) (I J:Nat) (K:Option Addr) (L M:Nat) (u:O6) (Q:Nat) (v:Nat×Int×Int×Int×List GV) (X:Nat->Option Obj) (B:vj) (l:zp) (e:ze) (h:ze×Int) (U:Prop) (R:(Option Addr×Nat×Nat)×(Option Addr×Nat×Nat)×Int×Int×Int×Int) (x36:YO)
 abbrev jg:=True/\qc i c X/\d.2.1=size m/\qfv X d.1 d.2.1 d.2.2 (q11 m)
 abbrev My:=Jb (g+1)
 def BP:=c.1=R.1.1/\c.2.1=R.1.2.1/\c.2.2=R.1.2.2/\d.1=R.2.1.1/\d.2.1=R.2.1.2.1/\d.2.2=R.2.1.2.2/\U
 def UX:=(∀a,jg c d i m a->jg c d i m a)
 abbrev BU:=∃(a:(Option Addr×Nat×Nat)×(Option Addr×Nat×Nat)×Int×Int×Int×Int),a.2.2.2.2.2=3/\a.1.1=c.1/\a.1.2.1=c.2.1/\a.1.2.2=c.2.2/\a.2.1.1=d.1/\a.2.1.2.1=d.2.1/\a.2.1.2.2=d.2.2/\a.2.2.1=g/\a.2.2.2.1=j+1/\a.2.2.2.2.1=o/\True/\∃(V:Unit),q=q/\t=t/\BP c d (g=a.2.2.1/\j+1=a.2.2.2.1/\(jy (j+1) t o=if a.2.2.2.2.1=0 then a.2.2.2.2.2 else a.2.2.2.2.1)/\UX c d i m/\True/\True) a
 def B6:=c.1=c.1/\c.2.1=c.2.1/\c.2.2=c.2.2/\U
 abbrev Yy:=B6 c (B6 d U)
 def bM:=Ji (2000<g+1) (BU j g c d o q t i m) (∃(Y:Unit),q=q/\t=t/\Yy c d (j=j/\g+1=g+1/\jy (g+1) t o=o/\UX c d i m/\True/\True))
 def UY:=GV.n l.1=0/\GV.s l.1=mkS []/\U
 def B7:=(GV.x l.1).1=noA/\(GV.x l.1).2.1=0/\(GV.x l.1).2.2=0/\U
 def UV:=(GV.y l.1).1=noA/\(GV.y l.1).2.1=0/\(GV.y l.1).2.2=0/\U
 def Kr:=B7 l (UV l (GV.b l.1=0/\U))
 abbrev UW:=j1 (jB i m (toNat ((21:Int)- g)) j (toNat o) (toNat q)) m o (q+1) t l
 def ZN:=UW g j o q t i m l/\(∀a,jg c d i m a->GV.ok l.1 a)/\True
 def B_:=∃(a:zp),UY a (Kr a (Yy c d (a.2.1=g/\a.2.2.1=j+1/\a.2.2.2=jy (j+1) o q/\ZN o t c d g j q i m a)))
 def Yz:=h.1.1.1=c.1/\h.1.1.2.1=c.2.1/\h.1.1.2.2=c.2.2/\h.1.2.1.1=d.1/\h.1.2.1.2.1=d.2.1/\h.1.2.1.2.2=d.2.2/\h.1.2.2.2.1=g/\h.1.2.2.2.2.1=j+1/\h.1.2.2.2.2.2=jy (j+1) o q/\U
 def Mw:=qC h.1.2.2.1 h.1.2.2.2.1/\0<=h.2/\U
 def Mt:=h.1.2.1.2.1=size h.1.2.2.1/\qfv X h.1.2.1.1 h.1.2.1.2.1 h.1.2.1.2.2 (q11 h.1.2.2.1)
 abbrev Kt:=zr h.1.2.2.1 h.1.2.2.2.1 h.1.2.2.2.2.2 h.2
 abbrev UU:=(↑(jz (Array.toList (ByteArray.data (Kt h).1))):Int)
 abbrev Mx:=Kr l (BP c d (l.2.1=R.2.2.1/\l.2.2.1=R.2.2.2.1/\(l.2.2.2=if R.2.2.2.2.1=0 then R.2.2.2.2.2 else R.2.2.2.2.1)/\ZN g j c d o q t i m l) R)
 def Mv:=c.1=h.1.1.1/\c.2.1=h.1.1.2.1/\c.2.2=h.1.1.2.2/\d.1=h.1.2.1.1/\d.2.1=h.1.2.1.2.1/\d.2.2=h.1.2.1.2.2/\U
 def Mu:=Kr l (Mv c d h (l.2.1=(Kt h).2.1/\l.2.2.1=h.1.2.2.2.2.1/\l.2.2.2=(Kt h).2.2/\ZN g j c d o q t i m l))
 def Ks:=Yy c d (g=g/\j+1=j+1/\jy (j+1) o q=jy (j+1) o q/\t=t/\m=m/\w=w/\O=O/\A=A/\p=p/\C=C/\D=D/\E=E/\F=F/\G=G/\z=z/\H=H/\I=I/\J=J/\K=K/\L=L/\M=M/\UX c d i u/\True/\True)
 def bQ:=e.2.1.2.1=size e.2.2.1/\qfv X e.2.1.1 e.2.1.2.1 e.2.1.2.2 (q11 e.2.2.1)
 def BW:=e.1.1=c.1/\e.1.2.1=c.2.1/\e.1.2.2=c.2.2/\e.2.1.1=d.1/\e.2.1.2.1=d.2.1/\e.2.1.2.2=d.2.2/\e.2.2.2.1=g/\e.2.2.2.2.1=j+1/\e.2.2.2.2.2=jy (j+1) o q/\qC e.2.2.1 e.2.2.2.1/\(∀a,jg c d i m a->bQ a e)/\U
 abbrev QL:=qL e.2.2.1 e.2.2.2.1 e.2.2.2.2.2
 def BZ:=R.2.2.2.2.2=2/\R.1.1=e.1.1/\R.1.2.1=e.1.2.1/\R.1.2.2=e.1.2.2/\R.2.1.1=e.2.1.1/\R.2.1.2.1=e.2.1.2.1/\R.2.1.2.2=e.2.1.2.2/\U
 def BR:=∃(a:(Option Addr×Nat×Nat)×(Option Addr×Nat×Nat)×Int×Int×Int×Int),BZ e (a.2.2.1=(QL e).2.1/\a.2.2.2.1=e.2.2.2.2.1/\a.2.2.2.2.1=(QL e).2.2/\True/\∃(V:zp),GV.n V.1=IntKind.wrap u64 (QL e).1/\GV.s V.1=mkS []/\Mx g j c d o q t i m V a) a
 def BS:=c.1=e.1.1/\c.2.1=e.1.2.1/\c.2.2=e.1.2.2/\d.1=e.2.1.1/\d.2.1=e.2.1.2.1/\d.2.2=e.2.1.2.2/\U
 def B4:=∃(a:zp),GV.n a.1=IntKind.wrap u64 (QL e).1/\GV.s a.1=mkS []/\Kr a (BS c d e (a.2.1=(QL e).2.1/\a.2.2.1=e.2.2.2.2.1/\a.2.2.2=(QL e).2.2/\ZN g j c d o q t i m a))
 def bL:=Ji (2147483648<=(QL e).1) (BR g j c d o q t i m e) (B4 g j c d o q t i m e)
 def bG:=Ji ((QL e).1< -2147483648) (BR g j c d o q t i m e) (bL g j c d o q t i m e)
 def B1:=(Jt (g=z)->∃(a:ze×Int),a.2=N/\Yz j o c d q t a ((Mw a (a.2<=8))/\(∀V,jg c d i m V->Mt V a)/\∃(r:zp),GV.n r.1=(UU a)/\GV.s r.1=mkS []/\Mu q p c d j o t i m r a))
 abbrev ud:=kF e.2.2.1 e.2.2.2.1 e.2.2.2.2.2
 def B5:=∃(a:zp),GV.n a.1=0/\GV.s a.1=(ud e).1/\Kr a (BS c d e (a.2.1=(ud e).2.1/\a.2.2.1=e.2.2.2.2.1/\a.2.2.2=(ud e).2.2/\ZN g j c d o q t i m a))
 def bK:=(ud e).1=(ud e).1/\size (ud e).1<9223372036854775808/\((!qz (ud e).1)=true->∃(a:(Option Addr×Nat×Nat)×(Option Addr×Nat×Nat)×Int×Int×Int×Int),BZ e (a.2.2.1=(ud e).2.1/\a.2.2.2.1=e.2.2.2.2.1/\a.2.2.2.2.1=(ud e).2.2/\True/\∃(V:zp),GV.n V.1=0/\GV.s V.1=(ud e).1/\Mx g j c d o q t i m V a) a)/\((!qz (ud e).1)=false->B5 g j c d o q t i m e)
 def Mz:=(Mw h (h.2<9223372036854775808))/\(∀a,jg c d i m a->Mt a h)/\U
 abbrev uc:=ya h.1.2.2.1 h.1.2.2.2.1 h.1.2.2.2.2.2 h.2
 def B8:=l.2.1=(uc h).2.1/\l.2.2.1=h.1.2.2.2.2.1/\l.2.2.2=(uc h).2.2/\U
 def BX:=(v8 B<O/\kg B.1/\qC B.2.1.2.2.1 B.2.1.2.2.2.1/\(0<=B.2.1.2.2.2.2.1/\B.2.1.2.2.2.2.1<=2000)/\0<=B.2.1.2.2.2.2.2/\(0<=B.2.2.1/\B.2.2.1<(↑(length B.1):Int))/\1<=B.2.2.2/\B.2.2.2<=21)
 def BV:=qc B.1 B.2.1.1 X/\B.2.1.2.1.2.1=size B.2.1.2.2.1/\qfv X B.2.1.2.1.1 B.2.1.2.1.2.1 B.2.1.2.1.2.2 (q11 B.2.1.2.2.1)
 abbrev B3:=jB B.1 B.2.1.2.2.1 (toNat ((21:Int)- B.2.2.2)) B.2.2.1 (toNat B.2.1.2.2.2.1) (toNat B.2.1.2.2.2.2.1)
 abbrev BY:=q2u X (Addr.mk O A none) [int u64 (GV.n l.1),string (GV.s l.1),slice (GV.x l.1).1 (GV.x l.1).2.1 (GV.x l.1).2.2,slice (GV.y l.1).1 (GV.y l.1).2.1 (GV.y l.1).2.2,int i64 (GV.b l.1)]
 def B0:=c.1=B.2.1.1.1/\c.2.1=B.2.1.1.2.1/\c.2.2=B.2.1.1.2.2/\d.1=B.2.1.2.1.1/\d.2.1=B.2.1.2.1.2.1/\d.2.2=B.2.1.2.1.2.2/\U
 def bJ:=(0<=(uc h).1/\(uc h).1<(↑O:Int))/\w≠noA/\∃(a:Int),(∀V,jg c d i m V->q2u V (adr w (toNat (uc h).1*1)) [int i64 a])/\My g/\∃(r:vj),r.2.2.1=a/\r.2.2.2=g+1/\r.2.1.1.1=h.1.1.1/\r.2.1.1.2.1=h.1.1.2.1/\r.2.1.1.2.2=h.1.1.2.2/\r.2.1.2.1.1=h.1.2.1.1/\r.2.1.2.1.2.1=h.1.2.1.2.1/\r.2.1.2.1.2.2=h.1.2.1.2.2/\r.2.1.2.2.2.1=(uc h).2.1/\r.2.1.2.2.2.2.1=h.1.2.2.2.2.1/\r.2.1.2.2.2.2.2=(uc h).2.2/\BX A r/\(∀Y,jg c d i m Y->BV Y r)/\∀(S:zp),j1 (B3 r) r.2.1.2.2.1 r.2.1.2.2.2.1 (r.2.1.2.2.2.2.1+1) r.2.1.2.2.2.2.2 S->(∃i5,(jg c d i m i5)/\GV.ok S.1 i5)->∀(i6 i7 i8:Nat),(∃i9,((jg c d i m i9)/\GV.ok S.1 i9)/\BY i6 i7 i9 S)->∃(W:zp),UY W ((GV.x W.1).1=some (Addr.mk i6 (i7+nat_lit 0) none)/\(GV.x W.1).2.1=nat_lit 1/\(GV.x W.1).2.2=nat_lit 1/\UV W (GV.b W.1=(uc h).1/\B0 c d r (W.2.1=S.2.1/\W.2.2.1=S.2.2.1/\W.2.2.2=S.2.2.2/\UW g j o q t i m W/\(∀i11,((jg c d i m i11)/\GV.ok S.1 i11)/\BY i6 i7 i11 S->GV.ok W.1 i11)/\True)))
 def bE:=length (qa GV.cells v.2.2.2.2)=length v.2.2.2.2*5/\(length v.2.2.2.2+nat_lit 1)*80<=140737488355328/\Jb ((↑v.1:Int)+1)/\∃(a:Nat×Int×Int×Int×List GV),g=g/\j=j/\(↑a.1:Int)=(↑v.1:Int)+1/\B0 c d B (a.2.1=l.2.1/\a.2.2.1=l.2.2.1/\a.2.2.2.1=l.2.2.2/\length a.2.2.2.2=length v.2.2.2.2+nat_lit 1/\o=o/\m=m/\w=w/\O=O/\A=A/\q=q/\C=C/\D=D/\E=E/\F=F/\G=G/\t=t/\H=H/\I=I/\J=J/\K=K/\L=L/\M=M/\qa GV.cells a.2.2.2.2=qa GV.cells v.2.2.2.2++[int u64 (GV.n l.1),string (GV.s l.1),slice (GV.x l.1).1 (GV.x l.1).2.1 (GV.x l.1).2.2,slice (GV.y l.1).1 (GV.y l.1).2.1 (GV.y l.1).2.2,int i64 (GV.b l.1)]/\(∀V,((jg c d i u V)/\GV.oks v.2.2.2.2 V)/\GV.ok l.1 V->jg c d i u V)/\(∀r,((jg c d i u r)/\GV.oks v.2.2.2.2 r)/\GV.ok l.1 r->GV.oks a.2.2.2.2 r)/\GU i g j u p (z+1) a.1 a.2.1 a.2.2.1 a.2.2.2.1 a.2.2.2.2/\length (AT.fs (qd i g))- a.1<length (AT.fs (qd i g))- v.1/\True)
 def Ms:=(0<=(↑v.1:Int)/\(↑v.1:Int)<(↑O:Int))/\w≠noA/\∃(a:Int),(∀V,(jg c d i m V)/\GV.oks v.2.2.2.2 V->q2u V (Addr.add (adr w (toNat (↑v.1:Int)*9)) 2) [int i64 a])/\My g/\∃(r:vj),r.2.2.1=a/\r.2.2.2=g+1/\r.2.1.1.1=c.1/\r.2.1.1.2.1=c.2.1/\r.2.1.1.2.2=c.2.2/\r.2.1.2.1.1=d.1/\r.2.1.2.1.2.1=d.2.1/\r.2.1.2.1.2.2=d.2.2/\r.2.1.2.2.2.1=v.2.1/\r.2.1.2.2.2.2.1=v.2.2.1/\r.2.1.2.2.2.2.2=v.2.2.2.1/\BX A r/\(∀Y,(jg c d i m Y)/\GV.oks v.2.2.2.2 Y->BV Y r)/\∀(S:zp),j1 (B3 r) r.2.1.2.2.1 r.2.1.2.2.2.1 (r.2.1.2.2.2.2.1+1) r.2.1.2.2.2.2.2 S->(∃i5,((jg c d i m i5)/\GV.oks v.2.2.2.2 i5)/\GV.ok S.1 i5)->bE j g c d o q t i G D p C E z H I J F u w O L K M Q m v r S
 def bD:=(Ms g j c d o q t i m O p w A z C D E F G H I J K L M u Q v)/\(Ms g j c d o q t i m O p w A z C D E F G H I J K L M u Q v)/\Ms g j c d o q t i m O p w A z C D E F G H I J K L M u Q v
 def B9:=((jg c d i m X)/\GV.oks v.2.2.2.2 X)/\length v.2.2.2.2<=O/\qfu X w (take (length v.2.2.2.2*nat_lit 5) (qa GV.cells v.2.2.2.2))
 def BQ:=∀(a V r:Nat) (Y:Option Addr) (S i5:Nat),(∃i6,B9 c d i m i5 Y v i6)->∃(i7:zp),UY i7 ((GV.x i7.1).1=Y/\(GV.x i7.1).2.1=length v.2.2.2.2/\(GV.x i7.1).2.2=i5/\UV i7 (GV.b i7.1=0/\Yy c d (i7.2.1=v.2.1/\i7.2.2.1=v.2.2.1/\i7.2.2.2=v.2.2.2.1/\UW g j o q t i m i7/\(∀i8,B9 c d i m i5 Y v i8->GV.ok i7.1 i8)/\True)))
 def bC:=Ji (v.2.2.2.1=0) (bD g j c d o q t i m O p w A z C D E F G H I J K L M u Q v) (BQ g j c d p z N i m v)
 def bB:=Ji ((↑v.1:Int)<(↑O:Int)) (bC g j c d o q t i m O p w A z C D E F G N H I J K L M u Q v) (BQ g j c d p z N i m v)
 def bA:=(∃(a:Nat×Int×Int×Int×List GV),g=g/\j=j/\(↑a.1:Int)=0/\Yy c d (a.2.1=o/\a.2.2.1=q+1/\a.2.2.2.1=jy (q+1) j t/\length a.2.2.2.2=0/\p=p/\m=m/\w=w/\O=O/\A=A/\z=z/\C=C/\D=D/\E=E/\F=F/\G=G/\N=N/\H=H/\I=I/\J=J/\K=K/\L=L/\M=M/\UX c d i u/\(∀r,jg c d i u r->GV.oks a.2.2.2.2 r)/\GU i g j u o (q+1) a.1 a.2.1 a.2.2.1 a.2.2.2.1 a.2.2.2.2/\True))/\∀(Y:Nat×Int×Int×Int×List GV),GU i g j u o (q+1) Y.1 Y.2.1 Y.2.2.1 Y.2.2.2.1 Y.2.2.2.2->(∃S,(jg c d i u S)/\GV.oks Y.2.2.2.2 S)->bB j g c d p z N i u I o H Q q w O A F m t C D E K J L G M Y
 def bO:=qc x36.1 x36.2.1.1 X/\AT.ok x36.2.2.1 X/\x36.2.1.2.1.2.1=size x36.2.1.2.2.1/\qfv X x36.2.1.2.1.1 x36.2.1.2.1.2.1 x36.2.1.2.1.2.2 (q11 x36.2.1.2.2.1)
 def bH:=(Qf g=true->∃(a:YO),AT.k a.2.2.1=g/\AT.nm a.2.2.1=m/\(AT.al a.2.2.1).1=w/\(AT.al a.2.2.1).2.1=O/\(AT.al a.2.2.1).2.2=A/\AT.it a.2.2.1=j/\(AT.sy a.2.2.1).1=C/\(AT.sy a.2.2.1).2.1=D/\(AT.sy a.2.2.1).2.2=E/\AT.hd a.2.2.1=F/\AT.df a.2.2.1=G/\AT.sz a.2.2.1=o/\(AT.f a.2.2.1).1=H/\(AT.f a.2.2.1).2.1=I/\(AT.f a.2.2.1).2.2=J/\(AT.br a.2.2.1).1=K/\(AT.br a.2.2.1).2.1=L/\(AT.br a.2.2.1).2.2=M/\a.2.2.2=q/\a.2.1.1.1=c.1/\a.2.1.1.2.1=c.2.1/\a.2.1.1.2.2=c.2.2/\a.2.1.2.1.1=d.1/\a.2.1.2.1.2.1=d.2.1/\a.2.1.2.1.2.2=d.2.2/\a.2.1.2.2.2.1=t/\a.2.1.2.2.2.2.1=p+1/\a.2.1.2.2.2.2.2=jy (p+1) q z/\(xU a<Q+1/\kg a.1/\a.2.2.1∈a.1/\Fu a.2.2.1/\qC a.2.1.2.2.1 a.2.1.2.2.2.1/\(0<=a.2.1.2.2.2.2.1/\a.2.1.2.2.2.2.1<=2000)/\a.2.1.2.2.2.2.2=0/\1<=a.2.2.2/\a.2.2.2<=20)/\(∀V,jg c d i u V->bO V a)/\∀(r:zp),j1 (wq (zk a.1 a.2.1.2.2.1 a.2.2.2) a.2.1.2.2.1 a.2.2.1 (toNat a.2.1.2.2.2.1) (toNat a.2.1.2.2.2.2.1)) a.2.1.2.2.1 a.2.1.2.2.2.1 a.2.1.2.2.2.2.1 0 r->(∃Y,(jg c d i u Y)/\GV.ok r.1 Y)->∃(S:zp),GV.n S.1=GV.n r.1/\GV.s S.1=GV.s r.1/\(GV.x S.1).1=(GV.x r.1).1/\(GV.x S.1).2.1=(GV.x r.1).2.1/\(GV.x S.1).2.2=(GV.x r.1).2.2/\(GV.y S.1).1=(GV.y r.1).1/\(GV.y S.1).2.1=(GV.y r.1).2.1/\(GV.y S.1).2.2=(GV.y r.1).2.2/\GV.b S.1=GV.b r.1/\c.1=a.2.1.1.1/\c.2.1=a.2.1.1.2.1/\c.2.2=a.2.1.1.2.2/\d.1=a.2.1.2.1.1/\d.2.1=a.2.1.2.1.2.1/\d.2.2=a.2.1.2.1.2.2/\S.2.1=r.2.1/\S.2.2.1=r.2.2.1/\S.2.2.2=r.2.2.2/\UW q N t p z i u S/\(∀i5,(jg c d i u i5)/\GV.ok r.1 i5->GV.ok S.1 i5)/\True)/\(Qf g=false->B_ t p c d q z N i u)
 def bF:=(Ji (g=12) (∃(a:Unit),j=j/\g=g/\o=o/\Qf g=decide (g=12)/\Ks q t c d o p g i m O z w A N C D E F G H I J K L M u) (∃(r:Unit),j=j/\g=g/\o=o/\Qf g=decide (g=13)/\Ks q t c d o p g i m O z w A N C D E F G H I J K L M u))/\∀(S:Unit),True->bH g z c d N o q i m O t w A p C D E F G j H I J K L M u Q
 def bz:=Ji (g=9) (bA j o c d q t p i m O g w A z C D E F G N H I J K L M u Q) (bF g j c d o q t i m O p w A z C D E F G N H I J K L M u Q)
 def bx:=Ji (g=14) (∃(a:ze×Int),a.2=(↑O:Int)/\Yz j o c d q t a (Mz c d i m a (Ji ((uc a).2.2=0) (bJ q p c d j o t i m O w A a) (∃(i14:zp),UY i14 (B7 i14 (UV i14 (GV.b i14.1=(uc a).1/\Mv c d a (B8 i14 a (ZN q p c d j o t i m i14))))))))) (bz g p c d q j o i G D t C E z H I J F u N K L M w O Q m A)
 def bw:=Ji (g=11) (∃(a:ze×Int),a.2=j/\Yz o q c d t p a (Mz c d i m a (∃(r:zp),GV.n r.1=0/\GV.s r.1=(Kt a).1/\Mu t z c d o q p i m r a))) (bx g o c d q t p i m O z w A N C D E F G j H I J K L M u Q)
 def od:=Ji (g=10) (∃(a:ze×Int),a.2=(↑O:Int)/\Yz j o c d q t a (Mz c d i m a (∃(r:zp),GV.n r.1=IntKind.wrap u64 (uc a).1/\GV.s r.1=mkS []/\Kr r (Mv c d a (B8 r a (ZN q p c d j o t i m r)))))) (bw g z c d j o q i m A t w D p C E I F G N H O J K L M u Q)
 def oa:=(Qd g=true->∃(a:ze),BW j o c d q t i m a (Ji (g=8) (bK q p c d j o t i m a) (B5 q p c d j o t i m a)))/\(Qd g=false->od g j c d o q t i m O p w A z C D E F G N H I J K L M u Q)
 def n_:=(Ji (g=7) (∃(a:Unit),j=j/\Qd g=decide (g=7)/\g=g/\o=o/\Ks q t c d o p g i m O z w A N C D E F G H I J K L M u) (∃(r:Unit),j=j/\Qd g=decide (g=8)/\g=g/\o=o/\Ks q t c d o p g i m O z w A N C D E F G H I J K L M u))/\∀(S:Unit),True->oa g q c d t o p i u D j K L N w Q O F m z C A E H I J G M
 def n9:=B1 g j c d o q t i m p 6 8/\(Jf (g=6)->n_ g p c d q j o i G O t w A z C D E F u N H I J K L M m Q)
 def n7:=B1 g j c d o q t i m p 5 4/\(Jf (g=5)->n9 g j c d o q t i m O p w A z C D E F G N H I J K L M u Q)
 def n6:=(Qe g=true->∃(a:ze),BW j o c d q t i m a (Ji (g=3) (bG q p c d j o t i m a) (B4 q p c d j o t i m a)))/\(Qe g=false->n7 g j c d o q t i m O p w A z C D E F G N H I J K L M u Q)
 def nZ:=(Ji (g=3) (∃(a:Unit),j=j/\g=g/\o=o/\Qe g=decide (g=3)/\Ks q t c d o p g i m O z w A N C D E F G H I J K L M u) (∃(r:Unit),j=j/\g=g/\o=o/\Qe g=decide (g=4)/\Ks q t c d o p g i m O z w A N C D E F G H I J K L M u))/\∀(S:Unit),True->n6 g q c d t o p i u O j w A z C D E F m N H I J K L M G Q
 def nY:=(0<=g/\g<(↑c.2.1:Int))/\c.1≠noA/\∃(a:Int),∃V,∃r,∃(Y:Nat),∃(S:Nat),∃(i5:Int),∃i6,∃(i7:Nat),∃(i8:Nat),∃(i9:Bool),∃W,∃(i11:Int),∃i12,∃(i13:Nat),∃(i14:Nat),∃i15,∃(i16:Nat),∃(i17:Nat),(∀i18,jg c d i m i18->q2u i18 (adr c.1 (toNat g*10)) [int i64 a,string V,slice r Y S,int i64 i5,slice i6 i7 i8,bool i9,string W,int i64 i11,slice i12 i13 i14,slice i15 i16 i17])/\Ji (a=2) (∃(T:ze×Int),T.2=1/\Yz j o c d q t T ((Mw T (T.2<=8))/\(∀i20,jg c d i m i20->Mt i20 T)/\Ji (1<(UU T)) (∃(Z:(Option Addr×Nat×Nat)×(Option Addr×Nat×Nat)×Int×Int×Int×Int),Z.2.2.2.2.2=2/\Z.1.1=T.1.1.1/\Z.1.2.1=T.1.1.2.1/\Z.1.2.2=T.1.1.2.2/\Z.2.1.1=T.1.2.1.1/\Z.2.1.2.1=T.1.2.1.2.1/\Z.2.1.2.2=T.1.2.1.2.2/\Z.2.2.1=(Kt T).2.1/\Z.2.2.2.1=T.1.2.2.2.2.1/\Z.2.2.2.2.1=(Kt T).2.2/\True/\∃(i22:zp),GV.n i22.1=(UU T)/\GV.s i22.1=mkS []/\Mx q g c d j o t i m i22 Z) (∃(i24:zp),GV.n i24.1=(UU T)/\GV.s i24.1=mkS []/\Mu q g c d j o t i m i24 T))) (nZ a g c d q j o i V Y t r S i5 i6 i7 i8 i9 W i11 i12 i13 i14 i15 i16 i17 m O)
 def nX:=((!decide (jy (g+1) j o=0))=true->B_ q g c d j o t i m)/\((!decide (jy (g+1) j o=0))=false->nY t q c d g j o i m O)
 def nW:=My g/\(Ji (20<j) (BU o g c d q t j i m) (bM g o c d q t j i m))/\∀(i8:Unit),True->nX g j c d q o t i m O
end
def zyy(c:Nat) (S:List AT) (x y:SV) (D:O6) (n all e t h:Int):qiy P (qef [(55,Zy),(56,OH),(57,J0),(58,W_),(60,IQ),(61,W'),(59,wW)]) (qff [(31,wv.below v8 c),(62,(Z7 Fu).below xU (c+1))]) Tryz.f31 (wv.below v8 (c+1)) (wRv) ⟨S,⟨x,y,D,n,all,e⟩,t,h⟩=(v8 (S,(x,y,D,n,all,e),t,h)<c+1/\kg S/\qC D n/\(0<=all/\all<=2000)/\0<=e/\(0<=t/\t<(↑(length S):Int))/\1<=h/\h<=21->(∃(p:Pub),jg x y S D p)->nW all h x y n e t S D c):=by kernel_rfl
def j8g:=λc S x y D n all e t h=>Eq.trans (zyy c S x y D n all e t h) (by delta Ji Jb Jt Jf jg My BP UX BU B6 Yy bM UY B7 UV Kr UW ZN B_ Yz Mw Mt Kt UU Mx Mv Mu Ks bQ BW QL BZ BR BS B4 bL bG B1 ud B5 bK Mz uc B8 BX BV B3 BY B0 bJ bE Ms bD B9 BQ bC bB bA bO bH bF bz bx bw od oa n_ n9 n7 n6 nZ nY nX nW;exact rfl)
section
variable {S:List AT}
def G_{j:Nat} (h:j<S.length):qd S ((j:Nat):Int)=S[j]:=by unfold qd;rw[Int.toNat_natCast,List.getElem?_eq_getElem h];rfl
def zvg{all u e:Int} (h:20<u\/2000<all):jy all u e=if e=0 then 3 else e:=by unfold jy;split<;>split<;>omega
def jid{all h e:Int} (u:¬20<h) (A:¬2000<all):jy all h e=e:=by unfold jy;rw[if_neg (by omega)]
def jie{all u e:Int} (h:jy all u e=0):e=0/\¬20<u/\¬2000<all:=by unfold jy at h;split at h<;>omega
def j83{all u e:Int} (h:jy all u e≠0):e≠0/\jy all u e=e\/e=0/\jy all u e=3/\(20<u\/2000<all):=by
 unfold jy at*;split at h
 ·rename_i g;exact .inr ⟨g.1,by rw[if_pos g],g.2⟩
 ·rename_i g;exact .inl ⟨h,by rw[if_neg g]⟩
variable {D:O6}
def ji4{t u all:Int} {n:Nat} (A:1<=u) (C:u<=21) (G:0<=all) (h:20<u\/2000<all+1):jB S D (21- u).toNat t n all.toNat= .no 2:=by
 rcases h with h|h
 ·rw[show(21- u).toNat=0 by omega];rfl
 ·cases(21- u).toNat with
  |zero=>rfl
  |succ f=>rw[jB,if_pos (by omega)]
def j7m{u all:Int} {j n:Nat} (A:j<S.length) (C:1<=u) (G:¬20<u) (H:0<=all) (h:¬2000<all+1):jB S D (21- u).toNat ((j:Nat):Int) n all.toNat=yS (zk S D u) D S[j] n (all+1).toNat:=by rw[show(21- u).toNat=(20- u).toNat+1 by omega,jB,if_neg (by omega),Int.toNat_natCast,List.getElem?_eq_getElem A,show(all+1).toNat=all.toNat+1 by omega];rfl
def jxi{a:AT} {p:Pub} (h:a.ok p) {j:Nat} (A:j<a.fs.length):q2u p ((adr a.f.1 (j*9)).add 2) [.int .i64 a.fs[j].ty]:=λi v hi=>by
  have u:=(vV h A).2;cases i with
  | zero=>
    simp at hi;subst hi;have:=u 2 _ (show a.fs[j].cells[2]? =some (.int .i64 a.fs[j].ty)from rfl);rw[Addr.add_add,Nat.add_zero];exact this
  |succ i=>simp at hi
def dE(l:List GV) (v:GV):GV.pvs (l++[v])=GV.pvs l++[v.pv]:=by rw[GV.pvs_map,GV.pvs_map];simp
def Ub{fs:List GV} {a:Option Addr} {c:Nat} {q:Pub} (u:GV.oks fs q) (A:fs.length<=c) (h:qfu q a (List.take (fs.length*5) (qa GV.cells fs))):(GV.mk 0 (mkS []) (a,fs.length,c) fs (none,0,0) [] 0).ok q:=by rw[List.take_of_length_le (by rw[qB jw];exact Nat.le_refl _)]at h;unfold GV.ok;exact⟨⟨rfl,A,h⟩,qQ,u⟩
variable {g:Int->Nat->Nat->z'} {ts:List Int} {l:List PV}
def j8f{n c:Nat} {i:Nat} (h:ts.length<=i):yA g (ts.drop i) l n c= .ok (l,n,c):=by rw[List.drop_of_length_le h];rfl
def j8e{n c:Nat} {i:Nat} (h:i<ts.length):yA g (ts.drop i) l n c=(g ts[i] n c).bind λr=>yA g (ts.drop (i+1)) (l++[r.1]) r.2.1 r.2.2:=by rw[List.drop_eq_getElem_cons h,yA]
def IM{α:Type} {R:z'} {f:PV×Nat×Nat->Rs α} {u:Rs α} {v:PV} {n c e:Int} (h:YP R v n c e) (A:R.bind f=u):vu u e (f (v,n.toNat,c.toNat)=u):=by
  cases R with
  |no k=>exact .inr ⟨k,h,A.symm⟩
  | ok r=>
    obtain⟨rfl,rfl,rfl,rfl⟩:=h;exact .inl ⟨rfl,A⟩
def yh(N:Int) (s:O6) (n e:Int):Rs (PV×Nat):=if e=0 then .ok (.mk N s [] [] 0,n.toNat)else .no (e- 1).toNat
def zxt{a:AT} {n n' all h N:Int} {s:O6} (Q:Pub->Prop) (u:a.k≠9/\a.k≠14/\a.k≠12/\a.k≠13) (A:ja a D n.toNat=yh N s n' h) (he:0<=h) (hd:qC D n') (G:0<=all) (H:¬2000<all+1) (C:n<=n'):∃b:zp,b.1.n=N/\b.1.s=s/\b.1.x.1=noA/\b.1.x.2.1=0/\b.1.x.2.2=0/\b.1.y.1=noA/\b.1.y.2.1=0/\b.1.y.2.2=0/\b.1.b=0/\b.2.1=n'/\b.2.2.1=all+1/\b.2.2.2=h/\j1 (yS g D a n.toNat (all+1).toNat) D n (all+1) 0 b/\∀q,Q q->b.1.ok q:=by
 refine⟨(.mk N s (none,0,0) [] (none,0,0) [] 0,n',all+1,h),rfl,rfl,rfl,rfl,rfl,rfl,rfl,rfl,rfl,rfl,rfl,rfl,⟨?_,hd,⟨by omega,by omega⟩,λ_=>by omega,C⟩,λq _=> ?_⟩
 ·rw[if_pos rfl];unfold yS;rw[if_neg u.1,if_neg u.2.1,if_neg (by omega),A];unfold yh;have:=hd.1;split
  ·rw[qR];exact⟨by assumption,rfl,by show n'=((n'.toNat:Nat):Int);omega,by show all+1=(((all+1).toNat:Nat):Int);omega⟩
  ·rw[vX];show h=(((h- 1).toNat:Nat):Int)+1;omega
 ·unfold GV.ok GV.oks;exact⟨qQ,qQ,trivial⟩
def j8h(c:Nat) (hv0:q1i P 31 (wv.below v8 c)) (hb0:q1i P 62 ((Z7 Fu).below xU (c+1))):q1i P 31 (wv.below v8 (c+1)):=by
 refine zI (qbu (qfr VZ (qfr zy0 (qfr W3 (qfr IG (qfr zii (qfr IF (qfr G9 qil)))))))) (qcl (qfq hv0 (qfq hb0 qik))) (W:=wRv) Tryz.func31 λ⟨S,⟨(x:SV),(y:SV),D,(n:Int),(all:Int),(e:Int)⟩,(t:Int),(H:Int)⟩=>(j8g c S x y D n all e t H).mpr ?_;rintro⟨hmu,O,hd,⟨ha0,ha1⟩,he,⟨t0,t1⟩,hp1,hp2⟩ ⟨p,_,hx,hyl,hy⟩;have hS:=O.1;have hmu:(25- H).toNat<c+1:=hmu;have xs:x.2.1=S.length:=hx.1.1;simp only[qy,exists_const,forall_const,Int.toNat_natCast];refine⟨⟨by omega,by omega⟩,⟨λh20=>⟨⟨x,y,n,all+1,e,3⟩,rfl,rfl,rfl,rfl,rfl,rfl,rfl,rfl,rfl,rfl,rfl,rfl,rfl,rfl,rfl,rfl,rfl,rfl,zvg (.inl h20)⟩,λh20=>⟨λhA=>⟨⟨x,y,n,all+1,e,3⟩,rfl,rfl,rfl,rfl,rfl,rfl,rfl,rfl,rfl,rfl,rfl,rfl,rfl,rfl,rfl,rfl,rfl,rfl,zvg (.inr hA)⟩,λhA=>jid h20 hA⟩⟩,λhne=> ?_,λhE=> ?_⟩
 ·refine⟨⟨zV,n,all+1,jy (all+1) H e⟩,rfl,rfl,rfl,rfl,rfl,rfl,rfl,rfl,rfl,rfl,rfl,rfl,⟨?_,hd,⟨by omega,by omega⟩,λh=>absurd h hne,Int.le_refl _⟩,λq _=>kL q⟩;rcases j83 hne with⟨u,h2⟩|⟨u,h2,Z⟩
  ·rw[if_neg u,h2]
  ·rw[if_pos u,h2,ji4 hp1 hp2 ha0 Z];rfl
 obtain⟨rfl,l1,l2⟩:=jie hE;rw[hE];obtain⟨j,rfl⟩:=Int.eq_ofNat_of_zero_le t0;have V:j<S.length:=by omega
 rw[j7m V hp1 l1 ha0 l2];have htp:=λq (hq:qc S x q)=>yp hq V;have U:=λq (hq:qc S x q)=>hq.2 S[j] (List.getElem_mem V);refine⟨⟨by omega,by omega⟩,(htp p hx).1,S[j].k,S[j].nm,S[j].al.1,S[j].al.2.1,S[j].al.2.2,S[j].it,S[j].sy.1,S[j].sy.2.1,S[j].sy.2.2,S[j].hd,S[j].df,S[j].sz,S[j].f.1,S[j].f.2.1,S[j].f.2.2,S[j].br.1,S[j].br.2.1,S[j].br.2.2,λq hq=>(htp q hq.1).2,?_⟩;have hn0:=hd.1;have hn1:=hd.2.1;have hkd:=O.2.1 S[j] (List.getElem_mem V);have hrg:=O.2.2 S[j] (List.getElem_mem V);have fin:∀(n' e' N:Int) (s:O6),(S[j].k≠9/\S[j].k≠14/\S[j].k≠12/\S[j].k≠13)->ja S[j] D n.toNat=yh N s n' e'->0<=e'->qC D n'->n<=n'->_:=λn' e' N s hk hR he hd=>zxt (g:=zk S D H) (λq=>qc S x q/\y.2.1=D.size/\qfv q y.1 y.2.1 y.2.2 (q11 D)) hk hR he hd ha0 l2;clear hE;refine⟨λk2=> ?_,λk2=> ?_⟩
 ·refine⟨⟨⟨x,y,D,n,all+1,0⟩,1⟩,rfl,rfl,rfl,rfl,rfl,rfl,rfl,rfl,rfl,rfl,⟨hd,by show(0:Int)<=1;decide,by show(1:Int)<=8;decide⟩,λq hq=>hq.2,?_⟩;simp only[Ll hd (show(0:Int)<=1 by decide)];have hf:=Hb (D:=D) (i:=n.toNat) (k:=1) (by omega);have J:ja S[j] D n.toNat=(wo D n.toNat 1).bind λr=>if 1<wz r.1 then .no 1 else .ok (yd (wz r.1),r.2):=by unfold ja;rw[if_neg (by omega),if_pos k2]
  unfold wo wP wz at J;generalize zY D n.toNat 1=T at*;obtain⟨s,e1,m⟩:=T;simp only at hf J⊢;have A:qC D m:=⟨by omega,by omega,hd.2.2⟩;by_cases u:e1=0
  ·rw[if_pos u,qR]at J;refine⟨λh=>⟨⟨x,y,m,all+1,e1,2⟩,rfl,rfl,rfl,rfl,rfl,rfl,rfl,rfl,rfl,rfl,?_⟩,λh=> ?_⟩
   ·simp only[true_and,and_true,u,if_true];exact fin m 2 _ _ (by omega) (by rw[J,if_pos h];rfl) (by decide) A (by omega)
   ·simp only[true_and,and_true];exact fin m e1 _ _ (by omega) (by rw[J,if_neg h,u];rfl) (by omega) A (by omega)
  ·rw[if_neg u,vX]at J;refine⟨λh=>⟨⟨x,y,m,all+1,e1,2⟩,rfl,rfl,rfl,rfl,rfl,rfl,rfl,rfl,rfl,rfl,?_⟩,λh=> ?_⟩
   ·simp only[true_and,and_true,u,if_false];exact fin m e1 _ _ (by omega) (by rw[J];unfold yh;rw[if_neg u]) (by omega) A (by omega)
   ·simp only[true_and,and_true];exact fin m e1 _ _ (by omega) (by rw[J];unfold yh;rw[if_neg u]) (by omega) A (by omega)
 refine⟨⟨λh=>by unfold Qe;exact qV (by omega),λh=>by unfold Qe;exact qV (by omega)⟩,λhI=> ?_,λhI=> ?_⟩
 ·unfold Qe at hI;rw[decide_eq_true_eq]at hI;refine⟨⟨x,y,D,n,all+1,0⟩,rfl,rfl,rfl,rfl,rfl,rfl,rfl,rfl,rfl,hd,λq hq=>hq.2,?_⟩;simp only[J6 hd];have hf:=Zu D n.toNat (by omega);have Z:S[j].k=3->ja S[j] D n.toNat=(yH D n.toNat).bind λr=>if r.1< -2147483648\/2147483648<=r.1 then .no 1 else .ok (yd (r.1 % 18446744073709551616),r.2):=λh=>by unfold ja;rw[if_neg (by omega),if_neg (by omega),if_pos h]
  have h4:¬S[j].k=3->ja S[j] D n.toNat=(yH D n.toNat).bind λr=> .ok (yd (r.1 % 18446744073709551616),r.2):=λh=>by unfold ja;rw[if_neg (by omega),if_neg (by omega),if_neg h,if_pos (by omega)]
  unfold yH at Z h4;generalize qi D n.toNat=T at*;obtain⟨v,e1,m⟩:=T;simp only at hf Z h4⊢;have A:qC D (m:Int):=⟨by omega,by omega,hd.2.2⟩;simp only[wrap_u64];by_cases u:e1=0
  ·rw[if_pos u]at Z h4;refine⟨λk3=>⟨λh=>⟨⟨x,y,m,all+1,e1,2⟩,rfl,rfl,rfl,rfl,rfl,rfl,rfl,rfl,rfl,rfl,?_⟩,λh=>⟨λh'=>⟨⟨x,y,m,all+1,e1,2⟩,rfl,rfl,rfl,rfl,rfl,rfl,rfl,rfl,rfl,rfl,?_⟩,λh'=> ?_⟩⟩,λk3=> ?_⟩
   ·simp only[true_and,and_true,u,if_true];exact fin m 2 _ _ (by omega) (by rw[Z k3,qR,if_pos (.inl h)];rfl) (by decide) A (by omega)
   ·simp only[true_and,and_true,u,if_true];exact fin m 2 _ _ (by omega) (by rw[Z k3,qR,if_pos (.inr h')];rfl) (by decide) A (by omega)
   ·simp only[true_and,and_true];exact fin m e1 _ _ (by omega) (by rw[Z k3,qR,if_neg (by omega),u];rfl) (by omega) A (by omega)
   ·simp only[true_and,and_true];exact fin m e1 _ _ (by omega) (by rw[h4 k3,qR,u];rfl) (by omega) A (by omega)
  ·rw[if_neg u]at Z h4;have hno:∀(N:Int) (s:O6),ja S[j] D n.toNat=yh N s m e1:=λN s=>by
    have hz:∀k:Nat,yh N s (m:Int) (e1:Int)= .no (e1- 1):=λ_=>(by unfold yh;rw[if_neg (by omega)];congr 1;omega);by_cases h:S[j].k=3
    ·rw[Z h,vX,hz 0]
    ·rw[h4 h,vX,hz 0]
   have fin2:=λ(N:Int) (s:O6)=>fin m e1 N s (by omega) (hno N s) (by omega) A (by omega);have h1':¬(e1:Int)=0:=(by omega);refine⟨λk3=>⟨λh=>⟨⟨x,y,m,all+1,e1,2⟩,rfl,rfl,rfl,rfl,rfl,rfl,rfl,rfl,rfl,rfl,?_⟩,λh=>⟨λh'=>⟨⟨x,y,m,all+1,e1,2⟩,rfl,rfl,rfl,rfl,rfl,rfl,rfl,rfl,rfl,rfl,?_⟩,λh'=> ?_⟩⟩,λk3=> ?_⟩;all_goals simp only[true_and,and_true,h1',if_false]
   all_goals exact fin2 _ _
 unfold Qe at hI;rw[decide_eq_false_iff_not]at hI;have low:∀k:Int,(k=4\/k=8)->(S[j].k=5\/S[j].k=6)->(ja S[j] D n.toNat=(wo D n.toNat k).bind λr=> .ok (yd (wz r.1),r.2))->_:=λk hk h56 J=>(by
  have hf:=Hb (D:=D) (i:=n.toNat) (k:=k) (by omega);unfold wo wP wz at J;exact fin (zY D n.toNat k).2.2 (zY D n.toNat k).2.1 (jz (zY D n.toNat k).1.data.toList:Nat) (mkS []) (by omega) (by
   rw[J];unfold yh;by_cases h:(zY D n.toNat k).2.1=0
   ·rw[if_pos h,if_pos h];rfl
   ·rw[if_neg h,if_neg h];rfl) hf.1.1 ⟨by omega,by omega,hd.2.2⟩ (by omega))
 refine⟨λk5=> ?_,λk5=>⟨λk6=> ?_,λk6=>⟨⟨λh=>by unfold Qd;exact qV (by omega),λh=>by unfold Qd;exact qV (by omega)⟩,λhb=> ?_,λhb=> ?_⟩⟩⟩
 ·refine⟨⟨⟨x,y,D,n,all+1,0⟩,4⟩,rfl,rfl,rfl,rfl,rfl,rfl,rfl,rfl,rfl,rfl,⟨hd,by show(0:Int)<=4;decide,by show(4:Int)<=8;decide⟩,λq hq=>hq.2,?_⟩;simp only[Ll hd (show(0:Int)<=4 by decide),true_and,and_true];exact low 4 (.inl rfl) (.inl k5) (by unfold ja;rw[if_neg (by omega),if_neg k2,if_neg (by omega),if_neg (by omega),if_pos k5])
 ·refine⟨⟨⟨x,y,D,n,all+1,0⟩,8⟩,rfl,rfl,rfl,rfl,rfl,rfl,rfl,rfl,rfl,rfl,⟨hd,by show(0:Int)<=8;decide,by show(8:Int)<=8;decide⟩,λq hq=>hq.2,?_⟩;simp only[Ll hd (show(0:Int)<=8 by decide),true_and,and_true];exact low 8 (.inr rfl) (.inr k6) (by unfold ja;rw[if_neg (by omega),if_neg k2,if_neg (by omega),if_neg (by omega),if_neg k5,if_pos k6])
 ·unfold Qd at hb;rw[decide_eq_true_eq]at hb;refine⟨⟨x,y,D,n,all+1,0⟩,rfl,rfl,rfl,rfl,rfl,rfl,rfl,rfl,rfl,hd,λq hq=>hq.2,?_⟩;simp only[Pz hd,true_and,and_true];have hf:=zea (D:=D) (i:=n.toNat) (by omega);have h7:S[j].k=7->ja S[j] D n.toNat=(VW D n.toNat).bind λr=> .ok (Jp r.1,r.2):=λh=>by unfold ja;rw[if_neg (by omega),if_neg (by omega),if_neg (by omega),if_neg (by omega),if_neg (by omega),if_neg (by omega),if_pos h]
  have h8:S[j].k=8->ja S[j] D n.toNat=(Zt D n.toNat).bind λr=> .ok (Jp r.1,r.2):=λh=>by unfold ja;rw[if_neg (by omega),if_neg (by omega),if_neg (by omega),if_neg (by omega),if_neg (by omega),if_neg (by omega),if_neg (by omega),if_pos h]
  unfold VW wP at h7;unfold Zt wP G0 at h8;generalize kk D n.toNat=T at*;obtain⟨s,e1,m⟩:=T;simp only at hf h7 h8⊢;have A:qC D m:=⟨by omega,by omega,hd.2.2⟩;by_cases u:e1=0
  ·rw[if_pos u]at h7;refine⟨λk8=>⟨by omega,λhv=> ?_,λhv=> ?_⟩,λk8=> ?_⟩
   ·rw[if_neg (by rw[if_pos ⟨u,hv⟩];decide),if_pos ⟨u,hv⟩]at h8;refine⟨⟨x,y,m,all+1,e1,2⟩,rfl,rfl,rfl,rfl,rfl,rfl,rfl,rfl,rfl,rfl,?_⟩;simp only[true_and,and_true,u,if_true];exact fin m 2 _ _ (by omega) (by rw[h8 k8];rfl) (by decide) A (by omega)
   ·rw[if_neg (show¬(e1=0/\qz s=false)by rw[hv];simp),if_pos u]at h8;exact fin m e1 _ _ (by omega) (by rw[h8 k8,u];rfl) (by omega) A (by omega)
   ·exact fin m e1 _ _ (by omega) (by rw[h7 (by omega),u];rfl) (by omega) A (by omega)
  ·rw[if_neg u]at h7;rw[if_neg (show¬(e1=0/\qz s=false)by omega),if_neg u]at h8;refine⟨λk8=>⟨by omega,λhv=> ?_,λhv=> ?_⟩,λk8=> ?_⟩
   ·refine⟨⟨x,y,m,all+1,e1,2⟩,rfl,rfl,rfl,rfl,rfl,rfl,rfl,rfl,rfl,rfl,?_⟩;simp only[true_and,and_true,u,if_false];exact fin m e1 _ _ (by omega) (by rw[h8 k8];unfold yh;rw[if_neg u];rfl) (by omega) A (by omega)
   ·exact fin m e1 _ _ (by omega) (by rw[h8 k8];unfold yh;rw[if_neg u];rfl) (by omega) A (by omega)
   ·exact fin m e1 _ _ (by omega) (by rw[h7 (by omega)];unfold yh;rw[if_neg u];rfl) (by omega) A (by omega)
 unfold Qd at hb;rw[decide_eq_false_iff_not]at hb;obtain⟨_,syl,fl,bl⟩:=uD (U p hx);have sm:=hS.2 S[j] (List.getElem_mem V);refine⟨λk10=> ?_,λk10=>⟨λk11=> ?_,λk11=>⟨λk14=> ?_,λk14=> ?_⟩⟩⟩
 ·refine⟨⟨⟨x,y,D,n,all+1,0⟩,(S[j].sy.2.1:Int)⟩,rfl,rfl,rfl,rfl,rfl,rfl,rfl,rfl,rfl,rfl,⟨hd,by show(0:Int)<=(S[j].sy.2.1:Int);omega,by show(S[j].sy.2.1:Int)<_;omega⟩,λq hq=>hq.2,?_⟩;simp only[Pp hd,true_and,and_true,wrap_u64];have hf:=Zu D n.toNat (by omega);have J:ja S[j] D n.toNat=(Z_ D n.toNat S[j].sys.length).bind λr=> .ok (yd r.1,r.2):=by unfold ja;rw[if_neg (by omega),if_neg k2,if_neg (by omega),if_neg (by omega),if_neg k5,if_neg k6,if_neg (by omega),if_neg (by omega),if_pos k10]
  unfold Z_ at J;rw[←syl]at J;have A:qC D ((qi D n.toNat).2.2:Nat):=⟨by omega,by omega,hd.2.2⟩;refine fin _ _ _ _ (by omega) ?_ (by omega) A (by omega);rw[J];unfold yh;by_cases u:vN D n.toNat S[j].sy.2.1=0
  ·have hrr:0<=(qi D n.toNat).1:=(by unfold vN at u;split at u<;>omega);rw[if_pos u,if_pos (by omega),if_pos u,qR,Int.emod_eq_of_lt hrr (by omega),Int.toNat_natCast];rfl
  ·rw[if_neg u,if_neg (by omega),vX];congr 1;omega
 ·have hz:=hrg.2.2.2 k11;refine⟨⟨⟨x,y,D,n,all+1,0⟩,S[j].sz⟩,rfl,rfl,rfl,rfl,rfl,rfl,rfl,rfl,rfl,rfl,⟨hd,by show(0:Int)<=S[j].sz;omega,by show S[j].sz<_;omega⟩,λq hq=>hq.2,?_⟩;simp only[Ll hd hz.1,true_and,and_true];have hf:=Hb (D:=D) (i:=n.toNat) (k:=S[j].sz) (by omega);have J:ja S[j] D n.toNat=(wo D n.toNat S[j].sz).bind λr=> .ok (Jp r.1,r.2):=by unfold ja;rw[if_neg (by omega),if_neg k2,if_neg (by omega),if_neg (by omega),if_neg k5,if_neg k6,if_neg (by omega),if_neg (by omega),if_neg k10,if_pos k11]
  unfold wo wP at J;refine fin _ _ _ _ (by omega) ?_ (by omega) ⟨by omega,by omega,hd.2.2⟩ (by omega);rw[J];unfold yh;by_cases u:(zY D n.toNat S[j].sz).2.1=0
  ·rw[if_pos u,if_pos u];rfl
  ·rw[if_neg u,if_neg u];rfl
 ·have X:yS (zk S D H) D S[j] n.toNat (all+1).toNat=GZ (zk S D H) D S[j] n.toNat (all+1).toNat:=by unfold yS;rw[if_neg (by omega),if_pos k14]
  refine⟨⟨⟨x,y,D,n,all+1,0⟩,(S[j].br.2.1:Int)⟩,rfl,rfl,rfl,rfl,rfl,rfl,rfl,rfl,rfl,rfl,⟨hd,by show(0:Int)<=(S[j].br.2.1:Int);omega,by show(S[j].br.2.1:Int)<_;omega⟩,λq hq=>hq.2,?_⟩;have hf:=Zu D n.toNat (by omega);have A:qC D ((qi D n.toNat).2.2:Nat):=⟨by omega,by omega,hd.2.2⟩;rw[X];unfold GZ Z_;rw[←bl];simp only[Pp hd,true_and,and_true];by_cases u:vN D n.toNat S[j].br.2.1=0
  ·have hrr:0<=(qi D n.toNat).1/\(qi D n.toNat).1<S[j].br.2.1:=(by unfold vN at u;split at u<;>omega);rw[if_pos u,if_pos u,qR];refine⟨λ_=>⟨hrr,?_⟩,λh=>absurd (by omega) h⟩;obtain⟨b,hb⟩:=Int.eq_ofNat_of_zero_le hrr.1;have hbl:b<S[j].brs.length:=(by omega);have hba:=λq (hq:qc S x q)=>yV (U q hq) hbl;have hbr:=hrg.2.1 S[j].brs[b] (List.getElem_mem hbl);have hgd:S[j].brs.getD b 0=S[j].brs[b]:=(by rw[List.getD_eq_getElem?_getD,List.getElem?_eq_getElem hbl];rfl);simp only[hb,Int.toNat_natCast,hgd];refine⟨(hba p hx).1,S[j].brs[b],λq hq=>(hba q hq.1).2,⟨by omega,by omega⟩,⟨S,⟨x,y,D,((qi D n.toNat).2.2:Nat),all+1,0⟩,S[j].brs[b],H+1⟩,rfl,rfl,rfl,rfl,rfl,rfl,rfl,rfl,rfl,rfl,(by show(0:Int)=((vN D n.toNat S[j].br.2.1:Nat):Int);omega),⟨by show(25- (H+1)).toNat<c;omega,O,A,⟨by show 0<=all+1;omega,by show all+1<=2000;omega⟩,Int.le_refl _,hbr,by show 1<=H+1;omega,by show H+1<=21;omega⟩,λq hq=>hq,?_⟩;rintro⟨r,n',C,e'⟩ ⟨Y,g2,g3,g4,g6⟩ _ b2 s2 _;have g6:((qi D n.toNat).2.2:Nat)<=n':=g6;have g3:all+1+1<=C/\C<=2001:=g3;rw[if_pos rfl,show(21- (H+1)).toNat=(20- H).toNat by omega]at Y;simp only[Int.toNat_natCast]at Y;refine⟨⟨.mk 0 (mkS []) (some ⟨b2,s2+0,none⟩,1,1) [r] (none,0,0) [] b,n',C,e'⟩,rfl,rfl,rfl,rfl,rfl,rfl,rfl,rfl,rfl,rfl,rfl,rfl,rfl,rfl,rfl,rfl,rfl,rfl,⟨?_,g2,⟨by omega,by omega⟩,g4,by omega⟩,λq hq=> ?_⟩
   ·rw[if_pos rfl];show YP ((jB S D (20- H).toNat S[j].brs[b] (qi D n.toNat).2.2 (all+1).toNat).bind _) _ _ _ _;revert Y;cases jB S D (20- H).toNat S[j].brs[b] (qi D n.toNat).2.2 (all+1).toNat with
    |no k=>exactλY=>Y
    |ok w=>exactλ⟨q1,q2,q3,q4⟩=>⟨q1,by rw[GV.pv,GV.pvs,GV.pvs,q2],q3,q4⟩
   ·unfold GV.ok;exact⟨⟨rfl,Nat.le_refl _, .inr ⟨_,rfl,rfl,hq.2⟩⟩,qQ,uH hq.1.2⟩
  ·rw[if_neg u,if_neg u,vX];refine⟨λh=>absurd h (by omega),λ_=>⟨⟨zV,((qi D n.toNat).2.2:Nat),all+1,(vN D n.toNat S[j].br.2.1:Nat)⟩,rfl,rfl,rfl,rfl,rfl,rfl,rfl,rfl,rfl,rfl,rfl,rfl,⟨?_,A,⟨by omega,by omega⟩,λ_=>by omega,by omega⟩,λq _=>kL q⟩⟩;rw[if_pos rfl];show((vN D n.toNat S[j].br.2.1:Nat):Int)=((vN D n.toNat S[j].br.2.1- 1:Nat):Int)+1;omega
 refine⟨λk9=> ?_,λk9=>⟨⟨λh=>by unfold Qf;exact qV (by omega),λh=>by unfold Qf;exact qV (by omega)⟩,λhA=> ?_,λhA=> ?_⟩⟩
 ·have X:yS (zk S D H) D S[j] n.toNat (all+1).toNat=WW (zk S D H) S[j] n.toNat (all+1).toNat:=by unfold yS;rw[if_pos k9]
  rw[X];refine⟨⟨⟨0,n,all+1,0,[]⟩,rfl,rfl,rfl,rfl,rfl,λq _=>GV.oks_iff.2 λw hw=>(by cases hw),⟨Nat.zero_le _,rfl,hd,⟨Int.le_refl _,by show all+1<=2001;omega⟩,λ_=>by show all+1<=2000;omega,Int.le_refl _, .inl ⟨rfl,rfl⟩⟩⟩,?_⟩;rintro⟨i,n1,G,e1,fs⟩ ⟨r1,r2,r3,⟨r4,r5⟩,r5',r7,r6⟩ ⟨p2,hp2,hfsok⟩;rw[G_ V]at r1 r6;simp only at r1 r2 r3 r4 r5 r5' r6 r7 hfsok⊢;have rc:∀(a:Option Addr) (cc:Nat),(e1≠0\/S[j].fs.length<=i)->j1 (WW (zk S D H) S[j] n.toNat (all+1).toNat) D n (all+1) 0 (.mk 0 (mkS []) (a,fs.length,cc) fs (none,0,0) [] 0,n1,G,e1):=λa cc hc=>by
   refine⟨?_,r3,⟨by omega,r5⟩,r5',r7⟩;rw[if_pos rfl];unfold WW;rcases r6 with⟨q1,q2⟩|⟨k,q1,q2⟩
   ·rw[j8f (by rw[List.length_map];omega)]at q2;rw[←q2,qR];have:=r3.1;exact⟨q1,by rw[GV.pv],by show n1=((n1.toNat:Nat):Int);omega,by show G=((G.toNat:Nat):Int);omega⟩
   ·rw[q2,vX];exact q1
  refine⟨λhlt=>⟨λhz0=> ?_,λhnz a cc _=>⟨⟨.mk 0 (mkS []) (a,fs.length,cc) fs (none,0,0) [] 0,n1,G,e1⟩,rfl,rfl,rfl,rfl,rfl,rfl,rfl,rfl,rfl,rfl,rfl,rfl,rc a cc (.inl (by omega)),λq hq=>Ub hq.1.2 hq.2.1 hq.2.2⟩⟩,λhge a cc _=>⟨⟨.mk 0 (mkS []) (a,fs.length,cc) fs (none,0,0) [] 0,n1,G,e1⟩,rfl,rfl,rfl,rfl,rfl,rfl,rfl,rfl,rfl,rfl,rfl,rfl,rc a cc (.inr (by omega)),λq hq=>Ub hq.1.2 hq.2.1 hq.2.2⟩⟩;subst hz0;have hif:i<S[j].fs.length:=by omega
  have r6:yA (zk S D H) ((S[j].fs.map AF.ty).drop i) (GV.pvs fs) n1.toNat G.toNat=yA (zk S D H) (S[j].fs.map AF.ty) [] n.toNat (all+1).toNat:=by
   rcases r6 with⟨_,q⟩|⟨k,q,_⟩
   ·exact q
   ·omega
  rw[j8e (by rw[List.length_map];exact hif),List.getElem_map]at r6;have hft:=hrg.1 _ (List.getElem_mem hif);have hfty:=λq hq=>jxi (U q hq) hif;have hne:=(vV (U p hx) hif).1;have hr0:=r5' rfl;refine⟨?ra,?rb,?rc⟩;case ra|rb|rc=>
   refine⟨⟨by omega,by omega⟩,hne,S[j].fs[i].ty,λq hq=>hfty q hq.1.1,⟨by omega,by omega⟩,⟨S,⟨x,y,D,n1,G,0⟩,S[j].fs[i].ty,H+1⟩,rfl,rfl,rfl,rfl,rfl,rfl,rfl,rfl,rfl,rfl,rfl,⟨by show(25- (H+1)).toNat<c;omega,O,r3,⟨by show 0<=G;omega,hr0⟩,Int.le_refl _,hft,by show 1<=H+1;omega,by show H+1<=21;omega⟩,λq hq=>hq.1,?_⟩;rintro⟨r,n',C,e'⟩ ⟨Y,g2,g3,g4,g6⟩ _;have g6:n1<=n':=g6;have g3:G+1<=C/\C<=2001:=g3;rw[if_pos rfl,show(21- (H+1)).toNat=(20- H).toNat by omega]at Y;have hag:=IM Y r6;refine⟨qB jw fs,by omega,⟨by omega,by omega⟩,⟨i+1,n',C,e',fs++[r]⟩,by show((i+1:Nat):Int)=_;omega,?_⟩;simp only[true_and,and_true,eq_self];refine⟨by simp,by rw[zF];rfl,λq hq=>hq.1.1,λq hq=>JV hq.1.2 (uH hq.2),⟨by rw[G_ V];omega,by simp[r2],g2,⟨by omega,by omega⟩,g4,by omega,?_⟩,by rw[G_ V];omega⟩;rw[G_ V,dE];exact hag
 ·unfold Qf at hA;rw[decide_eq_true_eq]at hA;have X:yS (zk S D H) D S[j] n.toNat (all+1).toNat=wq (zk S D H) D S[j] n.toNat (all+1).toNat:=by unfold yS;rw[if_neg k9,if_neg k14,if_pos hA]
  rw[X];refine⟨⟨S,⟨x,y,D,n,all+1,0⟩,S[j],H⟩,?_⟩;simp only[true_and,and_true,eq_self];refine⟨⟨hmu,O,List.getElem_mem V,hA,hd,⟨by omega,by omega⟩,hp1,by omega⟩,λq hq=>⟨hq.1,U q hq.1,hq.2⟩,?_⟩;rintro⟨r,n',C,e'⟩ ⟨Y,g2,g3,g4,g6⟩ _;have g3:all+1<=C/\C<=2001:=g3;exact⟨⟨r,n',C,e'⟩,rfl,rfl,rfl,rfl,rfl,rfl,rfl,rfl,rfl,rfl,rfl,rfl,⟨Y,g2,⟨by omega,by omega⟩,g4,g6⟩,λq hq=>hq.2⟩
 ·unfold Qf at hA;rw[decide_eq_false_iff_not]at hA;have J:ja S[j] D n.toNat= .ok (yd 0,n.toNat):=by unfold ja;rw[if_pos (by omega)]
  exact fin n 0 0 (mkS []) (by omega) J (by decide) hd (Int.le_refl _)
end
abbrev PlB:=Int×O6×Int×Int
open Go.Proofs.YtniogjgfomaicaaGreat.Rv
open Go.Proofs.YtniogjgfomaicaaGreat.Rv
section
open Go.Proofs.YtniogjgfomaicaaGreat.Rv
def zef:∀(l:List UInt8) (i acc v k m:Nat),vdec l i acc=some (v,k)->i<k/\(k<=i+m->vdec (l.take m) i acc=some (v,k))
  | [],i,acc,v,k,m,h=>by cases h
  | c ::l,i,acc,v,k,m,h=>by
    rw[vdec]at h;split at h
    · cases h
    split at h
    · cases h
    split at h
    · obtain⟨rfl,rfl⟩:=Prod.mk.inj (Option.some.inj h);refine⟨Nat.lt_succ_self i,λhm=> ?_⟩;obtain⟨m,rfl⟩:∃m',m=m'+1:=⟨m- 1,by omega⟩;rw[List.take_succ_cons,vdec,if_neg (by assumption),if_neg (by assumption),if_pos (by assumption)]
    · obtain⟨A,u⟩:=zef l (i+1) _ v k (m- 1) h;refine⟨by omega,λhm=> ?_⟩;obtain⟨m,rfl⟩:∃m',m=m'+1:=⟨m- 1,by omega⟩;rw[List.take_succ_cons,vdec,if_neg (by assumption),if_neg (by assumption),if_neg (by assumption)];exact u (by omega)
variable {D:O6}
def j7z{i m:Nat} (h:(qi D i).2.1=0):i<(qi D i).2.2/\((qi D i).2.2<=m->qi (D.extract 0 m) i=qi D i):=by
  unfold qi verr at h;unfold qi vval verr vlen;simp only at h⊢;cases A:vdec (D.data.toList.drop i) 0 0 with
  |none=>rw[A]at h;cases h
  | some p=>
    obtain⟨v,k⟩:=p;obtain⟨C,u⟩:=zef _ _ _ _ _ (m- i) A;have u:k<=0+(m- i)->_:=u;refine⟨by show i<i+k;omega,λhm=> ?_⟩;have hm:i+k<=m:=hm;have e:(D.extract 0 m).data.toList.drop i=(D.data.toList.drop i).take (m- i):=(by rw[Iq,List.drop_zero,Nat.sub_zero,List.drop_take]);rw[e,u (by omega)]
def ziz{i m:Nat} {r:Int×Nat} (h:yH D i= .ok r):i<r.2/\(r.2<=m->yH (D.extract 0 m) i= .ok r):=by
 unfold yH at h⊢;split at h
 ·rename_i u;cases h;obtain⟨A,C⟩:=j7z (m:=m) u;exact⟨A,λhm=>by rw[C hm,if_pos u]⟩
 ·cases h
end
def vz(n:Int):O6:=⟨(Go.Proofs.YtniogjgfomaicaaGreat.Rv.venc (zg n)).toArray⟩
def qE(n:Int):Nat->O6
 |0=>mkS []
 |j+1=>qE n j++mkS [((n / 2 ^ (8*j)) % 256).toNat]
def vx(x:SV) (B:O6) (r k:Nat):List (Nat×AO):=[(1, .cells 81 (some 0) false [zE x, .ssl r 0 B.size 1 k]),(r, .row 5 0 (q11 B))]
def OK:Ct where
 σ:=Int
 args:=λn=>[.sv (.int .u64 (n % 18446744073709551616))]
 h:=λ_=>[]
 m:=1
 pre:=λn=> -9223372036854775808<=n/\n<9223372036854775808
 r:=λn=> .sv (.int .u64 (zg n:Nat))
 h':=λ_=>[]
 m':=1
 g:=λ_=>none
def W9:Ct where
 σ:=SV×O6×Int
 args:=λ⟨x,B,n⟩=>[.ptr 1 0, .sv (.int .i64 n)]
 h:=λ⟨x,B,n⟩=>vx x B 2 3
 m:=4
 pre:=λ⟨x,B,n⟩=>B.size<140000000000000/\ -9223372036854775808<=n/\n<9223372036854775808
 r:=λ_=> .tup []
 h':=λ⟨x,B,n⟩=>vx x (B++vz n) 4 5
 m':=6
 g:=λ_=>none
def Hr:Ct where
 σ:=SV×O6×Int×Int
 args:=λ⟨x,B,n,k⟩=>[.ptr 1 0, .sv (.int .u64 n), .sv (.int .i64 k)]
 h:=λ⟨x,B,n,k⟩=>vx x B 2 3
 m:=4
 pre:=λ⟨x,B,n,k⟩=>B.size<140000000000000/\0<=k/\k<=8/\0<=n/\n<18446744073709551616
 r:=λ_=> .tup []
 h':=λ⟨x,B,n,k⟩=>vx x (B++qE n k.toNat) 4 5
 m':=6
 g:=λ_=>none
def zkq:Hr.σ->WayF:=λ⟨x,B,n,k⟩=>{
 ann:=λ_ _ _=>some {σ:=Nat,pre:=λj=>(j:Int)<=k,t:=λj=>[(8, .sv (.int .i64 (j:Int)))],h:=λj=>vx x (B++qE n j) 4 5,more:=2,μ:=λj=>k.toNat- j,keep:=[0,1,7],del:=[2]}}
def HS:Ct where
 σ:=SV×O6×O6
 args:=λ⟨x,B,s⟩=>[.ptr 1 0, .sv (.string s)]
 h:=λ⟨x,B,s⟩=>vx x B 2 3
 m:=4
 pre:=λ⟨x,B,s⟩=>B.size+s.size<130000000000000
 r:=λ_=> .tup []
 h':=λ⟨x,B,s⟩=>vx x (B++vz s.size++s) 4 5
 m':=6
 g:=λ_=>none
def qW(ks:List O6) (i:Nat):O6:=match ks[i]? with
 |some k=>vz k.size++k
 |none=>mkS []
mutual
def PV.enc(S:List AT) (t:Int):PV->O6->Bool×O6
  | .mk n s l ks b,B=>match S[t.toNat]? with
    |none=>(false,B)
    | some a=>
      let r:Bool×O6:=
        if a.k=2 then(true,B++qE n 1)else
        if a.k=3\/a.k=4\/a.k=10 then(true,B++vz (IntKind.wrap .i64 n))else
        if a.k=5 then(true,B++qE n 4)else
        if a.k=6 then(true,B++qE n 8)else
        if a.k=7\/a.k=8 then(true,B++vz s.size++s)else
        if a.k=11 then(true,B++s)else
        if a.k=14 then PV.encL S (qj a b) ks 0 l (B++vz b)else
        if a.k=9 then PV.encL S (qj a b) ks 0 l B else
        if a.k=12\/a.k=13 then
          let q:=PV.encL S (qj a b) ks 0 l (if 0<l.length then B++vz l.length else B)
          if q.1=true then(true,q.2++vz 0)else q
        else(true,B)
      (r.1&&decide (r.2.size<=5000),r.2)
def PV.encL(S:List AT) (f:Nat->Int) (ks:List O6) (i:Nat):List PV->O6->Bool×O6
 | [],B=>(true,B)
 |v::l,B=>if(PV.enc S (f i) v (B++qW ks i)).1=true then PV.encL S f ks (i+1) l (PV.enc S (f i) v (B++qW ks i)).2 else(false,(PV.enc S (f i) v (B++qW ks i)).2)
end
abbrev wm:=List AT×SV×O6×Int×GV
def uG:Ct where
 σ:=wm
 args:=λ⟨S,x,B,t,v⟩=>[.ptr 1 0, .sv (.int .i64 t),v.av]
 h:=λ⟨S,x,B,t,v⟩=>vx x B 2 3
 m:=4
 pre:=λ⟨S,x,B,t,v⟩=>small S/\v.pv.sz/\(B.size+v.pv.wt<100000000000000/\v.pv.wt<90000000000000)/\PV.fits S t v.pv=true
 mem:=λ⟨S,x,B,t,v⟩=>VU S x v
 r:=λ⟨S,x,B,t,v⟩=> .sv (.bool (PV.enc S t v.pv B).1)
 h':=λ⟨S,x,B,t,v⟩=>vx x (PV.enc S t v.pv B).2 4 5
 m':=6
 g:=λ_=>none
def jK(k:Int):Bool:=decide (k=3\/k=4\/k=10)
def kQ(k:Int):Bool:=decide (k=7\/k=8)
def xT(k:Int):Bool:=decide (k=12\/k=13)
def zl0:wm->WayF:=λ_=>{
 cut:=λi t _=>match i with
  |9=>yi jK 25 18 [0,5,6,7,8,18] t
  |16=>yi kQ 46 18 [0,5,6,7,8,18] t
  |26=>yi xT 89 18 [0,5,6,7,8,18] t
  |_=>none}
def zkp:zt->WayF:=λ_=>{pubE:=[34]}
abbrev Q2:=List AT×SV×O6×AT×GV
def Hg:Ct where
 σ:=Q2
 args:=λ⟨S,x,B,a,v⟩=>[.ptr 1 0,a.av,v.av]
 h:=λ⟨S,x,B,a,v⟩=>vx x B 2 3
 m:=4
 pre:=λ⟨S,x,B,a,v⟩=>small S/\v.pv.sz/\(B.size+v.pv.wt<100000000000000/\v.pv.wt<90000000000000)/\a.k=9/\v.l.length=a.fs.length/\v.ks=[]/\PV.fitL S (qj a v.b) 0 (GV.pvs v.l)=true
 mem:=λ⟨S,x,B,a,v⟩=>XJ S x a v
 r:=λ⟨S,x,B,a,v⟩=> .sv (.bool (PV.encL S (qj a v.b) v.ks 0 (GV.pvs v.l) B).1)
 h':=λ⟨S,x,B,a,v⟩=>vx x (PV.encL S (qj a v.b) v.ks 0 (GV.pvs v.l) B).2 4 5
 m':=6
 g:=λ_=>none
def zeo:Q2->WayF:=λ⟨S,x,B,a,v⟩=>{
 ann:=λ_ _ _=>some {σ:=Nat×O6,pre:=λ⟨j,C⟩=>j<=a.fs.length/\(C.size<=5000\/C.size<=B.size)/\PV.fitL S (qj a v.b) j ((GV.pvs v.l).drop j)=true/\PV.encL S (qj a v.b) v.ks j ((GV.pvs v.l).drop j) C=PV.encL S (qj a v.b) v.ks 0 (GV.pvs v.l) B,t:=λ⟨j,C⟩=>[(12, .sv (.int .i64 (j:Int)))],h:=λ⟨j,C⟩=>vx x C 6 7,more:=2,μ:=λ⟨j,C⟩=>a.fs.length- j,keep:=[0,4,5,6,10,11],del:=[2]}}
def u9(l:Nat) (B:O6):O6:=if 0<l then B++vz l else B
def v_(S:List AT) (a:AT) (v:GV) (B:O6):Bool×O6:=
 let q:=PV.encL S (qj a v.b) v.ks 0 (GV.pvs v.l) (u9 v.l.length B)
 if q.1=true then(true,q.2++vz 0)else q
def Ho:Ct where
 σ:=Q2
 args:=λ⟨S,x,B,a,v⟩=>[.ptr 1 0,a.av,v.av]
 h:=λ⟨S,x,B,a,v⟩=>vx x B 2 3
 m:=4
 pre:=λ⟨S,x,B,a,v⟩=>small S/\v.pv.sz/\(B.size+v.pv.wt<100000000000000/\v.pv.wt<90000000000000)/\(a.k=12/\v.ks=[]\/a.k=13/\v.ks.length=v.l.length)/\PV.fitL S (qj a v.b) 0 (GV.pvs v.l)=true
 mem:=λ⟨S,x,B,a,v⟩=>XJ S x a v
 r:=λ⟨S,x,B,a,v⟩=> .sv (.bool (v_ S a v B).1)
 h':=λ⟨S,x,B,a,v⟩=>vx x (v_ S a v B).2 4 5
 m':=6
 g:=λ_=>none
def zkm:Q2->WayF:=λ⟨S,x,B,a,v⟩=>{
 cut:=λi _ _=>match i with
  |3=>some {σ:=Unit,t:=λ_=>[],h:=λ_=>vx x (u9 v.l.length B) 6 7,more:=2,μ:=λ_=>0,keep:=[0,4,5,6],del:=[2]}
  |_=>none
 ann:=λ_ _ _=>some {σ:=Nat×O6,pre:=λ⟨j,C⟩=>j<=v.l.length/\(C.size<=5000\/C.size<=B.size+10)/\PV.fitL S (qj a v.b) j ((GV.pvs v.l).drop j)=true/\PV.encL S (qj a v.b) v.ks j ((GV.pvs v.l).drop j) C=PV.encL S (qj a v.b) v.ks 0 (GV.pvs v.l) (u9 v.l.length B),t:=λ⟨j,C⟩=>[(21, .sv (.int .i64 (j:Int)))],h:=λ⟨j,C⟩=>vx x C 8 9,more:=2,μ:=λ⟨j,C⟩=>v.l.length- j,keep:=[0,4,5,6,19,20],del:=[6]}}
def O_(B:O6):List SV->PF
 | [x]=>⟨true,λp=>x.2.1=B.size/\qfv p x.1 x.2.1 x.2.2 (q11 B),λ_ _ h e=>⟨e.1,q48 h e.2⟩⟩
 |_=>{}
def zb(S:List AT) (t:Int) (v:PV):Int×O6:=if t<0\/S.length<=t then(1,mkS [])else if PV.fits S t v=false then(7,mkS [])else if(PV.enc S t v (mkS [])).1=true then(0,(PV.enc S t v (mkS [])).2)else(3,mkS [])
def Hq:Ct where
 σ:=zt
 args:=λ⟨S,x,t,v⟩=>[jP x, .sv (.int .i64 t),v.av]
 h:=λ_=>[]
 m:=1
 pre:=λ⟨S,x,t,v⟩=>small S/\v.pv.sz/\v.pv.wt<90000000000000
 mem:=λ⟨S,x,t,v⟩=>VU S x v
 r:=λ⟨S,x,t,v⟩=> .tup [.tsl 1, .sv (.int .i64 (zb S t v.pv).1)]
 h':=λ_=>[]
 m':=2
 g:=λ⟨S,x,t,v⟩=>some {β:=Unit,ks:=[1],pre:=λ_=>True,mem:=λ_ xs=>O_ (zb S t v.pv).2 xs}
def wg:wm->Nat:=λ⟨S,x,B,t,v⟩=>SizeOf.sizeOf v
def uT:Q2->Nat:=λ⟨S,x,B,a,v⟩=>SizeOf.sizeOf v
def j6o(n:Int):qix P (λ_=>none) Tryz.f120 OK (λ_=>{}) n=((-9223372036854775808:Int)<=n/\n<(9223372036854775808:Int)->(0:Int)<=(1:Int)/\(0:Int)<=(63:Int)/\(↑(zg n):Int)=q9p BinOp.xor IntKind.u64 (shP BinOp.shl IntKind.u64 (n % (18446744073709551616:Int)) (1:Int)) (IntKind.wrap IntKind.u64 (shP BinOp.shr IntKind.i64 (IntKind.wrap IntKind.i64 (n % (18446744073709551616:Int))) (63:Int)))/\True):=by kernel_rfl
def j90(n:Int):qix P (qef [(120,OK)]) Tryz.f93 Vb (λ_=>{}) n=((-9223372036854775808:Int)<=n/\n<(9223372036854775808:Int)->∃(s:Int),s % (18446744073709551616:Int)=n % (18446744073709551616:Int)/\((-9223372036854775808:Int)<=s/\s<(9223372036854775808:Int))/\(↑(zg n):Int)=(↑(zg s):Int)/\True):=by kernel_rfl
section
variable (a:O6) (b:Nat)
 abbrev Fi:=ByteArray.mk (List.toArray (Proofs.YtniogjgfomaicaaGreat.Rv.venc b))
 def AC:=AV.ssl (nat_lit 2) (nat_lit 0) (size a) (nat_lit 1) (nat_lit 3)=AV.ssl (nat_lit 2) (nat_lit 0) (size a) (nat_lit 1) (nat_lit 3)
end
def zj2(x:SV) (B:O6) (n:Int):qix P (qef [(93,Vb),(92,H_)]) Tryz.f51 W9 (λ_=>{}) ⟨x,B,n⟩=(size B<140000000000000/\(-9223372036854775808:Int)<=n/\n<9223372036854775808->∃(s:Int),s % 18446744073709551616=IntKind.wrap u64 n/\((-9223372036854775808:Int)<=s/\s<9223372036854775808)/\∃(s_1:Nat),(↑s_1:Int)=(↑(zg s):Int)/\s_1<18446744073709551616/\length (q11 B)=size B*1/\(size B+size (Fi s_1))*1<=140737488355328/\AC B/\AC B/\x.1=x.1/\x.2.1=x.2.1/\x.2.2=x.2.2/\size (B++vz n)=size B+size (Fi s_1)/\q11 (B++vz n)=q11 B++q11 (Fi s_1)/\True):=by kernel_rfl
def zpg:=λx B n=>Eq.trans (zj2 x B n) (by delta Fi AC;exact rfl)
def zi8(x:SV) (B:O6) (n k:Int):qix P (λ_=>none) Tryz.f50 Hr (zkq) ⟨x,B,n,k⟩=(size B<(140000000000000:Nat)/\(0:Int)<=k/\k<=(8:Int)/\(0:Int)<=n/\n<(18446744073709551616:Int)->(∃(s:Nat),n=n/\k=k/\(↑s:Int)=(0:Int)/\Prod.fst x=Prod.fst x/\Prod.fst (Prod.snd x)=Prod.fst (Prod.snd x)/\Prod.snd (Prod.snd x)=Prod.snd (Prod.snd x)/\size (B++qE n s)=size B/\q11 (B++qE n s)=q11 B/\(↑s:Int)<=k/\True)/\∀(s:Nat),(↑s:Int)<=k->(decide ((↑s:Int)<k)=true->(0:Int)<=IntKind.wrap u64 ((8:Int)*IntKind.wrap u64 (↑s:Int))/\length (q11 (B++qE n s))=size (B++qE n s)*(1:Nat)/\(size (B++qE n s)+nat_lit 1)*(1:Nat)<=(140737488355328:Nat)/\((-9223372036854775808:Int)<=(↑s:Int)+(1:Int)/\(↑s:Int)+(1:Int)<=(9223372036854775807:Int))/\∃(s_1:Nat),n=n/\k=k/\(↑s_1:Int)=(↑s:Int)+(1:Int)/\Prod.fst x=Prod.fst x/\Prod.fst (Prod.snd x)=Prod.fst (Prod.snd x)/\Prod.snd (Prod.snd x)=Prod.snd (Prod.snd x)/\size (B++qE n s_1)=size (B++qE n s)+nat_lit 1/\q11 (B++qE n s_1)=q11 (B++qE n s)++[int u8 (IntKind.wrap u8 (shP BinOp.shr u64 n (IntKind.wrap u64 ((8:Int)*IntKind.wrap u64 (↑s:Int)))))]/\(↑s_1:Int)<=k/\toNat k- s_1<toNat k- s/\True)/\(decide ((↑s:Int)<k)=false->Prod.fst x=Prod.fst x/\Prod.fst (Prod.snd x)=Prod.fst (Prod.snd x)/\Prod.snd (Prod.snd x)=Prod.snd (Prod.snd x)/\size (B++qE n (toNat k))=size (B++qE n s)/\q11 (B++qE n (toNat k))=q11 (B++qE n s)/\True)):=by kernel_rfl
def zqj(x:SV) (B s:O6):qix P (qef [(51,W9)]) Tryz.f52 HS (λ_=>{}) ⟨x,B,s⟩=(size B+size s<130000000000000->∃(s_1:(Option Addr×Nat×Nat)×O6×Int),s_1.2.2=(↑(size s):Int)/\s_1.1.1=x.1/\s_1.1.2.1=x.2.1/\s_1.1.2.2=x.2.2/\size s_1.2.1=size B/\q11 s_1.2.1=q11 B/\(size s_1.2.1<140000000000000/\(-9223372036854775808:Int)<=s_1.2.2/\s_1.2.2<9223372036854775808)/\length (q11 (s_1.2.1++vz s_1.2.2))=size (s_1.2.1++vz s_1.2.2)*1/\(size (s_1.2.1++vz s_1.2.2)+size s)*1<=140737488355328/\x.1=s_1.1.1/\x.2.1=s_1.1.2.1/\x.2.2=s_1.1.2.2/\size (B++vz (↑(size s):Int)++s)=size (s_1.2.1++vz s_1.2.2)+size s/\q11 (B++vz (↑(size s):Int)++s)=q11 (s_1.2.1++vz s_1.2.2)++q11 s/\True):=by kernel_rfl
section
variable (e:Int) (g:SV) (i:List AT) (c:GV) (h:O6) (E:Nat) (J:O6) (H:Option Addr) (I:Nat) (C:Int) (p:Option Addr) (q r:Nat) (t:Bool) (m:O6) (o:Int) (u:Option Addr) (v w:Nat) (z:Option Addr) (A B:Nat) (D:Int) (F:Nat) (a:Q2) (R:Prop) (G:wm) (K:(Option Addr×Nat×Nat)×O6×Int) (S:Nat->Option Obj) (V:(Option Addr×Nat×Nat)×O6×O6)
 abbrev xM:=True/\qc i g S/\GV.ok c S
 abbrev vd:=(PV.enc i e (GV.pv c) h).2
 def MA:=(Jt (e=o)->∃(d:(Option Addr×Nat×Nat)×O6×Int×Int),d.2.2.1=GV.n c/\d.2.2.2=D/\d.1.1=g.1/\d.1.2.1=g.2.1/\d.1.2.2=g.2.2/\size d.2.1=size h/\q11 d.2.1=q11 h/\(size d.2.1<140000000000000/\0<=d.2.2.2/\d.2.2.2<=8/\0<=d.2.2.1/\d.2.2.1<18446744073709551616)/\(PV.enc i C (GV.pv c) h).1=decide ((↑(size (d.2.1++qE d.2.2.1 (toNat d.2.2.2))):Int)<=5000)/\g.1=d.1.1/\g.2.1=d.1.2.1/\g.2.2=d.1.2.2/\size (vd C i c h)=size (d.2.1++qE d.2.2.1 (toNat d.2.2.2))/\q11 (vd C i c h)=q11 (d.2.1++qE d.2.2.1 (toNat d.2.2.2))/\True)
 def MB:=g.1=g.1/\g.2.1=g.2.1/\g.2.2=g.2.2/\R
 def ZO:=MB g (size h=size h/\e=e/\J=J/\H=H/\E=E/\I=I/\C=C/\p=p/\q=q/\r=r/\t=t/\m=m/\o=o/\u=u/\v=v/\w=w/\z=z/\A=A/\B=B/\q11 h=q11 h/\GV.n c=GV.n c/\GV.s c=GV.s c/\(GV.x c).1=(GV.x c).1/\(GV.x c).2.1=(GV.x c).2.1/\(GV.x c).2.2=(GV.x c).2.2/\(GV.y c).1=(GV.y c).1/\(GV.y c).2.1=(GV.y c).2.1/\(GV.y c).2.2=(GV.y c).2.2/\GV.b c=GV.b c/\(∀d,xM g i c d->xM g i c d)/\True/\True)
 def b_:=Ji (e=4) (∃(d:Unit),jK e=decide (e=4)/\e=e/\ZO e g i c h E J H I C p q r t m o u v w z A B) (∃(M:Unit),jK e=decide (e=10)/\e=e/\ZO e g i c h E J H I C p q r t m o u v w z A B)
 def Dd:=K.1.1=g.1/\K.1.2.1=g.2.1/\K.1.2.2=g.2.2/\size K.2.1=size h/\q11 K.2.1=q11 h/\(size K.2.1<140000000000000/\(-9223372036854775808:Int)<=K.2.2/\K.2.2<9223372036854775808)/\R
 abbrev MC:=V.2.1++vz (↑(size V.2.2):Int)++V.2.2
 def bV:=length (q11 h)=size h*1/\(size h+size (GV.s c))*1<=140737488355328/\(PV.enc i e (GV.pv c) h).1=decide ((↑(size h+size (GV.s c)):Int)<=5000)/\MB g (size (vd e i c h)=size h+size (GV.s c)/\q11 (vd e i c h)=q11 h++q11 (GV.s c)/\True)
 abbrev YC:=PV.enc G.1 G.2.2.2.1 (GV.pv G.2.2.2.2) G.2.2.1
 def Dc:=g.1=G.2.1.1/\g.2.1=G.2.1.2.1/\g.2.2=G.2.1.2.2/\size (vd e i c h)=size (YC G).2/\q11 (vd e i c h)=q11 (YC G).2/\True
 def bW:=(PV.enc i e (GV.pv c) h).1=decide ((↑(size (YC G).2):Int)<=5000)/\Dc e g i c h G
 def bY:=(PV.enc i e (GV.pv c) h).1=false/\Dc e g i c h G
 def Da:=AT.k a.2.2.2.1=e/\AT.nm a.2.2.2.1=h/\(AT.al a.2.2.2.1).1=H/\(AT.al a.2.2.2.1).2.1=E/\(AT.al a.2.2.2.1).2.2=I/\AT.it a.2.2.2.1=C/\(AT.sy a.2.2.2.1).1=p/\(AT.sy a.2.2.2.1).2.1=q/\(AT.sy a.2.2.2.1).2.2=r/\AT.hd a.2.2.2.1=t/\AT.df a.2.2.2.1=J/\AT.sz a.2.2.2.1=o/\(AT.f a.2.2.2.1).1=u/\(AT.f a.2.2.2.1).2.1=v/\(AT.f a.2.2.2.1).2.2=w/\(AT.br a.2.2.2.1).1=z/\(AT.br a.2.2.2.1).2.1=A/\(AT.br a.2.2.2.1).2.2=B/\GV.n a.2.2.2.2=GV.n c/\GV.s a.2.2.2.2=GV.s c/\(GV.x a.2.2.2.2).1=(GV.x c).1/\(GV.x a.2.2.2.2).2.1=(GV.x c).2.1/\(GV.x a.2.2.2.2).2.2=(GV.x c).2.2/\(GV.y a.2.2.2.2).1=(GV.y c).1/\(GV.y a.2.2.2.2).2.1=(GV.y c).2.1/\(GV.y a.2.2.2.2).2.2=(GV.y c).2.2/\GV.b a.2.2.2.2=GV.b c/\a.2.1.1=g.1/\a.2.1.2.1=g.2.1/\a.2.1.2.2=g.2.2/\size a.2.2.1=size m/\q11 a.2.2.1=q11 m/\R
 def De:=uT a<E+1/\small a.1/\PV.sz (GV.pv a.2.2.2.2)/\(size a.2.2.1+PV.wt (GV.pv a.2.2.2.2)<100000000000000/\PV.wt (GV.pv a.2.2.2.2)<90000000000000)/\R
 def Dg:=PV.fitL a.1 (qj a.2.2.2.1 (GV.b a.2.2.2.2)) 0 (GV.pvs (GV.l a.2.2.2.2))=true
 def Df:=qc a.1 a.2.1 S/\AT.ok a.2.2.2.1 S/\GV.ok a.2.2.2.2 S
 abbrev YA:=PV.encL a.1 (qj a.2.2.2.1 (GV.b a.2.2.2.2)) (GV.ks a.2.2.2.2) 0 (GV.pvs (GV.l a.2.2.2.2)) a.2.2.1
 def Db:=g.1=a.2.1.1/\g.2.1=a.2.1.2.1/\g.2.2=a.2.1.2.2/\R
 def Dh:=Db g a (size (vd e i c h)=size (YA a).2/\q11 (vd e i c h)=q11 (YA a).2/\True)
 def bU:=(PV.enc i e (GV.pv c) h).1=decide ((↑(size (YA a).2):Int)<=5000)/\Dh e g i c h a
 def b9:=(PV.enc i e (GV.pv c) h).1=false/\Dh e g i c h a
 abbrev YB:=v_ a.1 a.2.2.2.1 a.2.2.2.2 a.2.2.1
 def Di:=Db g a (size (vd e i c h)=size (YB a).2/\q11 (vd e i c h)=q11 (YB a).2/\True)
 def bX:=(PV.enc i e (GV.pv c) h).1=decide ((↑(size (YB a).2):Int)<=5000)/\Di e g i c h a
 def bZ:=(PV.enc i e (GV.pv c) h).1=false/\Di e g i c h a
 def b8:=(PV.enc i e (GV.pv c) h).1=decide ((↑(size h):Int)<=5000)/\MB g (size (vd e i c h)=size h/\q11 (vd e i c h)=q11 h/\True)
 def bS:=(xT e=true->∃(d:Q2),Da e g c h E J H I C p q r t m o u v w z A B d ((De F d ((AT.k d.2.2.2.1=12/\GV.ks d.2.2.2.2=[]\/AT.k d.2.2.2.1=13/\length (GV.ks d.2.2.2.2)=length (GV.l d.2.2.2.2))/\Dg d))/\(∀M,xM g i c M->Df d M)/\((YB d).1=true->bX D g i c m d)/\((YB d).1=false->bZ D g i c m d)))/\(xT e=false->b8 D g i c m)
 def bR:=(Ji (e=12) (∃(d:Unit),xT e=decide (e=12)/\e=e/\ZO e g i c h E J H I C p q r t m o u v w z A B) (∃(T:Unit),xT e=decide (e=13)/\e=e/\ZO e g i c h E J H I C p q r t m o u v w z A B))/\∀(U:Unit),True->bS e g i c J E m H I C p q r t h o u v w z A B D F
 def oz:=Ji (e=9) (∃(d:Q2),Da e g c h E J H I C p q r t m o u v w z A B d ((De F d (AT.k d.2.2.2.1=9/\length (GV.l d.2.2.2.2)=length (AT.fs d.2.2.2.1)/\GV.ks d.2.2.2.2=[]/\Dg d))/\(∀M,xM g i c M->Df d M)/\((YA d).1=true->bU D g i c m d)/\((YA d).1=false->b9 D g i c m d))) (bR e g i c m E h H I C p q r t J o u v w z A B D F)
 def oy:=Ji (e=14) (∃(d:(Option Addr×Nat×Nat)×O6×Int),d.2.2=GV.b c/\Dd g h ((0<=GV.b c/\GV.b c<(↑E:Int))/\H≠noA/\∃(M:Int),(∀T,xM g i c T->q2u T (adr H (toNat (GV.b c)*1)) [int i64 M])/\((0:Int)<=0/\0<(↑(GV.x c).2.1:Int))/\(GV.x c).1≠noA/\∃(i3:Int),∃U,∃i5,∃(W:Nat),∃(i7:Nat),∃i8,∃(i9:Nat),∃(N:Nat),∃(O:Int),(∀Q,xM g i c Q->q2u Q (adr (GV.x c).1 ((0:Nat)*5)) [int u64 i3,string U,slice i5 W i7,slice i8 i9 N,int i64 O])/\∃(j:wm),j.2.2.2.1=M/\GV.n j.2.2.2.2=i3/\GV.s j.2.2.2.2=U/\(GV.x j.2.2.2.2).1=i5/\(GV.x j.2.2.2.2).2.1=W/\(GV.x j.2.2.2.2).2.2=i7/\(GV.y j.2.2.2.2).1=i8/\(GV.y j.2.2.2.2).2.1=i9/\(GV.y j.2.2.2.2).2.2=N/\GV.b j.2.2.2.2=O/\j.2.1.1=d.1.1/\j.2.1.2.1=d.1.2.1/\j.2.1.2.2=d.1.2.2/\size j.2.2.1=size (d.2.1++vz d.2.2)/\q11 j.2.2.1=q11 (d.2.1++vz d.2.2)/\(wg j<I/\small j.1/\PV.sz (GV.pv j.2.2.2.2)/\(size j.2.2.1+PV.wt (GV.pv j.2.2.2.2)<100000000000000/\PV.wt (GV.pv j.2.2.2.2)<90000000000000)/\PV.fits j.1 j.2.2.2.1 (GV.pv j.2.2.2.2)=true)/\(∀L,xM g i c L->qc j.1 j.2.1 L/\GV.ok j.2.2.2.2 L)/\((YC j).1=true->bW C g i c h j)/\((YC j).1=false->bY C g i c h j)) d) (oz e g i c J q m p r o u v w t h D z A B H E F C I)
 def ox:=Ji (e=11) (bV C g i c h) (oy e g i c h E J H I C p q r t m o u v w z A B D F)
 def ov:=(kQ e=true->∃(d:(Option Addr×Nat×Nat)×O6×O6),d.2.2=GV.s c/\d.1.1=g.1/\d.1.2.1=g.2.1/\d.1.2.2=g.2.2/\size d.2.1=size h/\q11 d.2.1=q11 h/\size d.2.1+size d.2.2<130000000000000/\(PV.enc i C (GV.pv c) h).1=decide ((↑(size (MC d)):Int)<=5000)/\g.1=d.1.1/\g.2.1=d.1.2.1/\g.2.2=d.1.2.2/\size (vd C i c h)=size (MC d)/\q11 (vd C i c h)=q11 (MC d)/\True)/\(kQ e=false->ox e g i c h E J H I C p q r t m o u v w z A B D F)
 def ou:=(Ji (e=7) (∃(d:Unit),e=e/\kQ e=decide (e=7)/\ZO e g i c h E J H I C p q r t m o u v w z A B) (∃(T:Unit),e=e/\kQ e=decide (e=8)/\ZO e g i c h E J H I C p q r t m o u v w z A B))/\∀(U:Unit),True->ov e g i c h A J z F D H E I t m C p q r u v w o B
 def ot:=MA e g i c h C 6 8/\(Jf (e=6)->ou e g i c h E J H I o p q r t m D u v w z A B C F)
 def oq:=MA e g i c h C 5 4/\(Jf (e=5)->ot e g i c h E J H I C p q r t m o u v w z A B D F)
 def om:=(jK e=true->∃(d:(Option Addr×Nat×Nat)×O6×Int),d.2.2=IntKind.wrap i64 (GV.n c)/\Dd g h ((PV.enc i C (GV.pv c) h).1=decide ((↑(size (d.2.1++vz d.2.2)):Int)<=5000)/\g.1=d.1.1/\g.2.1=d.1.2.1/\g.2.2=d.1.2.2/\size (vd C i c h)=size (d.2.1++vz d.2.2)/\q11 (vd C i c h)=q11 (d.2.1++vz d.2.2)/\True) d)/\(jK e=false->oq e g i c h E J H I C p q r t m o u v w z A B D F)
 def oi:=(Ji (e=3) (∃(d:Unit),jK e=decide (e=3)/\e=e/\ZO e g i c h E J H I C p q r t m o u v w z A B) (b_ e g i c h E J H I C p q r t m o u v w z A B))/\∀(W:Unit),True->om e g i c h E J H I D p q r t m C u v w z A B o F
 def oh:=(0<=e/\e<(↑g.2.1:Int))/\g.1≠noA/\∃(d:Int),∃M,∃T,∃(i3:Nat),∃(U:Nat),∃(i5:Int),∃W,∃(i7:Nat),∃(i8:Nat),∃(i9:Bool),∃N,∃(O:Int),∃Q,∃(j:Nat),∃(L:Nat),∃X,∃(i16:Nat),∃(Y:Nat),(∀Z,xM g i c Z->q2u Z (adr g.1 (toNat e*10)) [int i64 d,string M,slice T i3 U,int i64 i5,slice W i7 i8,bool i9,string N,int i64 O,slice Q j L,slice X i16 Y])/\MA d g i c h e 2 1/\(Jf (d=2)->oi d g i c h i3 M T U i5 W i7 i8 i9 N O Q j L X i16 Y e E)
end
def zg0(n:Nat) (S:List AT) (x:SV) (B:O6) (t:Int) (v:GV):qix P (qef [(51,W9),(50,Hr),(52,HS),(53,Hg.below uT (n+1)),(54,Ho.below uT (n+1)),(29,uG.below wg n)]) Tryz.f29 (uG.below wg (n+1)) (zl0) ⟨S,x,B,t,v⟩=(wg (S,x,B,t,v)<n+1/\small S/\PV.sz (GV.pv v)/\(size B+PV.wt (GV.pv v)<100000000000000/\PV.wt (GV.pv v)<90000000000000)/\PV.fits S t (GV.pv v)=true->(∃(p:Pub),xM x S v p)->oh t x S v B n):=by kernel_rfl
def zkg:=λn S x B t v=>Eq.trans (zg0 n S x B t v) (by delta Ji Jt Jf xM vd MA MB ZO b_ Dd MC bV YC Dc bW bY Da De Dg Df YA Db Dh bU b9 YB Di bX bZ b8 bS bR oz oy ox ov ou ot oq om oi oh;exact rfl)
section
variable (a:AT) (e:SV) (i:O6) (d:GV) (g:List AT) (K:Nat) (h:Nat×O6) (j:wm) (E:Prop) (L:Nat->Option Obj)
 abbrev QM:=True/\qc g e L/\AT.ok a L/\GV.ok d L
 abbrev Kv:=(↑(AT.f a).2.1:Int)
 def Fk:=(AT.f a).1=(AT.f a).1/\(AT.f a).2.1=(AT.f a).2.1/\(AT.f a).2.2=(AT.f a).2.2/\E
 def Dk:=e.1=e.1/\e.2.1=e.2.1/\e.2.2=e.2.2/\E
 def AD:=GV.n d=GV.n d/\GV.s d=GV.s d/\(GV.x d).1=(GV.x d).1/\(GV.x d).2.1=(GV.x d).2.1/\(GV.x d).2.2=(GV.x d).2.2/\(GV.y d).1=(GV.y d).1/\(GV.y d).2.1=(GV.y d).2.1/\(GV.y d).2.2=(GV.y d).2.2/\GV.b d=GV.b d/\AT.k a=AT.k a/\AT.nm a=AT.nm a/\(AT.al a).1=(AT.al a).1/\(AT.al a).2.1=(AT.al a).2.1/\(AT.al a).2.2=(AT.al a).2.2/\AT.it a=AT.it a/\(AT.sy a).1=(AT.sy a).1/\(AT.sy a).2.1=(AT.sy a).2.1/\(AT.sy a).2.2=(AT.sy a).2.2/\AT.hd a=AT.hd a/\AT.df a=AT.df a/\AT.sz a=AT.sz a/\Fk a ((AT.br a).1=(AT.br a).1/\(AT.br a).2.1=(AT.br a).2.1/\(AT.br a).2.2=(AT.br a).2.2/\E)
 def Fj:=h.1<=length (AT.fs a)/\(size h.2<=5000\/size h.2<=size i)/\PV.fitL g (qj a (GV.b d)) h.1 (drop h.1 (GV.pvs (GV.l d)))=true/\PV.encL g (qj a (GV.b d)) (GV.ks d) h.1 (drop h.1 (GV.pvs (GV.l d))) h.2=PV.encL g (qj a (GV.b d)) (GV.ks d) 0 (GV.pvs (GV.l d)) i
 abbrev Ku:=PV.enc j.1 j.2.2.2.1 (GV.pv j.2.2.2.2) j.2.2.1
 abbrev Jd:=PV.encL g (qj a (GV.b d)) (GV.ks d) 0 (GV.pvs (GV.l d)) i
 def Dj:=e.1=j.2.1.1/\e.2.1=j.2.1.2.1/\e.2.2=j.2.1.2.2/\E
 def oE:=(Jd a i d g).1=false/\Dj e j (size (Jd a i d g).2=size (Ku j).2/\q11 (Jd a i d g).2=q11 (Ku j).2/\True)
 def oD:=Jb ((↑h.1:Int)+1)/\∃(m:Nat×O6),(Kv a)=(Kv a)/\(↑m.1:Int)=(↑h.1:Int)+1/\Fk a (Dj e j (size m.2=size (Ku j).2/\AD a d (q11 m.2=q11 (Ku j).2/\(∀o,QM a e d g o->QM a e d g o)/\(Fj a i d g m)/\length (AT.fs a)- m.1<length (AT.fs a)- h.1/\True)))
 def oC:=(0<=(↑h.1:Int)/\(↑h.1:Int)<(Kv a))/\(AT.f a).1≠noA/\∃m,∃o,∃(D:Nat),∃(N:Nat),∃(M:Int),∃(O:Bool),∃(Q:Int),∃(R:Int),∃i8,∃S,∃(F:Nat),∃(G:Nat),∃H,∃(I:Nat),∃(J:Nat),(∀q,QM a e d g q->q2u q (adr (AT.f a).1 (toNat (↑h.1:Int)*9)) [string m,slice o D N,int i64 M,bool O,int i64 Q,int i64 R,string i8,slice S F G,slice H I J])/\(0<=(↑h.1:Int)/\(↑h.1:Int)<(↑(GV.x d).2.1:Int))/\(GV.x d).1≠noA/\∃(i16:Int),∃r,∃t,∃(u:Nat),∃(v:Nat),∃w,∃(z:Nat),∃(A:Nat),∃(B:Int),(∀C,QM a e d g C->q2u C (adr (GV.x d).1 (toNat (↑h.1:Int)*5)) [int u64 i16,string r,slice t u v,slice w z A,int i64 B])/\∃(c:wm),c.2.2.2.1=M/\GV.n c.2.2.2.2=i16/\GV.s c.2.2.2.2=r/\(GV.x c.2.2.2.2).1=t/\(GV.x c.2.2.2.2).2.1=u/\(GV.x c.2.2.2.2).2.2=v/\(GV.y c.2.2.2.2).1=w/\(GV.y c.2.2.2.2).2.1=z/\(GV.y c.2.2.2.2).2.2=A/\GV.b c.2.2.2.2=B/\c.2.1.1=e.1/\c.2.1.2.1=e.2.1/\c.2.1.2.2=e.2.2/\size c.2.2.1=size h.2/\q11 c.2.2.1=q11 h.2/\(wg c<K/\small c.1/\PV.sz (GV.pv c.2.2.2.2)/\(size c.2.2.1+PV.wt (GV.pv c.2.2.2.2)<100000000000000/\PV.wt (GV.pv c.2.2.2.2)<90000000000000)/\PV.fits c.1 c.2.2.2.1 (GV.pv c.2.2.2.2)=true)/\(∀p,QM a e d g p->qc c.1 c.2.1 p/\GV.ok c.2.2.2.2 p)/\((!(Ku c).1)=true->oE a e i d g c)/\((!(Ku c).1)=false->oD a e i d g h c)
 def oF:=(Jd a i d g).1=true/\Dk e (size (Jd a i d g).2=size h.2/\q11 (Jd a i d g).2=q11 h.2/\True)
 def oB:=Ji ((↑h.1:Int)<(Kv a)) (oC a e i d g K h) (oF a e i d g h)
 def oA:=(∃(m:Nat×O6),(Kv a)=(Kv a)/\(↑m.1:Int)=0/\Fk a (Dk e (size m.2=size i/\AD a d (q11 m.2=q11 i/\(∀o,QM a e d g o->QM a e d g o)/\(Fj a i d g m)/\True))))/\∀(D:Nat×O6),Fj a i d g D->oB a e i d g K D
end
def zbb(n:Nat) (S:List AT) (x:SV) (B:O6) (a:AT) (v:GV):qix P (qef [(29,uG.below wg n)]) Tryz.f53 (Hg.below uT (n+1)) (zeo) ⟨S,x,B,a,v⟩=(uT (S,x,B,a,v)<n+1/\small S/\PV.sz (GV.pv v)/\(size B+PV.wt (GV.pv v)<100000000000000/\PV.wt (GV.pv v)<90000000000000)/\AT.k a=9/\length (GV.l v)=length (AT.fs a)/\GV.ks v=[]/\PV.fitL S (qj a (GV.b v)) 0 (GV.pvs (GV.l v))=true->(∃(p:Pub),QM a x v S p)->oA a x B v S n):=by kernel_rfl
def zfu:=λn S x B a v=>Eq.trans (zbb n S x B a v) (by delta Ji Jb Jt Jf QM Kv Fk Dk AD Fj Ku Jd Dj oE oD oC oF oB oA;exact rfl)
section
variable (a:GV) (d:SV) (h:O6) (c:AT) (i:List AT) (t:Nat) (j:Nat×O6) (e:wm) (w:Prop) (M:Int) (z:Option Addr) (A:Nat) (B:Option Addr) (C D:Nat) (E:Int) (J:Nat) (K:O6) (p:(Option Addr×Nat×Nat)×O6×Int) (v:Nat->Option Obj)
 abbrev Kx:=True/\qc i d v/\AT.ok c v/\GV.ok a v
 abbrev QN:=(↑(GV.x a).2.1:Int)
 def Dp:=p.1.1=d.1/\p.1.2.1=d.2.1/\p.1.2.2=d.2.2/\w
 def Dm:=(size p.2.1<140000000000000/\(-9223372036854775808:Int)<=p.2.2/\p.2.2<9223372036854775808)
 def Dq:=d.1=p.1.1/\d.2.1=p.1.2.1/\d.2.2=p.1.2.2/\w
 abbrev ZP:=u9 (length (GV.l a)) h
 def MD:=(GV.x a).1=(GV.x a).1/\(GV.x a).2.1=(GV.x a).2.1/\(GV.x a).2.2=(GV.x a).2.2/\w
 def Wc:=GV.n a=GV.n a/\GV.s a=GV.s a/\MD a ((GV.y a).1=(GV.y a).1/\(GV.y a).2.1=(GV.y a).2.1/\(GV.y a).2.2=(GV.y a).2.2/\GV.b a=GV.b a/\AT.k c=AT.k c/\AT.nm c=AT.nm c/\(AT.al c).1=(AT.al c).1/\(AT.al c).2.1=(AT.al c).2.1/\(AT.al c).2.2=(AT.al c).2.2/\AT.it c=AT.it c/\(AT.sy c).1=(AT.sy c).1/\(AT.sy c).2.1=(AT.sy c).2.1/\(AT.sy c).2.2=(AT.sy c).2.2/\AT.hd c=AT.hd c/\AT.df c=AT.df c/\AT.sz c=AT.sz c/\(AT.f c).1=(AT.f c).1/\(AT.f c).2.1=(AT.f c).2.1/\(AT.f c).2.2=(AT.f c).2.2/\(AT.br c).1=(AT.br c).1/\(AT.br c).2.1=(AT.br c).2.1/\(AT.br c).2.2=(AT.br c).2.2/\w)
 def UZ:=(∀g,Kx a d c i g->Kx a d c i g)
 def Do:=d.1=d.1/\d.2.1=d.2.1/\d.2.2=d.2.2/\w
 def Fl:=j.1<=length (GV.l a)/\(size j.2<=5000\/size j.2<=size h+10)/\PV.fitL i (qj c (GV.b a)) j.1 (drop j.1 (GV.pvs (GV.l a)))=true/\PV.encL i (qj c (GV.b a)) (GV.ks a) j.1 (drop j.1 (GV.pvs (GV.l a))) j.2=PV.encL i (qj c (GV.b a)) (GV.ks a) 0 (GV.pvs (GV.l a)) (ZP a h)
 def Dl:=e.2.2.2.1=AT.it c/\GV.n e.2.2.2.2=M/\GV.s e.2.2.2.2=h/\(GV.x e.2.2.2.2).1=z/\(GV.x e.2.2.2.2).2.1=t/\(GV.x e.2.2.2.2).2.2=A/\(GV.y e.2.2.2.2).1=B/\(GV.y e.2.2.2.2).2.1=C/\(GV.y e.2.2.2.2).2.2=D/\GV.b e.2.2.2.2=E/\w
 abbrev Kw:=PV.enc e.1 e.2.2.2.1 (GV.pv e.2.2.2.2) e.2.2.1
 def Dn:=d.1=e.2.1.1/\d.2.1=e.2.1.2.1/\d.2.2=e.2.1.2.2/\w
 def oM:=(v_ i c a h).1=false/\Dn d e (size (v_ i c a h).2=size (Kw e).2/\q11 (v_ i c a h).2=q11 (Kw e).2/\True)
 def oK:=Jb ((↑j.1:Int)+1)/\∃(g:Nat×O6),MD a ((↑g.1:Int)=(↑j.1:Int)+1/\(QN a)=(QN a)/\Dn d e (size g.2=size (Kw e).2/\Wc a c (q11 g.2=q11 (Kw e).2/\UZ a d c i/\(Fl a h c i g)/\length (GV.l a)- g.1<length (GV.l a)- j.1/\True)))
 def AE:=(wg e<t/\small e.1/\PV.sz (GV.pv e.2.2.2.2)/\(size e.2.2.1+PV.wt (GV.pv e.2.2.2.2)<100000000000000/\PV.wt (GV.pv e.2.2.2.2)<90000000000000)/\PV.fits e.1 e.2.2.2.1 (GV.pv e.2.2.2.2)=true)/\(∀g,Kx a d c i g->qc e.1 e.2.1 g/\GV.ok e.2.2.2.2 g)/\((!(Kw e).1)=true->oM a d h c i e)/\((!(Kw e).1)=false->oK a d h c i j e)
 def oL:=(0<=(↑j.1:Int)/\(↑j.1:Int)<(↑(GV.y a).2.1:Int))/\(GV.y a).1≠noA/\∃g,(∀u,Kx a d c i u->q2u u (adr (GV.y a).1 (toNat (↑j.1:Int)*1)) [string g])/\∃(m:(Option Addr×Nat×Nat)×O6×O6),m.2.2=g/\m.1.1=d.1/\m.1.2.1=d.2.1/\m.1.2.2=d.2.2/\size m.2.1=size j.2/\q11 m.2.1=q11 j.2/\size m.2.1+size m.2.2<130000000000000/\∃(r:wm),Dl h c t r (r.2.1.1=m.1.1/\r.2.1.2.1=m.1.2.1/\r.2.1.2.2=m.1.2.2/\size r.2.2.1=size (m.2.1++vz (↑(size m.2.2):Int)++m.2.2)/\q11 r.2.2.1=q11 (m.2.1++vz (↑(size m.2.2):Int)++m.2.2)/\AE a d K c i J j r) M z A B C D E
 def oJ:=(0<=(↑j.1:Int)/\(↑j.1:Int)<(QN a))/\(GV.x a).1≠noA/\∃(g:Int),∃u,∃m,∃(r:Nat),∃(G:Nat),∃F,∃(H:Nat),∃(I:Nat),∃(i8:Int),(∀L,Kx a d c i L->q2u L (adr (GV.x a).1 (toNat (↑j.1:Int)*5)) [int u64 g,string u,slice m r G,slice F H I,int i64 i8])/\Ji (AT.k c=13) (oL a d u c i r j g m G F H I i8 t h) (∃(q:wm),Dl u c r q (q.2.1.1=d.1/\q.2.1.2.1=d.2.1/\q.2.1.2.2=d.2.2/\size q.2.2.1=size j.2/\q11 q.2.2.1=q11 j.2/\AE a d h c i t j q) g m G F H I i8)
 def oI:=Ji ((↑j.1:Int)<(QN a)) (oJ a d h c i t j) (∃(o:(Option Addr×Nat×Nat)×O6×Int),o.2.2=0/\Dp d (size o.2.1=size j.2/\q11 o.2.1=q11 j.2/\Dm o/\(v_ i c a h).1=true/\Dq d (size (v_ i c a h).2=size (o.2.1++vz o.2.2)/\q11 (v_ i c a h).2=q11 (o.2.1++vz o.2.2)/\True) o) o)
 def oH:=(∃(g:Nat×O6),MD a ((↑g.1:Int)=0/\(QN a)=(QN a)/\Do d (size g.2=size (ZP a h)/\Wc a c (q11 g.2=q11 (ZP a h)/\UZ a d c i/\(Fl a h c i g)/\True))))/\∀(m:Nat×O6),Fl a h c i m->oI a d h c i t m
 def oG:=(Ji (0<(QN a)) (∃(g:(Option Addr×Nat×Nat)×O6×Int),g.2.2=(QN a)/\Dp d (size g.2.1=size h/\q11 g.2.1=q11 h/\Dm g/\∃(u:Unit),Dq d (size (ZP a h)=size (g.2.1++vz g.2.2)/\Wc a c (q11 (ZP a h)=q11 (g.2.1++vz g.2.2)/\UZ a d c i/\True/\True)) g) g) (∃(r:Unit),Do d (size (ZP a h)=size h/\Wc a c (q11 (ZP a h)=q11 h/\UZ a d c i/\True/\True))))/\∀(F:Unit),True->oH a d h c i t
end
def zez(n:Nat) (S:List AT) (x:SV) (B:O6) (a:AT) (v:GV):qix P (qef [(51,W9),(52,HS),(29,uG.below wg n)]) Tryz.f54 (Ho.below uT (n+1)) (zkm) ⟨S,x,B,a,v⟩=(uT (S,x,B,a,v)<n+1/\small S/\PV.sz (GV.pv v)/\(size B+PV.wt (GV.pv v)<100000000000000/\PV.wt (GV.pv v)<90000000000000)/\(AT.k a=12/\GV.ks v=[]\/AT.k a=13/\length (GV.ks v)=length (GV.l v))/\PV.fitL S (qj a (GV.b v)) 0 (GV.pvs (GV.l v))=true->(∃(p:Pub),Kx v x a S p)->oG v x B a S n):=by kernel_rfl
def zhb:=λn S x B a v=>Eq.trans (zez n S x B a v) (by delta Ji Jb Jt Jf Kx QN Dp Dm Dq ZP MD Wc UZ Do Fl Dl Kw Dn oM oK AE oL oJ oI oH oG;exact rfl)
section
variable (g:Int) (e:List AT) (a:GV) (f:SV) (A:Int) (j:wm) (l:Nat->Option Obj) (q:Option Addr) (r:Nat)
 abbrev oQ:=0=size (zb e g (GV.pv a)).2/\qfv l noA 0 0 (q11 (zb e g (GV.pv a)).2)
 def We:=∃(B:Unit),noA=noA/\(0:Nat)=0/\(0:Nat)=0/\(zb e g (GV.pv a)).1=A/\Pl noA/\True/\(∀p,True/\qc e f p/\GV.ok a p->oQ g e a p)/\True
 abbrev Fm:=PV.enc j.1 j.2.2.2.1 (GV.pv j.2.2.2.2) j.2.2.1
 abbrev Z3:=(Fm j).2
 def AG:=(True/\qc e f l/\GV.ok a l)/\size (Z3 j)<=r/\qfu l q (take (size (Z3 j)*nat_lit 1) (q11 (Z3 j)))
 def oR:=size (Z3 j)=size (zb e g (GV.pv a)).2/\qfv l q (size (Z3 j)) r (q11 (zb e g (GV.pv a)).2)
 def oP:=Ji ((↑f.2.1:Int)<=g) (We g e a f 1) (∃(d:zt),d.2.1.1=f.1/\d.2.1.2.1=f.2.1/\d.2.1.2.2=f.2.2/\d.2.2.1=g/\GV.n d.2.2.2=GV.n a/\GV.s d.2.2.2=GV.s a/\(GV.x d.2.2.2).1=(GV.x a).1/\(GV.x d.2.2.2).2.1=(GV.x a).2.1/\(GV.x d.2.2.2).2.2=(GV.x a).2.2/\(GV.y d.2.2.2).1=(GV.y a).1/\(GV.y d.2.2.2).2.1=(GV.y a).2.1/\(GV.y d.2.2.2).2.2=(GV.y a).2.2/\GV.b d.2.2.2=GV.b a/\(small d.1/\PV.sm (GV.pv d.2.2.2))/\(∀m,True/\qc e f m/\GV.ok a m->qc d.1 d.2.1 m/\GV.ok d.2.2.2 m)/\((!PV.fits d.1 d.2.2.1 (GV.pv d.2.2.2))=true->We g e a f 7)/\((!PV.fits d.1 d.2.2.1 (GV.pv d.2.2.2))=false->∃(c:wm),c.2.2.2.1=g/\GV.n c.2.2.2.2=GV.n a/\GV.s c.2.2.2.2=GV.s a/\(GV.x c.2.2.2.2).1=(GV.x a).1/\(GV.x c.2.2.2.2).2.1=(GV.x a).2.1/\(GV.x c.2.2.2.2).2.2=(GV.x a).2.2/\(GV.y c.2.2.2.2).1=(GV.y a).1/\(GV.y c.2.2.2.2).2.1=(GV.y a).2.1/\(GV.y c.2.2.2.2).2.2=(GV.y a).2.2/\GV.b c.2.2.2.2=GV.b a/\c.2.1.1=f.1/\c.2.1.2.1=f.2.1/\c.2.1.2.2=f.2.2/\size c.2.2.1=0/\(small c.1/\PV.sz (GV.pv c.2.2.2.2)/\(size c.2.2.1+PV.wt (GV.pv c.2.2.2.2)<100000000000000/\PV.wt (GV.pv c.2.2.2.2)<90000000000000)/\PV.fits c.1 c.2.2.2.1 (GV.pv c.2.2.2.2)=true)/\(∀o,True/\qc e f o/\GV.ok a o->qc c.1 c.2.1 o/\GV.ok c.2.2.2.2 o)/\((!(Fm c).1)=true->We g e a f 3)/\((!(Fm c).1)=false->∀(t u v:Nat) (h:Option Addr) (w i:Nat),(∃i16,AG e a f c i16 h i)->∃(z:Unit),h=h/\size (Z3 c)=size (Z3 c)/\i=i/\(zb e g (GV.pv a)).1=0/\Pl h/\True/\(∀k,AG e a f c k h i->oR g e a c k h i)/\True)))
 def oO:=Ji (g<0) (We g e a f 1) (oP g e a f)
end
def zf9(S:List AT) (x:SV) (t:Int) (v:GV):qix P (qef [(28,J4),(29,uG)]) Tryz.f16 Hq (zkp) ⟨S,x,t,v⟩=(small S/\PV.sz (GV.pv v)/\PV.wt (GV.pv v)<90000000000000->(∃(p:Pub),True/\qc S x p/\GV.ok v p)->oO t S v x):=by kernel_rfl
def zi0:=λS x t v=>Eq.trans (zf9 S x t v) (by delta Ji Jt Jf oQ We Fm Z3 AG oR oP oO;exact rfl)
def uJ(a b:O6):q11 (a++b)=q11 a++q11 b:=by unfold q11;rw[ByteArray.data_append,Array.toList_append,List.map_append]
def qN(a b:O6):(a++b).size=a.size+b.size:=ByteArray.size_append
def zus(c:Nat) (h:c<256):q11 (mkS [c])=[.int .u8 (c:Nat)]:=by simp[q11,mkS];omega
def zaj(c:Nat):(mkS [c]).size=1:=rfl
def HG{a b:O6} (h:q11 a=q11 b):a=b:=by
 unfold q11 at h;apply ByteArray.ext;apply Array.toList_inj.mp;refine List.map_inj_right (f:=λb:UInt8=>Value.int .u8 (b.toNat:Nat)) (λx y e=> ?_)|>.mp h
 injection e with _ e
 exact UInt8.toNat_inj.mp (by omega)
def HH(b:O6):List.length (q11 b)=b.size*1:=by rw[q2i,Nat.mul_one]
def uB(b:O6):b++mkS []=b:=by apply HG;rw[uJ];show _++[]=_;rw[List.append_nil]
def uE(n:Int):∀j,(qE n j).size=j
 |0=>rfl
 |j+1=>by rw[qE,qN,uE n j,zaj]
def kp(n:Int) (h: -9223372036854775808<=n) (u:n<9223372036854775808):(vz n).size<=10:=by have:=Go.Proofs.YtniogjgfomaicaaGreat.Rv.venc_ten (zg n) (Ry h u);simpa[vz,ByteArray.size]using this
def zz6(m:Int):shP .shl .u64 m 1=(m*2) % 18446744073709551616:=by show IntKind.wrap .u64 (m*2 ^ min (1:Int).toNat 64)=_;rw[wrap_u64];rfl
def jip(n:Int):shP .shr .i64 n 63=n / 9223372036854775808:=by show Int.fdiv n (2 ^ min (63:Int).toNat 64)=_;rw[show(2:Int) ^ min (63:Int).toNat 64=9223372036854775808 from rfl,Int.fdiv_eq_ediv_of_nonneg _ (by omega)]
def zl9(r:Nat) (h:r<18446744073709551616):q9p .xor .u64 (r:Int) 0=(r:Int):=by show IntKind.wrap .u64 (BitVec.ofInt 64 (r:Int) ^^^ BitVec.ofInt 64 0).toNat=_;rw[show BitVec.ofInt 64 0=0#64 from rfl,BitVec.xor_zero,W0 _ h,wrap_u64];omega
def zr3(r:Nat) (h:r<18446744073709551616):q9p .xor .u64 (r:Int) 18446744073709551615=((18446744073709551615- r:Nat):Int):=by show IntKind.wrap .u64 (BitVec.ofInt 64 (r:Int) ^^^ BitVec.ofInt 64 18446744073709551615).toNat=_;rw[show BitVec.ofInt 64 18446744073709551615=BitVec.allOnes 64 from rfl,BitVec.xor_allOnes,BitVec.toNat_not,W0 _ h,wrap_u64];omega
def j6p:q4a P 120 OK:=by
 refine qw z7 (W:=λ_=>{}) Tryz.func120 λ(n:Int)=>(j6o n).mpr ?_;rintro⟨u,A⟩;refine⟨by decide,by decide,?_,trivial⟩;rw[z9z n u A,jip,zz6];unfold zg;by_cases h:0<=n
 ·rw[if_pos h,show n / 9223372036854775808=0 by omega,show IntKind.wrap .u64 0=0 from rfl];obtain⟨r,hr⟩:=Int.eq_ofNat_of_zero_le (show 0<=n % 18446744073709551616*2 % 18446744073709551616 by omega);rw[hr,zl9 r (by omega)];omega
 ·rw[if_neg h,show n / 9223372036854775808= -1 by omega,show IntKind.wrap .u64 (-1)=18446744073709551615 from rfl];obtain⟨r,hr⟩:=Int.eq_ofNat_of_zero_le (show 0<=n % 18446744073709551616*2 % 18446744073709551616 by omega);rw[hr,zr3 r (by omega)];omega
def j91:q4a P 93 Vb:=by
 refine qw (qbu (qfr j6p qil)) (W:=λ_=>{}) Tryz.func93 λ(n:Int)=>(j90 n).mpr ?_
 exactλh=>⟨n,rfl,h,rfl,trivial⟩
def zyk:q4a P 92 H_:=
 qiq (Sen.enters_of Tryz.func92 (by kernel_rfl)) (by decide) (by decide) (λ(z:Nat)=>[.int .u64 (z:Int)]) (λ(z:Nat)=> .string ⟨(Go.Proofs.YtniogjgfomaicaaGreat.Rv.venc z).toArray⟩) (λs=>rfl) (λs=>rfl) (λs=>rfl) (λs=>rfl)
  (λs I=> .sv _) λ(z:Nat) w h=>Go.Proofs.YtniogjgfomaicaaGreat.Rv.put_any z w h
def IA:q4a P 51 W9:=by
 refine qw (qbu (qfr j91 (qfr zyk qil))) (W:=λ_=>{}) Tryz.func51 λ⟨(x:SV),B,(n:Int)⟩=>(zpg x B n).mpr ?_;rintro⟨A,h,u⟩;have C:(vz n).size<=10:=kp n h u;refine⟨n,(wrap_u64 n).symm,⟨h,u⟩,zg n,rfl,Ry h u,?_⟩
 and_intros
 all_goals first|exact rfl|exact qN _ _|exact uJ _ _|exact HH _|trivial|skip
 show(B.size+(vz n).size)*1<=_;omega
def jxo:∀j:Nat,j<8->∀n:Int,shP .shr .u64 n (IntKind.wrap .u64 (8*IntKind.wrap .u64 (j:Int)))=n / (2 ^ (8*j):Nat):=λj h n=>by
 rw[wrap_u64,wrap_u64,show 8*((j:Int) % 18446744073709551616) % 18446744073709551616=((8*j:Nat):Int)by omega];show Int.fdiv n (2 ^ min ((8*j:Nat):Int).toNat 64)=_;rw[Int.toNat_natCast,Nat.min_eq_left (by omega),Int.fdiv_eq_ediv_of_nonneg _ (Int.le_of_lt (Int.pow_pos (by decide)))]
 norm_cast
def zi9:q4a P 50 Hr:=by
 refine qw z7 (W:=zkq) Tryz.func50 λ⟨(x:SV),B,(n:Int),(k:Int)⟩=>(zi8 x B n k).mpr ?_;rintro⟨J,u,A,G,H⟩;simp only[decide_eq_true_eq,decide_eq_false_iff_not,and_true,true_and];refine⟨⟨0,rfl,by rw[qE,uB],by rw[qE,uB],by omega⟩,?_⟩;intro j N;refine⟨λC=>⟨?_,HH _,?_,⟨by omega,by omega⟩,j+1,rfl,?_,?_,by omega,by omega⟩,λh=> ?_⟩
 ·rw[wrap_u64];omega
 ·rw[qN,uE];omega
 ·rw[qN,qN,uE,uE];omega
 ·rw[jxo j (by omega),qE,uJ,uJ,uJ,zus _ (by omega),J8,List.append_assoc];have e2:(2:Int) ^ (8*j)=((2 ^ (8*j):Nat):Int):=by norm_cast
  rw[e2];generalize n / ((2 ^ (8*j):Nat):Int)=m;rw[show((m % 256).toNat:Int)=m % 256 by omega]
 ·obtain rfl:j=k.toNat:=by omega
  exact⟨rfl,rfl⟩
def ze8:q4a P 52 HS:=by refine qw (qbu (qfr IA qil)) (W:=λ_=>{}) Tryz.func52 λ⟨(x:SV),B,s⟩=>(zqj x B s).mpr ?_;intro h;have h:B.size+s.size<130000000000000:=h;have u:=kp (s.size:Int) (by omega) (by omega);refine⟨⟨x,B,s.size⟩,rfl,rfl,rfl,rfl,rfl,rfl,⟨by show B.size<_;omega,by show _<=(s.size:Int);omega,by show(s.size:Int)<_;omega⟩,HH _,?_,rfl,rfl,rfl,qN _ _,uJ _ _,trivial⟩;rw[qN];show(B.size+(vz (s.size:Int)).size+s.size)*1<=_;omega
section
variable {S:List AT} {B:O6}
def Ix{t:Int} {v:PV} (h:(PV.enc S t v B).1=true):(PV.enc S t v B).2.size<=5000:=by
  obtain⟨n,s,l,ks,b⟩:=v;rw[PV.enc]at h⊢;cases hs:S[t.toNat]? with
  |none=>rw[hs]at h;simp at h
  | some a=>
    rw[hs]at h;simp only[Bool.and_eq_true,decide_eq_true_eq]at h⊢;exact h.2
variable {f:Nat->Int} {ks:List O6} {l:List PV} {j:Nat}
def zhy(h:j<l.length):PV.encL S f ks j (l.drop j) B=if(PV.enc S (f j) l[j] (B++qW ks j)).1=true then PV.encL S f ks (j+1) (l.drop (j+1)) (PV.enc S (f j) l[j] (B++qW ks j)).2 else(false,(PV.enc S (f j) l[j] (B++qW ks j)).2):=by rw[List.drop_eq_getElem_cons h,PV.encL]
def Iw(h:l.length<=j):PV.encL S f ks j (l.drop j) B=(true,B):=by rw[List.drop_of_length_le h,PV.encL]
def zw9:∀{l:List PV} {i:Nat} (h:i<l.length),l[i].wt<=PV.wts l
  |v::l,0,h=>by rw[PV.wts];show v.wt<=_;omega
  | v::l,i+1,h=>by have h':i<l.length:=(by simpa using h);have:=zw9 h';rw[PV.wts];show l[i].wt<=_;omega
def zip:∀{l:List O6} {i:Nat} (h:i<l.length),l[i].size+10<=qx l
  |v::l,0,h=>by rw[qx];show v.size+10<=_;omega
  | v::l,i+1,h=>by have h':i<l.length:=(by simpa using h);have:=zip h';rw[qx];show l[i].size+10<=_;omega
def GV.wt_eq(v:GV):v.pv.wt=30+0*v.s.size+qx v.ks+PV.wts (GV.pvs v.l):=by rw[GV.pv_eq,PV.wt]
variable {v:GV}
def GV.wt_at{i:Nat} (hi:i<v.l.length):30+qx v.ks+v.l[i].pv.wt<=v.pv.wt:=by have:=zw9 (l:=GV.pvs v.l) (i:=i) (by rw[GV.pvs_len];exact hi);rw[ZD hi]at this;have e:=GV.wt_eq v;omega
def GV.wt_len(v:GV):30*v.l.length<=v.pv.wt:=by have:=Oc (GV.pvs v.l);rw[GV.pvs_len]at this;rw[GV.wt_eq];omega
def GV.sz_at(h:v.pv.sz) {i:Nat} (hi:i<v.l.length):v.l[i].pv.sz:=by refine⟨GV.sm_at h.1 hi,?_⟩;have u:=h.2;rw[GV.pv_eq,PV.ss]at u;have hp:=ZD hi;exact I_.1 u.2 _ (by rw[←hp];exact List.getElem_mem _)
def GV.ss_s(h:v.pv.sz):v.s.size<=1000001:=by have u:=h.2;rw[GV.pv_eq,PV.ss]at u;exact u.1
def G5(h:j<v.l.length):SizeOf.sizeOf v.l[j]<SizeOf.sizeOf v:=by
 have u:=I9 h;have:SizeOf.sizeOf v.l<SizeOf.sizeOf v:=by cases v;simp[GV.l];omega
 omega
def Oo(u:j<v.l.length) (h:PV.fitL S f j ((GV.pvs v.l).drop j)=true):PV.fits S (f j) v.l[j].pv=true/\PV.fitL S f (j+1) ((GV.pvs v.l).drop (j+1))=true:=by have hd:=z9d (S:=S) (f:=f) (l:=GV.pvs v.l) (j:=j) (by rw[GV.pvs_len];exact u);rw[ZD u]at hd;rw[hd,Bool.and_eq_true]at h;exact h
def On(h:j<v.l.length):PV.encL S f ks j ((GV.pvs v.l).drop j) B=if(PV.enc S (f j) v.l[j].pv (B++qW ks j)).1=true then PV.encL S f ks (j+1) ((GV.pvs v.l).drop (j+1)) (PV.enc S (f j) v.l[j].pv (B++qW ks j)).2 else(false,(PV.enc S (f j) v.l[j].pv (B++qW ks j)).2):=by have:=zhy (S:=S) (f:=f) (ks:=ks) (l:=GV.pvs v.l) (j:=j) (B:=B) (by rw[GV.pvs_len];exact h);rw[ZD h]at this;exact this
def Iz(j:Nat):qW [] j=mkS []:=by simp[qW]
def zfv(n:Nat) (T:q4a P 29 (uG.below wg n)):q4a P 53 (Hg.below uT (n+1)):=by
 refine qw (qbu (qfr T qil)) (W:=zeo) Tryz.func53 λ⟨S,(x:SV),B,a,v⟩=>(zfu n S x B a v).mpr ?_;rintro⟨H,hS,hv,⟨hB,hw⟩,Z,hl,G,A⟩ ⟨p,_,hx,U,J⟩;have H:SizeOf.sizeOf v<n+1:=H;have xl:=GV.x_len J;have V:a.f.2.1=a.fs.length:=U.2.2.1.1;have wl:=GV.wt_len v;simp only[qy,Int.toNat_natCast,xl,V];refine⟨⟨⟨0,B⟩,rfl,rfl,rfl,by show 0<=_;omega, .inr (Nat.le_refl _),A,rfl⟩,?_⟩;rintro⟨j,C⟩ ⟨hj,hC,X,he⟩;simp only at*;refine⟨λhlt=> ?_,λY=> ?_⟩
 ·have u:j<a.fs.length:=by omega
  have h:j<v.l.length:=by omega
  have O:qj a v.b j=a.fs[j].ty:=by unfold qj;rw[if_pos Z,List.getElem?_eq_getElem u]
  have hd:=Oo h X;have hs:=On (S:=S) (f:=qj a v.b) (ks:=v.ks) (B:=C) h;rw[G,Iz,uB,←G]at hs;rw[O]at hd hs;refine⟨by omega,(vV U u).1,a.fs[j].nm,a.fs[j].al.1,a.fs[j].al.2.1,a.fs[j].al.2.2,a.fs[j].ty,a.fs[j].hd,a.fs[j].df.k,a.fs[j].df.n,a.fs[j].df.s,a.fs[j].df.y.1,a.fs[j].df.y.2.1,a.fs[j].df.y.2.2,a.fs[j].df.x.1,a.fs[j].df.x.2.1,a.fs[j].df.x.2.2,λq hq=>(vV hq.2.1 u).2,by omega,(GV.cells_at J h).1,v.l[j].n,v.l[j].s,v.l[j].x.1,v.l[j].x.2.1,v.l[j].x.2.2,v.l[j].y.1,v.l[j].y.2.1,v.l[j].y.2.2,v.l[j].b,λq hq=>(GV.cells_at hq.2.2 h).2,⟨S,x,C,a.fs[j].ty,v.l[j]⟩,?_⟩;simp only[true_and,eq_self];have:=G5 h;have:=GV.wt_at h;refine⟨⟨by show SizeOf.sizeOf v.l[j]<n;omega,hS,GV.sz_at hv h,⟨by show C.size+v.l[j].pv.wt<_;omega,by show v.l[j].pv.wt<_;omega⟩,hd.1⟩,λq hq=>⟨hq.1,GV.ok_at hq.2.2 h⟩,λN=> ?_,λN=> ?_⟩
  ·rw[←he,hs,if_neg (by rw[N];decide)];exact⟨rfl,rfl,rfl⟩
  ·have hz:=Ix N;refine⟨⟨by omega,by omega⟩,⟨j+1,(PV.enc S a.fs[j].ty v.l[j].pv C).2⟩,by show((j+1:Nat):Int)=_;omega,rfl,rfl,⟨by show j+1<=_;omega, .inl hz,hd.2,?_⟩,by show _- (j+1)<_;omega⟩;rw[←he,hs,if_pos N]
 ·rw[←he,Iw (by rw[GV.pvs_len];omega)];exact⟨rfl,rfl,rfl⟩
def zim(h:j<ks.length):qW ks j=vz (ks[j].size:Nat)++ks[j]:=by unfold qW;rw[List.getElem?_eq_getElem h]
def zhc(n:Nat) (hv0:q4a P 29 (uG.below wg n)):q4a P 54 (Ho.below uT (n+1)):=by
 refine qw (qbu (qfr IA (qfr ze8 (qfr hv0 qil)))) (W:=zkm) Tryz.func54 λ⟨S,(x:SV),B,a,v⟩=>(zhb n S x B a v).mpr ?_;rintro⟨X,hS,hv,⟨hB,hw⟩,hk,U⟩ ⟨p,_,hx,ha,J⟩;have X:SizeOf.sizeOf v<n+1:=X;have xl:=GV.x_len J;have yl:=GV.y_len J;have wl:=GV.wt_len v;have kl:v.ks.length=0\/v.ks.length=v.l.length:=hk.elim (λh=> .inl (by rw[h.2];rfl)) (λh=> .inr h.2);simp only[qy,Int.toNat_natCast,exists_const,xl,yl];have hz0:=kp (v.l.length:Int) (by omega) (by omega);have T:(u9 v.l.length B).size<=B.size+10:=by
  unfold u9;split
  ·rw[qN];omega
  ·omega
 refine⟨⟨λhlt=>⟨⟨x,B,v.l.length⟩,?_⟩,λZ=> ?_⟩,?_⟩
 ·unfold u9;rw[if_pos (by omega)];refine⟨rfl,rfl,rfl,rfl,rfl,rfl,⟨?_,?_,?_⟩,rfl,rfl,rfl,rfl,rfl⟩
  ·show B.size<_;omega
  ·show -9223372036854775808<=(v.l.length:Int);omega
  ·show(v.l.length:Int)<_;omega
 ·unfold u9;rw[if_neg (by omega)];exact⟨rfl,rfl⟩
 rintro _ _;refine⟨⟨⟨0,u9 v.l.length B⟩,rfl,rfl,rfl,by show 0<=_;omega, .inr T,U,rfl⟩,?_⟩;rintro⟨j,C⟩ ⟨hj,hC,hf,he⟩;simp only at*;refine⟨λhlt=> ?_,λZ=> ?_⟩
 ·have u:j<v.l.length:=by omega
  have hty:qj a v.b j=a.it:=by unfold qj;rw[if_neg (by omega),if_neg (by omega)]
  have hd:=Oo u hf;have hs:=On (S:=S) (f:=qj a v.b) (ks:=v.ks) (B:=C) u;rw[hty]at hd hs;have hsz:=G5 u;have hwt:=GV.wt_at u;have G:∀D,D=C++qW v.ks j->(PV.enc S a.it v.l[j].pv D).1=false->v_ S a v B=(false,(PV.enc S a.it v.l[j].pv D).2):=λD H A=>by subst H;unfold v_;rw[←he,hs,if_neg (show¬(PV.enc S a.it v.l[j].pv (C++qW v.ks j)).1=true by rw[A];decide)];rfl
  have V:∀D,D=C++qW v.ks j->(PV.enc S a.it v.l[j].pv D).1=true->PV.encL S (qj a v.b) v.ks (j+1) ((GV.pvs v.l).drop (j+1)) (PV.enc S a.it v.l[j].pv D).2=PV.encL S (qj a v.b) v.ks 0 (GV.pvs v.l) (u9 v.l.length B):=λD H A=>by subst H;rw[←he,hs,if_pos A]
  refine⟨by omega,(GV.cells_at J u).1,v.l[j].n,v.l[j].s,v.l[j].x.1,v.l[j].x.2.1,v.l[j].x.2.2,v.l[j].y.1,v.l[j].y.2.1,v.l[j].y.2.2,v.l[j].b,λq hq=>(GV.cells_at hq.2.2 u).2,λO=> ?_,λO=> ?_⟩
  ·have N:j<v.ks.length:=(by omega);have hkz:=zip N;have hvz:=kp (v.ks[j].size:Int) (by omega) (by omega);have H:C++vz (v.ks[j].size:Nat)++v.ks[j]=C++qW v.ks j:=(by rw[zim N,ByteArray.append_assoc]);have hDz:(C++vz (v.ks[j].size:Nat)++v.ks[j]).size=C.size+(vz (v.ks[j].size:Nat)).size+v.ks[j].size:=(by rw[qN,qN]);have hy:=λq (hq:GV.ok v q)=>J7 (show qb qo v.y v.ks q by rw[GV.ok_eq]at hq;exact hq.2.1) N;refine⟨by omega,(hy p J).1,v.ks[j],λq hq=>(hy q hq.2.2).2,⟨x,C,v.ks[j]⟩,?_⟩;simp only[true_and,eq_self];refine⟨by show C.size+v.ks[j].size<_;omega,⟨S,x,C++vz (v.ks[j].size:Nat)++v.ks[j],a.it,v.l[j]⟩,?_⟩;simp only[true_and,eq_self];refine⟨⟨by show SizeOf.sizeOf v.l[j]<n;omega,hS,GV.sz_at hv u,⟨by show(C++vz (v.ks[j].size:Nat)++v.ks[j]).size+v.l[j].pv.wt<_;omega,by show v.l[j].pv.wt<_;omega⟩,hd.1⟩,λq hq=>⟨hq.1,GV.ok_at hq.2.2 u⟩,λA=> ?_,λA=> ?_⟩
   ·rw[G _ H A];exact⟨rfl,rfl,rfl⟩
   ·have hz:=Ix A;refine⟨⟨by omega,by omega⟩,⟨j+1,(PV.enc S a.it v.l[j].pv (C++vz (v.ks[j].size:Nat)++v.ks[j])).2⟩,by show((j+1:Nat):Int)=_;omega,rfl,rfl,⟨by show j+1<=_;omega, .inl hz,hd.2,V _ H A⟩,by show _- (j+1)<_;omega⟩
  ·have hks:v.ks=[]:=by
    rcases hk with h|h
    ·exact h.2
    ·exact absurd h.1 O
   have H:C=C++qW v.ks j:=(by rw[hks,Iz,uB]);refine⟨⟨S,x,C,a.it,v.l[j]⟩,?_⟩;simp only[true_and,eq_self];refine⟨⟨by show SizeOf.sizeOf v.l[j]<n;omega,hS,GV.sz_at hv u,⟨by show C.size+v.l[j].pv.wt<_;omega,by show v.l[j].pv.wt<_;omega⟩,hd.1⟩,λq hq=>⟨hq.1,GV.ok_at hq.2.2 u⟩,λA=> ?_,λA=> ?_⟩
   ·rw[G _ H A];exact⟨rfl,rfl,rfl⟩
   ·have hz:=Ix A;refine⟨⟨by omega,by omega⟩,⟨j+1,(PV.enc S a.it v.l[j].pv C).2⟩,by show((j+1:Nat):Int)=_;omega,rfl,rfl,⟨by show j+1<=_;omega, .inl hz,hd.2,V _ H A⟩,by show _- (j+1)<_;omega⟩
 ·rw[Iw (by rw[GV.pvs_len];omega)]at he;have Y:v_ S a v B=(true,C++vz 0):=by unfold v_;rw[←he];rfl
  refine⟨⟨x,C,0⟩,rfl,rfl,rfl,rfl,rfl,rfl,⟨by show C.size<_;omega,by show(-9223372036854775808:Int)<=0;omega,by show(0:Int)<_;omega⟩,?_⟩;rw[Y];exact⟨rfl,rfl,rfl,rfl,rfl,rfl⟩
end
section
variable {a:AT}
def G8{n:Nat} {ks:List O6} {b:Int} (h:zx a n ks b=true):(a.k≠13->ks=[])/\(a.k=9->n=a.fs.length)/\(a.k=14->0<=b/\b<a.brs.length/\n=1)/\(a.k=13->n=ks.length):=by
 unfold zx at h;split at h
 ·cases h
 rename_i A;refine⟨λu=>List.length_eq_zero_iff.1 (by omega),λu=> ?_,λu=> ?_,λu=> ?_⟩
 ·rw[if_pos u]at h;simpa using h
 ·rw[if_neg (by omega),if_pos u]at h;simpa using h
 ·rw[if_neg (by omega),if_neg (by omega),if_pos u,Bool.and_eq_true]at h;simpa using h.1
variable {S:List AT} {t:Int} {v:GV}
def zv4(hs:S[t.toNat]? =some a) (h:PV.fits S t v.pv=true) (hq:ql a.k=true):zx a v.l.length v.ks v.b=true/\PV.fitL S (qj a v.b) 0 (GV.pvs v.l)=true:=by
 rw[GV.pv_eq,PV.fits,GV.pvs_len]at h;split at h
 ·cases h
 rw[hs]at h;have u:=hq;unfold ql at u;rw[decide_eq_true_eq]at u;have A:qI a.k=false:=by unfold qI;exact decide_eq_false (by omega)
 have C:qG a.k=false:=by unfold qG;exact decide_eq_false (by omega)
 simp only[A,C,hq,if_true,Bool.false_eq_true,if_false,Bool.and_eq_true]at h;exact⟨h.1.1.1,h.1.1.2⟩
def JR{v:PV} (h:PV.fits S t v=true):0<=t/\t<S.length:=by
 obtain⟨n,s,l,ks,b⟩:=v;rw[PV.fits]at h;split at h
 ·cases h
 ·omega
def G3(n:Int): -9223372036854775808<=IntKind.wrap .i64 n/\IntKind.wrap .i64 n<9223372036854775808:=by simp[IntKind.wrap,IntKind.bits,IntKind.signed];omega
def vJ(S:List AT) (a:AT) (v:GV) (B:O6):Bool×O6:=
 if a.k=2 then(true,B++qE v.n 1)else
 if a.k=3\/a.k=4\/a.k=10 then(true,B++vz (IntKind.wrap .i64 v.n))else
 if a.k=5 then(true,B++qE v.n 4)else
 if a.k=6 then(true,B++qE v.n 8)else
 if a.k=7\/a.k=8 then(true,B++vz v.s.size++v.s)else
 if a.k=11 then(true,B++v.s)else
 if a.k=14 then PV.encL S (qj a v.b) v.ks 0 (GV.pvs v.l) (B++vz v.b)else
 if a.k=9 then PV.encL S (qj a v.b) v.ks 0 (GV.pvs v.l) B else
 if a.k=12\/a.k=13 then v_ S a v B else(true,B)
variable {B:O6}
def j7n(hs:S[t.toNat]? =some a):PV.enc S t v.pv B=((vJ S a v B).1&&decide ((vJ S a v B).2.size<=5000),(vJ S a v B).2):=by rw[GV.pv_eq,PV.enc,hs,GV.pvs_len];rfl
def zxc(hs:S[t.toNat]? =some a) {r:Bool×O6} (h:vJ S a v B=r):(r.1=true->(PV.enc S t v.pv B).1=decide ((r.2.size:Int)<=5000))/\(r.1=false->(PV.enc S t v.pv B).1=false)/\(PV.enc S t v.pv B).2=r.2:=by
 rw[j7n hs,h];refine⟨λh=> ?_,λh=> ?_,rfl⟩
 ·rw[h,Bool.true_and];exact qV (by omega)
 ·rw[h,Bool.false_and]
def zkh(n:Nat) (hv0:q4a P 29 (uG.below wg n)) (hr0:q4a P 53 (Hg.below uT (n+1))) (hb0:q4a P 54 (Ho.below uT (n+1))):q4a P 29 (uG.below wg (n+1)):=by
 refine qw (qbu (qfr IA (qfr zi9 (qfr ze8 (qfr hr0 (qfr hb0 (qfr hv0 qil))))))) (W:=zl0) Tryz.func29 λ⟨S,(x:SV),B,(t:Int),v⟩=>(zkg n S x B t v).mpr ?_;rintro⟨Z,hS,hv,⟨hB,hw⟩,hfit⟩ ⟨p,_,hx,V⟩;have Z:SizeOf.sizeOf v<n+1:=Z;have xs:x.2.1=S.length:=hx.1.1;have xl:=GV.x_len V;have wl:=GV.wt_eq v;have hvs:=hv.1;have hs1:=GV.ss_s hv;rw[GV.sm_eq]at hvs;obtain⟨hn,hss,vl,kl,ksz,_⟩:=hvs;obtain⟨t0,t1⟩:=JR hfit;simp only[qy,Int.toNat_natCast,exists_const];obtain⟨j,rfl⟩:=Int.eq_ofNat_of_zero_le t0;have hj:j<S.length:=by omega
 have hsj:S[((j:Nat):Int).toNat]? =some S[j]:=by rw[Int.toNat_natCast,List.getElem?_eq_getElem hj]
 have hat:=λq (hq:qc S x q/\v.ok q)=>yp hq.1 hj;have hao:=λq (hq:qc S x q/\v.ok q)=>hq.1.2 S[j] (List.getElem_mem hj);refine⟨⟨by omega,by omega⟩,(hat p ⟨hx,V⟩).1,S[j].k,S[j].nm,S[j].al.1,S[j].al.2.1,S[j].al.2.2,S[j].it,S[j].sy.1,S[j].sy.2.1,S[j].sy.2.2,S[j].hd,S[j].df,S[j].sz,S[j].f.1,S[j].f.2.1,S[j].f.2.2,S[j].br.1,S[j].br.2.1,S[j].br.2.2,λq hq=>(hat q hq).2,?_⟩;have hsm:=hS.2 S[j] (List.getElem_mem hj);have T:=λq (hq:qc S x q/\v.ok q)=>hao q hq;have hqq:=zv4 (v:=v) hsj hfit;have X:=λ(r:Bool×O6) (h:vJ S S[j] v B=r)=>zxc (t:=((j:Nat):Int)) (v:=v) (B:=B) hsj h;have bl:S[j].br.2.1=S[j].brs.length:=(hao p ⟨hx,V⟩).2.2.2.1.1;generalize S[j]=a at*;generalize PV.enc S (j:Int) v.pv B=R at*;refine⟨λO=> ?_,λO=>⟨⟨λh=>by unfold jK;exact qV (by omega),λh3=>⟨λh=>by unfold jK;exact qV (by omega),λh4=>by unfold jK;exact qV (by omega)⟩⟩,?_⟩⟩
 ·obtain⟨e1,_,e2⟩:=X _ (by unfold vJ;rw[if_pos O]);refine⟨⟨x,B,v.n,1⟩,rfl,rfl,rfl,rfl,rfl,rfl,rfl,⟨by show B.size<_;omega,by show(0:Int)<=1;omega,by show(1:Int)<=8;omega,hn.1,hn.2⟩,e1 rfl,rfl,rfl,rfl,by rw[e2];rfl,by rw[e2];rfl⟩
 intro _ _;refine⟨λhL=> ?_,λhL=> ?_⟩
 ·have u:=hL;unfold jK at u;rw[decide_eq_true_eq]at u;obtain⟨e1,_,e2⟩:=X _ (by unfold vJ;rw[if_neg O,if_pos u]);have hw64:=G3 v.n;refine⟨⟨x,B,IntKind.wrap .i64 v.n⟩,rfl,rfl,rfl,rfl,rfl,rfl,⟨by show B.size<_;omega,hw64.1,hw64.2⟩,e1 rfl,rfl,rfl,rfl,by rw[e2],by rw[e2]⟩
 have u:=hL;unfold jK at u;rw[decide_eq_false_iff_not]at u;refine⟨λY=> ?_,λY=>⟨λh6=> ?_,λh6=>⟨⟨λh=>by unfold kQ;exact qV (by omega),λh=>by unfold kQ;exact qV (by omega)⟩,?_⟩⟩⟩
 ·obtain⟨e1,_,e2⟩:=X _ (by unfold vJ;rw[if_neg O,if_neg u,if_pos Y]);refine⟨⟨x,B,v.n,4⟩,rfl,rfl,rfl,rfl,rfl,rfl,rfl,⟨by show B.size<_;omega,by show(0:Int)<=4;omega,by show(4:Int)<=8;omega,hn.1,hn.2⟩,e1 rfl,rfl,rfl,rfl,by rw[e2];rfl,by rw[e2];rfl⟩
 ·obtain⟨e1,_,e2⟩:=X _ (by unfold vJ;rw[if_neg O,if_neg u,if_neg Y,if_pos h6]);refine⟨⟨x,B,v.n,8⟩,rfl,rfl,rfl,rfl,rfl,rfl,rfl,⟨by show B.size<_;omega,by show(0:Int)<=8;omega,by show(8:Int)<=8;omega,hn.1,hn.2⟩,e1 rfl,rfl,rfl,rfl,by rw[e2];rfl,by rw[e2];rfl⟩
 intro _ _;refine⟨λH=> ?_,λH=> ?_⟩
 ·have A:=H;unfold kQ at A;rw[decide_eq_true_eq]at A;obtain⟨e1,_,e2⟩:=X _ (by unfold vJ;rw[if_neg O,if_neg u,if_neg Y,if_neg h6,if_pos A]);refine⟨⟨x,B,v.s⟩,rfl,rfl,rfl,rfl,rfl,rfl,by show B.size+v.s.size<_;omega,e1 rfl,rfl,rfl,rfl,by rw[e2],by rw[e2]⟩
 have A:=H;unfold kQ at A;rw[decide_eq_false_iff_not]at A;refine⟨λN=> ?_,λN=>⟨λJ=> ?_,λJ=>⟨λh9=> ?_,λh9=>⟨⟨λh=>by unfold xT;exact qV (by omega),λh=>by unfold xT;exact qV (by omega)⟩,?_⟩⟩⟩⟩
 ·obtain⟨e1,_,e2⟩:=X _ (by unfold vJ;rw[if_neg O,if_neg u,if_neg Y,if_neg h6,if_neg A,if_pos N]);refine⟨HH B,by omega,?_,by rw[e2,qN],by rw[e2,uJ]⟩;rw[e1 rfl,qN]
 ·obtain⟨ho,U⟩:=hqq (by unfold ql;exact decide_eq_true (by omega));obtain⟨o1,o2,o3,o4⟩:=G8 ho;obtain⟨b0,b1,l1⟩:=o3 J;have hks:=o1 (by omega);have h0:0<v.l.length:=by omega
  obtain⟨b,H⟩:=Int.eq_ofNat_of_zero_le b0;have hbl:b<a.brs.length:=by omega
  have hty:qj a v.b 0=a.brs[b]:=by unfold qj;rw[if_neg (by omega),if_pos J,H,Int.toNat_natCast,List.getD_eq_getElem?_getD,List.getElem?_eq_getElem hbl];rfl
  have hd:=Oo (S:=S) (f:=qj a v.b) (j:=0) h0 (by rw[List.drop_zero];exact U);rw[hty]at hd;have hsz:=G5 h0;have hwt:=GV.wt_at h0;have hvz:=kp v.b (by omega) (by omega);have hs:=On (S:=S) (f:=qj a v.b) (ks:=v.ks) (B:=B++vz v.b) h0;have hend:∀C,PV.encL S (qj a v.b) v.ks (0+1) ((GV.pvs v.l).drop (0+1)) C=(true,C):=λC=>Iw (by rw[GV.pvs_len];omega);rw[hend,hks,Iz,uB,←hks,hty,List.drop_zero]at hs;have hen:vJ S a v B=((PV.enc S a.brs[b] v.l[0].pv (B++vz v.b)).1,(PV.enc S a.brs[b] v.l[0].pv (B++vz v.b)).2):=by
   unfold vJ;rw[if_neg O,if_neg u,if_neg Y,if_neg h6,if_neg A,if_neg N,if_pos J,hs];split
   ·rename_i hh;rw[hh]
   ·rename_i hh;rw[Bool.not_eq_true]at hh;rw[hh]
  obtain⟨e1,e3,e2⟩:=X _ hen;refine⟨⟨x,B,v.b⟩,rfl,rfl,rfl,rfl,rfl,rfl,⟨by show B.size<_;omega,by show _<=v.b;omega,by show v.b<_;omega⟩,⟨b0,by omega⟩,?_⟩;rw[show v.b.toNat=b by omega];have hba:=λq (hq:qc S x q/\v.ok q)=>yV (T q hq) hbl;refine⟨(hba p ⟨hx,V⟩).1,a.brs[b],λq hq=>(hba q hq).2,⟨by omega,by omega⟩,(GV.cells_at V h0).1,v.l[0].n,v.l[0].s,v.l[0].x.1,v.l[0].x.2.1,v.l[0].x.2.2,v.l[0].y.1,v.l[0].y.2.1,v.l[0].y.2.2,v.l[0].b,λq hq=>(GV.cells_at hq.2 h0).2,⟨S,x,B++vz v.b,a.brs[b],v.l[0]⟩,?_⟩;simp only[true_and,eq_self];refine⟨⟨by show SizeOf.sizeOf v.l[0]<n;omega,hS,GV.sz_at hv h0,⟨by show(B++vz v.b).size+v.l[0].pv.wt<_;rw[qN];omega,by show v.l[0].pv.wt<_;omega⟩,hd.1⟩,λq hq=>⟨hq.1,GV.ok_at hq.2 h0⟩,λH=>⟨e1 H,by rw[e2],by rw[e2]⟩,λH=>⟨e3 H,by rw[e2],by rw[e2]⟩⟩
 ·obtain⟨ho,U⟩:=hqq (by unfold ql;exact decide_eq_true (by omega));obtain⟨o1,o2,o3,o4⟩:=G8 ho;obtain⟨e1,e3,e2⟩:=X _ (by unfold vJ;rw[if_neg O,if_neg u,if_neg Y,if_neg h6,if_neg A,if_neg N,if_neg J,if_pos h9]);refine⟨⟨S,x,B,a,v⟩,?_⟩;simp only[true_and,eq_self];exact⟨⟨Z,hS,hv,⟨hB,hw⟩,h9,o2 h9,o1 (by omega),U⟩,λq hq=>⟨hq.1,T q hq,hq.2⟩,λH=>⟨e1 H,by rw[e2],by rw[e2]⟩,λH=>⟨e3 H,by rw[e2],by rw[e2]⟩⟩
 intro _ _;refine⟨λhA=> ?_,λhA=> ?_⟩
 ·have G:=hA;unfold xT at G;rw[decide_eq_true_eq]at G;obtain⟨ho,U⟩:=hqq (by unfold ql;exact decide_eq_true (by omega));obtain⟨o1,o2,o3,o4⟩:=G8 ho;obtain⟨e1,e3,e2⟩:=X _ (by unfold vJ;rw[if_neg O,if_neg u,if_neg Y,if_neg h6,if_neg A,if_neg N,if_neg J,if_neg h9,if_pos G]);refine⟨⟨S,x,B,a,v⟩,?_⟩;simp only[true_and,eq_self];refine⟨⟨Z,hS,hv,⟨hB,hw⟩,?_,U⟩,λq hq=>⟨hq.1,T q hq,hq.2⟩,λH=>⟨e1 H,by rw[e2],by rw[e2]⟩,λH=>⟨e3 H,by rw[e2],by rw[e2]⟩⟩;exact G.elim (λh=> .inl ⟨h,o1 (by omega)⟩) (λh=> .inr ⟨h,(o4 h).symm⟩)
 ·have G:=hA;unfold xT at G;rw[decide_eq_false_iff_not]at G;obtain⟨e1,_,e2⟩:=X _ (by unfold vJ;rw[if_neg O,if_neg u,if_neg Y,if_neg h6,if_neg A,if_neg N,if_neg J,if_neg h9,if_neg G]);exact⟨e1 rfl,by rw[e2],by rw[e2]⟩
def Hz:∀n,q4a P 29 (uG.below wg n)
 |0=>Ct.below_zero (by decide) (by decide) (Sen.enters_of Tryz.func29 (by kernel_rfl)) λs=>⟨rfl,rfl⟩
 |n+1=>zkh n (Hz n) (zfv n (Hz n)) (zhc n (Hz n))
def zg1:q4a P 29 uG:=Ct.of_below Hz
def z9c:q4a P 16 Hq:=by
 refine qw (qbu (qfr zoo (qfr zg1 qil))) (W:=zkp) Tryz.func16 λ⟨S,(x:SV),(t:Int),v⟩=>(zi0 S x t v).mpr ?_;rintro⟨hS,H,hw⟩ ⟨p,_,hx,O⟩;have xs:x.2.1=S.length:=hx.1.1;have nil:∀q,qfv q noA 0 0 (q11 (mkS [])):=λq=>⟨Nat.le_refl _, .inl ⟨rfl,uF⟩⟩;simp only[qy,Int.toNat_natCast,exists_const];have J:(t<0\/S.length<=t)->zb S t v.pv=(1,mkS []):=λh=>by unfold zb;rw[if_pos h]
 refine⟨λh=> ?_,λh=>⟨λN=> ?_,λN=>⟨⟨S,x,t,v⟩,?_⟩⟩⟩
 ·rw[J (.inl h)];exact⟨rfl,uF,λq _=>⟨rfl,nil q⟩⟩
 ·rw[J (.inr (by omega))];exact⟨rfl,uF,λq _=>⟨rfl,nil q⟩⟩
 simp only[true_and,eq_self];have hr:¬(t<0\/S.length<=t):=by omega
 refine⟨⟨hS,H.1⟩,λq hq=>hq,λG=> ?_,λG=>⟨⟨S,x,mkS [],t,v⟩,?_⟩⟩
 ·have:zb S t v.pv=(7,mkS []):=by unfold zb;rw[if_neg hr,if_pos G]
  rw[this];exact⟨rfl,uF,λq _=>⟨rfl,nil q⟩⟩
 have A:zb S t v.pv=if(PV.enc S t v.pv (mkS [])).1=true then(0,(PV.enc S t v.pv (mkS [])).2)else(3,mkS []):=by unfold zb;rw[if_neg hr,if_neg (by rw[G];decide)]
 simp only[true_and,eq_self];refine⟨rfl,⟨hS,H,⟨by show 0+v.pv.wt<_;omega,hw⟩,G⟩,λq hq=>hq,λhe=> ?_,λhe=> ?_⟩
 ·rw[A,if_neg (by rw[he];decide)];exact⟨rfl,uF,λq _=>⟨rfl,nil q⟩⟩
 ·rintro b s u a n c ⟨q,hq,T,C⟩;rw[A,if_pos he];refine⟨rfl,rowP_Pl C,λr hr=>⟨rfl,?_⟩⟩;have:=hr.2.2;rw[Nat.mul_one,←q2i,List.take_length]at this;exact⟨hr.2.1,this⟩
end
mutual
def PV.fb(S:List AT) (t:Int):PV->O6
  | .mk n s l ks b=>match S[t.toNat]? with
    |none=>mkS []
    | some a=>
      if a.k=2 then qE n 1 else
      if a.k=3\/a.k=4\/a.k=10 then vz (IntKind.wrap .i64 n)else
      if a.k=5 then qE n 4 else
      if a.k=6 then qE n 8 else
      if a.k=7\/a.k=8 then vz s.size++s else
      if a.k=11 then s else
      if a.k=14 then vz b++PV.fbL S (qj a b) ks 0 l else
      if a.k=9 then PV.fbL S (qj a b) ks 0 l else
      if a.k=12\/a.k=13 then(if 0<l.length then vz l.length else mkS [])++PV.fbL S (qj a b) ks 0 l++vz 0
      else mkS []
def PV.fbL(S:List AT) (f:Nat->Int) (ks:List O6) (i:Nat):List PV->O6
 | []=>mkS []
 |v::l=>qW ks i++PV.fb S (f i) v++PV.fbL S f ks (i+1) l
end
def EF:Ct where
 σ:=Int×Int
 args:=λ⟨n,k⟩=>[.sv (.int .u64 n), .sv (.int .i64 k)]
 h:=λ_=>[]
 m:=1
 pre:=λ⟨n,k⟩=>(0<=k/\k<=8)/\0<=n/\n<18446744073709551616
 r:=λ⟨n,k⟩=> .sv (.string (qE n k.toNat))
 h':=λ_=>[]
 m':=2
 g:=λ_=>none
def dH:Int×Int->WayF:=λ⟨n,k⟩=>{
 ann:=λ_ _ _=>some {σ:=Nat,pre:=λj=>(j:Int)<=k,t:=λj=>[(0, .sv (.int .u64 (n / (2 ^ (8*j):Nat)))),(5, .sv (.string (qE n j))),(6, .sv (.int .i64 (j:Int)))],h:=λ_=>[],more:=0,μ:=λj=>k.toNat- j,keep:=[1]}}
def Pj:Ct where
 σ:=zt
 args:=λ⟨S,x,t,v⟩=>[jP x, .sv (.int .i64 t),v.av]
 h:=λ_=>[]
 m:=1
 pre:=λ⟨S,x,t,v⟩=>small S/\v.pv.sz/\v.pv.wt<90000000000000/\PV.fits S t v.pv=true
 mem:=λ⟨S,x,t,v⟩=>VU S x v
 r:=λ⟨S,x,t,v⟩=> .sv (.string (PV.fb S t v.pv))
 h':=λ_=>[]
 m':=2
 g:=λ_=>none
def RE(l:Nat):O6:=if 0<l then vz l else mkS []
def jiy:zt->WayF:=λ⟨S,x,t,v⟩=>{
 cut:=λi t _=>match i with
  |8=>yi jK 24 18 [1,3,5,7,18] t
  |15=>yi kQ 42 18 [1,3,5,7,18] t
  |29=>yi xT 99 18 [1,3,5,7,18] t
  |32=>some {σ:=Unit,t:=λ_=>[(10, .sv (.string (RE v.l.length)))],h:=λ_=>[],more:=0,μ:=λ_=>0,keep:=[1,3,5,7,18]}
  |_=>none
 ann:=λid _ _=>match id with
  |1=>some {σ:=Nat×O6,pre:=λ⟨j,C⟩=>j<=v.l.length/\C++PV.fbL S (qj (qd S t) v.b) v.ks j ((GV.pvs v.l).drop j)=PV.fbL S (qj (qd S t) v.b) v.ks 0 (GV.pvs v.l),t:=λ⟨j,C⟩=>[(8, .sv (.string C)),(9, .sv (.int .i64 (j:Int)))],h:=λ_=>[],more:=0,μ:=λ⟨j,C⟩=>v.l.length- j,keep:=[1,3,5,7,18]}
  |_=>some {σ:=Nat×O6,pre:=λ⟨j,C⟩=>j<=v.l.length/\C++PV.fbL S (qj (qd S t) v.b) v.ks j ((GV.pvs v.l).drop j)=RE v.l.length++PV.fbL S (qj (qd S t) v.b) v.ks 0 (GV.pvs v.l),t:=λ⟨j,C⟩=>[(10, .sv (.string C)),(11, .sv (.int .i64 (j:Int)))],h:=λ_=>[],more:=0,μ:=λ⟨j,C⟩=>v.l.length- j,keep:=[1,3,5,7,18]}}
def zcu:Ct where
 σ:=zt
 args:=λ⟨S,x,t,v⟩=>[jP x, .sv (.int .i64 t),v.av]
 h:=λ_=>[]
 m:=1
 pre:=λ⟨S,x,t,v⟩=>small S/\Qx S/\v.pv.sz/\v.pv.wt<90000000000000
 mem:=λ⟨S,x,t,v⟩=>VU S x v
 r:=λ⟨S,x,t,v⟩=> .tup [.tsl 1, .sv (.int .i64 (zb S t v.pv).1)]
 h':=λ_=>[]
 m':=2
 g:=λ⟨S,x,t,v⟩=>some {β:=Unit,ks:=[1],pre:=λ_=>True,mem:=λ_ xs=>O_ (zb S t v.pv).2 xs}
def zek:zt->WayF:=λ_=>{pubE:=[26]}
section
variable {S:List AT} {t:Int}
def Zv{a:AT} {n:Int} {s:O6} {l:List PV} {ks:List O6} {b:Int} (hs:S[t.toNat]? =some a) (h:PV.fits S t (.mk n s l ks b)=true) (hq:ql a.k=true):zx a l.length ks b=true/\PV.fitL S (qj a b) 0 l=true:=by
 rw[PV.fits]at h;split at h
 ·cases h
 rw[hs]at h;have u:=hq;unfold ql at u;rw[decide_eq_true_eq]at u;have A:qI a.k=false:=by unfold qI;exact decide_eq_false (by omega)
 have C:qG a.k=false:=by unfold qG;exact decide_eq_false (by omega)
 simp only[A,C,hq,if_true,Bool.false_eq_true,if_false,Bool.and_eq_true]at h;exact⟨h.1.1.1,h.1.1.2⟩
def Iy{v:PV} (h:PV.fits S t v=true):∃a,S[t.toNat]? =some a/\a∈S:=by have hr:=JR h;exact⟨S[t.toNat]'(by omega),List.getElem?_eq_getElem (by omega),List.getElem_mem _⟩
def Hy{r:Bool×O6} {B F:O6} (u:r.1=true->r.2=B++F) (A:(B++F).size<=5000->r.1=true):((r.1&&decide (r.2.size<=5000))=true↔(B++F).size<=5000)/\((r.1&&decide (r.2.size<=5000))=true->r.2=B++F):=by
 rw[Bool.and_eq_true,decide_eq_true_eq];refine⟨⟨λh=> ?_,λh=>⟨A h,?_⟩⟩,λh=>u h.1⟩
 ·rw[←u h.1];exact h.2
 ·rw[u (A h)];exact h
def KJ{C B F:O6} (h:C=B++F):((((true,C):Bool×O6).1&&decide (((true,C):Bool×O6).2.size<=5000))=true↔(B++F).size<=5000)/\((((true,C):Bool×O6).1&&decide (((true,C):Bool×O6).2.size<=5000))=true->((true,C):Bool×O6).2=B++F):=Hy (λ_=>h) λ_=>rfl
mutual
def zv3{S:List AT}:∀(v:PV) (t:Int) (B:O6),PV.fits S t v=true->((PV.enc S t v B).1=true↔(B++PV.fb S t v).size<=5000)/\((PV.enc S t v B).1=true->(PV.enc S t v B).2=B++PV.fb S t v)
  | .mk n s l ks b,t,B,h=>by
    obtain⟨a,hs,_⟩:=Iy h;have hq:=Zv (a:=a) hs h;rw[PV.enc,PV.fb,hs];dsimp only;by_cases G:a.k=2
    · rw[if_pos G,if_pos G];exact KJ rfl
    rw[if_neg G,if_neg G];by_cases H:a.k=3\/a.k=4\/a.k=10
    · rw[if_pos H,if_pos H];exact KJ rfl
    rw[if_neg H,if_neg H];by_cases J:a.k=5
    · rw[if_pos J,if_pos J];exact KJ rfl
    rw[if_neg J,if_neg J];by_cases N:a.k=6
    · rw[if_pos N,if_pos N];exact KJ rfl
    rw[if_neg N,if_neg N];by_cases O:a.k=7\/a.k=8
    · rw[if_pos O,if_pos O];exact KJ ByteArray.append_assoc
    rw[if_neg O,if_neg O];by_cases u:a.k=11
    · rw[if_pos u,if_pos u];exact KJ rfl
    rw[if_neg u,if_neg u];by_cases A:a.k=14
    · rw[if_pos A,if_pos A];have C:=encL_fb l (qj a b) ks 0 (B++vz b) (hq (by unfold ql;exact decide_eq_true (by omega))).2;rw[ByteArray.append_assoc]at C;exact Hy C.1 C.2
    rw[if_neg A,if_neg A];by_cases T:a.k=9
    · rw[if_pos T,if_pos T];have C:=encL_fb l (qj a b) ks 0 B (hq (by unfold ql;exact decide_eq_true (by omega))).2;exact Hy C.1 C.2
    rw[if_neg T,if_neg T];by_cases hA:a.k=12\/a.k=13
    · rw [if_pos hA,if_pos hA];have C:=λV=>encL_fb l (qj a b) ks 0 V (hq (by unfold ql;exact decide_eq_true (by omega))).2;have e:(if 0<l.length then B++vz l.length else B)=B++(if 0<l.length then vz l.length else mkS []):=by
        split
        · rfl
        · rw[uB]
      rw[e];generalize (if 0<l.length then vz l.length else mkS [])=L;obtain⟨X,Y⟩:=C (B++L);refine Hy (λh=> ?_) λh=> ?_
      · by_cases U:(PV.encL S (qj a b) ks 0 l (B++L)).1=true
        · rw[if_pos U];show(PV.encL S (qj a b) ks 0 l (B++L)).2++vz 0=_;rw[X U];simp only[ByteArray.append_assoc]
        · rw[if_neg U]at h;exact absurd h U
      · rw[if_pos (Y (by have e2:B++(L++PV.fbL S (qj a b) ks 0 l++vz 0)=(B++L++PV.fbL S (qj a b) ks 0 l)++vz 0:=(by simp only[ByteArray.append_assoc]);rw[e2,qN]at h;omega))]
    · rw[if_neg hA,if_neg hA];exact KJ (uB B).symm
def encL_fb{S:List AT}:∀(l:List PV) (f:Nat->Int) (ks:List O6) (i:Nat) (B:O6),PV.fitL S f i l=true->((PV.encL S f ks i l B).1=true->(PV.encL S f ks i l B).2=B++PV.fbL S f ks i l)/\((B++PV.fbL S f ks i l).size<=5000->(PV.encL S f ks i l B).1=true)
  | [],f,ks,i,B,h=>by rw[PV.encL,PV.fbL];exact⟨λ_=>(uB B).symm,λ_=>rfl⟩
  | v ::l,f,ks,i,B,h=>by
    rw[PV.fitL,Bool.and_eq_true]at h;obtain⟨e1,e2⟩:=zv3 v (f i) (B++qW ks i) h.1;rw[PV.encL,PV.fbL];have A:B++(qW ks i++PV.fb S (f i) v++PV.fbL S f ks (i+1) l)=B++qW ks i++PV.fb S (f i) v++PV.fbL S f ks (i+1) l:=(by simp only[ByteArray.append_assoc]);rw[A];by_cases u:(PV.enc S (f i) v (B++qW ks i)).1=true
    · rw[if_pos u,e2 u];exact encL_fb l f ks (i+1) _ h.2
    · rw[if_neg u];refine⟨λh=>(by cases h),λh=>absurd (e1.2 ?_) u⟩;rw[qN]at h;omega
end
def zxn(ks:List O6) (i:Nat) (h:qx ks<90000000000000):(qW ks i).size+qx (ks.drop (i+1))<=qx (ks.drop i):=by
 by_cases hi:i<ks.length
 ·rw[zim hi,List.drop_eq_getElem_cons hi,qx,qN];have:=ziq (List.getElem_mem hi);have:=kp (ks[i].size:Int) (by omega) (by omega);omega
 ·rw[List.drop_of_length_le (by omega),List.drop_of_length_le (by omega)];have:qW ks i=mkS []:=by unfold qW;rw[List.getElem?_eq_none (by omega)]
  rw[this];decide
mutual
def zi1{S:List AT}:∀(v:PV) (t:Int),v.sz->v.wt<90000000000000->PV.fits S t v=true->small S->(PV.fb S t v).size<=50000*v.wt
  | .mk n s l ks b,t,Z,hw,h,hS=>by
    obtain⟨a,hs,ha⟩:=Iy h;have hq:=Zv (a:=a) hs h;have G:=Z.2;have C:=Z.1;rw[PV.ss]at G;rw[PV.sm]at C;have N:=λhi=>fbL_size l (qj a b) ks 0 (W8.1 C.2.2.2.2.2) (I_.1 G.2) (by rw[PV.wt]at hw;omega) (by rw[PV.wt]at hw;omega) hi hS;rw[List.drop_zero]at N;rw[PV.wt]at hw⊢;have hll:=Oc l;rw[PV.fb,hs];dsimp only;have H:=λm (h1: -9223372036854775808<=m) J=>kp m h1 J;have O:=uE n;by_cases J:a.k=2
    · rw[if_pos J,O];omega
    rw[if_neg J];by_cases T:a.k=3\/a.k=4\/a.k=10
    · rw[if_pos T];have:=H _ (G3 n).1 (G3 n).2;omega
    rw[if_neg T];by_cases U:a.k=5
    · rw[if_pos U,O];omega
    rw[if_neg U];by_cases V:a.k=6
    · rw[if_pos V,O];omega
    rw[if_neg V];by_cases X:a.k=7\/a.k=8
    · rw[if_pos X,qN];have:=H (s.size:Int) (by omega) (by omega);omega
    rw[if_neg X];by_cases A:a.k=11
    · rw[if_pos A];omega
    rw[if_neg A];have hbl:=(hS.2 a ha);by_cases u:a.k=14
    · rw[if_pos u,qN];obtain⟨ho,hf⟩:=hq (by unfold ql;exact decide_eq_true (by omega));obtain⟨o1,o2,o3,o4⟩:=G8 ho;have:=o3 u;have:=H b (by omega) (by omega);have:=N hf;omega
    rw[if_neg u];by_cases Y:a.k=9
    · rw[if_pos Y];have:=N (hq (by unfold ql;exact decide_eq_true (by omega))).2;omega
    rw[if_neg Y];by_cases hA:a.k=12\/a.k=13
    · rw[if_pos hA,qN,qN];have:=N (hq (by unfold ql;exact decide_eq_true (by omega))).2;have:=H 0 (by omega) (by omega);have:=H (l.length:Int) (by omega) (by omega);have e:(if 0<l.length then vz l.length else mkS []).size<=10:=by
        split
        · assumption
        · decide
      omega
    · rw[if_neg hA];show 0<=_;omega
def fbL_size{S:List AT}:∀(l:List PV) (f:Nat->Int) (ks:List O6) (i:Nat),(∀v∈l,v.sm)->(∀v∈l,v.ss)->PV.wts l<90000000000000->qx ks<90000000000000->PV.fitL S f i l=true->small S->(PV.fbL S f ks i l).size<=qx (ks.drop i)+50000*PV.wts l
  | [],f,ks,i,_,_,_,_,_,_=>by rw[PV.fbL];show 0<=_;omega
  | v::l,f,ks,i,A,C,hw,G,h,hS=>by rw[PV.fitL,Bool.and_eq_true]at h;rw[PV.wts]at hw⊢;have H:=zi1 v (f i) ⟨A v (.head _),C v (.head _)⟩ (by omega) h.1 hS;have J:=fbL_size l f ks (i+1) (λu hu=>A u (.tail _ hu)) (λu hu=>C u (.tail _ hu)) (by omega) G h.2 hS;have N:=zxn ks i G;rw[PV.fbL,qN,qN];omega
end
def Hx{v:PV} (A:¬(t<0\/S.length<=t)) (h:PV.fits S t v=true):zb S t v=if(PV.fb S t v).size<=5000 then(0,PV.fb S t v)else(3,mkS []):=by
 unfold zb;rw[if_neg A,if_neg (by rw[h];decide)];obtain⟨e1,e2⟩:=zv3 v t (mkS []) h;have e0:mkS []++PV.fb S t v=PV.fb S t v:=by apply HG;rw[uJ];rfl
 rw[e0]at e1 e2;by_cases u:(PV.enc S t v (mkS [])).1=true
 ·rw[if_pos u,if_pos (e1.1 u),e2 u]
 ·rw[if_neg u,if_neg λg=>u (e1.2 g)]
end
def q8:List O6->O6
 | []=>mkS []
 |a::l=>a++q8 l
def z9h:∀(l m:List O6),q8 (l++m)=q8 l++q8 m
 | [],m=>by rw[q8,List.nil_append];apply HG;rw[uJ];rfl
 |a::l,m=>by rw[List.cons_append,q8,q8,z9h l m,ByteArray.append_assoc]
inductive Blk:List O6->O6->Prop
 |nil:Blk [] (vz 0)
 |pos {I J:List O6} {R:O6} (hI:I≠[]) (h:Blk J R):Blk (I++J) (vz (I.length:Nat)++q8 I++R)
 |neg {I J:List O6} {R:O6} (hI:I≠[]) (h:Blk J R):Blk (I++J) (vz (-(I.length:Nat))++vz ((q8 I).size:Nat)++q8 I++R)
mutual
def PV.bl(S:List AT) (t:Int):PV->O6->Prop
  | .mk n s l ks b,B=>match S[t.toNat]? with
    |none=>False
    |some a=>if ql a.k=true then∃I:List O6,PV.blL S (qj a b) ks 0 l I/\(if a.k=14 then B=vz b++q8 I else if a.k=9 then B=q8 I else Blk I B)else B=PV.fb S t (.mk n s l ks b)
def PV.blL(S:List AT) (f:Nat->Int) (ks:List O6) (i:Nat):List PV->List O6->Prop
 | [],I=>I=[]
 |v::l,I=>∃c J,I=(qW ks i++c)::J/\PV.bl S (f i) v c/\PV.blL S f ks (i+1) l J
end
def W5{S:List AT} {f:Nat->Int} {ks:List O6}:∀{l:List PV} {i:Nat} {I:List O6},PV.blL S f ks i l I->I.length=l.length
  | [],i,I,h=>by rw[PV.blL]at h;rw[h];rfl
  | v::l,i,I,h=>by rw[PV.blL]at h;obtain⟨c,J,rfl,_,u⟩:=h;rw[List.length_cons,List.length_cons,W5 u]
mutual
def Pg{S:List AT}:∀(v:PV) (t:Int),PV.fits S t v=true->PV.bl S t v (PV.fb S t v)
  | .mk n s l ks b,t,h=>by
    obtain⟨a,hs,_⟩:=Iy h;have hq:=Zv (a:=a) hs h;rw[PV.bl,hs];dsimp only;by_cases A:ql a.k=true
    · rw[if_pos A];obtain⟨I,J,C⟩:=blL_fb l (qj a b) ks 0 (hq A).2;refine⟨I,J,?_⟩;have N:=W5 J;unfold ql at A;have A:=of_decide_eq_true A;rw[PV.fb,hs];dsimp only;rw[if_neg (show¬a.k=2 by omega),if_neg (show¬(a.k=3\/a.k=4\/a.k=10)by omega),if_neg (show¬a.k=5 by omega),if_neg (show¬a.k=6 by omega),if_neg (show¬(a.k=7\/a.k=8)by omega),if_neg (show¬a.k=11 by omega)];by_cases u:a.k=14
      · rw[if_pos u,if_pos u,C]
      rw[if_neg u,if_neg u];by_cases G:a.k=9
      · rw[if_pos G,if_pos G,C]
      rw[if_neg G,if_neg G,if_pos (by omega)];by_cases H:0<l.length
      · rw[if_pos H,←C,←N];have:=Blk.pos (I:=I) (by intro e;subst e;simp at N;omega) Blk.nil;rw[List.append_nil]at this;exact this
      · rw[if_neg H,←C];have e:I=[]:=List.length_eq_zero_iff.1 (by omega);subst e;have:mkS []++q8 []++vz 0=vz 0:=(by rw[q8];apply HG;rw[uJ,uJ];rfl);rw[this];exact Blk.nil
    · rw[if_neg A]
def blL_fb{S:List AT}:∀(l:List PV) (f:Nat->Int) (ks:List O6) (i:Nat),PV.fitL S f i l=true->∃I,PV.blL S f ks i l I/\q8 I=PV.fbL S f ks i l
  | [],f,ks,i,h=>⟨[],by rw[PV.blL],by rw[PV.fbL,q8]⟩
  | v::l,f,ks,i,h=>by rw[PV.fitL,Bool.and_eq_true]at h;obtain⟨J,u,A⟩:=blL_fb l f ks (i+1) h.2;exact⟨(qW ks i++PV.fb S (f i) v)::J,by rw[PV.blL];exact⟨_,J,rfl,Pg v (f i) h.1,u⟩,by rw[PV.fbL,q8,A]⟩
end
open Go.Proofs.YtniogjgfomaicaaGreat.Rv
def z_(D B:O6) (n:Int):Prop:=0<=n/\∀j,j<B.size->D.data.toList[n.toNat+j]? =B.data.toList[j]?
def yY(s:O6):s.data.toList.length=s.size:=rfl
def HJ{D B:O6} {n:Int} (h:z_ D B n) (G:n<=D.size):n+B.size<=D.size:=by
 obtain⟨C,h⟩:=h;by_cases H:B.size=0
 ·omega
 have u:=h (B.size- 1) (by omega);have A:B.size- 1<B.data.toList.length:=by rw[yY];omega
 rw[List.getElem?_eq_getElem A]at u;have:=(List.getElem?_eq_some_iff.1 u).1;rw[yY]at this;omega
def Is(a b:O6):(a++b).data.toList=a.data.toList++b.data.toList:=by rw[ByteArray.data_append,Array.toList_append]
def zh3{D a b:O6} {n:Int}:z_ D (a++b) n↔z_ D a n/\z_ D b (n+a.size):=by
 unfold z_;rw[Is,qN];refine⟨λ⟨A,h⟩=>⟨⟨A,λj C=> ?_⟩,by omega,λj C=> ?_⟩,λ⟨⟨A,G⟩,_,H⟩=>⟨A,λj C=> ?_⟩⟩
 ·have:=h j (by omega);rw[List.getElem?_append_left (by rw[yY];exact C)]at this;exact this
 ·have:=h (a.size+j) (by omega);rw[List.getElem?_append_right (by rw[yY];omega),yY]at this;rw[show(n+a.size).toNat+j=n.toNat+(a.size+j)by omega,this,show a.size+j- a.size=j by omega]
 ·by_cases u:j<a.size
  ·rw[List.getElem?_append_left (by rw[yY];exact u)];exact G j u
  ·rw[List.getElem?_append_right (by rw[yY];omega),yY];have:=H (j- a.size) (by omega);rw[←this,show(n+a.size).toNat+(j- a.size)=n.toNat+j by omega]
def zcl{D B:O6} {n:Int} (h:z_ D B n):∃r,D.data.toList.drop n.toNat=B.data.toList++r:=by
 refine⟨D.data.toList.drop (n.toNat+B.size),?_⟩;apply List.ext_getElem?;intro j;rw[List.getElem?_drop];by_cases u:j<B.size
 ·rw[List.getElem?_append_left (by rw[yY];exact u)];exact h.2 j u
 ·rw[List.getElem?_append_right (by rw[yY];omega),yY,List.getElem?_drop,show n.toNat+B.size+(j- B.size)=n.toNat+j by omega]
def Of{a b:O6} (h:a.data.toList=b.data.toList):a=b:=by apply ByteArray.ext;exact Array.toList_inj.mp h
def z9n{n:Nat} (h:n<256):(UInt8.ofNat n).toNat=n:=by rw[UInt8.toNat_ofNat'];omega
def zki(rest:List UInt8):∀(v i acc:Nat),i<=9->v*2 ^ (7*i)<18446744073709551616->vdec (venc v++rest) i acc=some (acc+v*2 ^ (7*i),i+(venc v).length):=by
  intro v;induction v using Nat.strongRecOn with
  | _ v H=>
    intro i acc hi C;have nine:i=9->v<=1:=λh=>by subst h;have:(2:Nat) ^ (7*9)=9223372036854775808:=(by decide);rw[this]at C;omega
    by_cases u:v<128
    · rw[venc_lt u,List.cons_append,vdec,z9n (by omega),if_neg (by omega),if_neg (by omega),if_pos u,Nat.mod_eq_of_lt u];rfl
    · have A:(UInt8.ofNat (v % 128+128)).toNat=v % 128+128:=z9n (by omega);have hm:(v % 128+128) % 128=v % 128:=(by omega);rw[venc_ge (by omega),List.cons_append,vdec,A,hm,if_neg (by omega),if_neg (by omega),if_neg (by omega)];have G:v / 128*2 ^ (7*(i+1))<=v*2 ^ (7*i):=(by rw[pow7,←Nat.mul_assoc];exact Nat.mul_le_mul_right _ (by omega));rw[H (v / 128) (by omega) (i+1) _ (by omega) (by omega)];simp only[List.length_cons,Option.some.injEq,Prod.mk.injEq];refine⟨?_,by omega⟩;rw[pow7,Nat.add_assoc];congr 1;rw[←Nat.mul_assoc,←Nat.add_mul];congr 1;omega
def zj0:∀(a b:List UInt8),jz (a++b)=jz a+256 ^ a.length*jz b
  | [],b=>by rw[List.nil_append,jz];simp
  | c::a,b=>by rw[List.cons_append,jz,jz,zj0 a b,List.length_cons,Nat.pow_succ,Nat.mul_add];rw[show 256 ^ a.length*256*jz b=256*(256 ^ a.length*jz b)by rw[Nat.mul_comm (256 ^ a.length) 256,Nat.mul_assoc]];omega
def Ps(N:Nat):∀k,jz (qE (N:Int) k).data.toList=N % 256 ^ k
  |0=>by rw[qE];show 0=_;rw[Nat.pow_zero,Nat.mod_one]
  | k+1=>by have e:(2:Int) ^ (8*k)=((256 ^ k:Nat):Int):=(by rw[Int.pow_mul];norm_cast);have hd:((N:Int) / ((256 ^ k:Nat):Int) % 256).toNat=N / 256 ^ k % 256:=(by rw[←Int.natCast_ediv];omega);have u:(qE (N:Int) k).data.toList.length=k:=(by rw[yY,uE]);rw[qE,Is,zj0,Ps N k,u,e,hd,Nat.mod_pow_succ];congr 1;congr 1;have h:N / 256 ^ k % 256<256:=Nat.mod_lt _ (by decide);show(UInt8.ofNat _).toNat+256*0=_;rw[UInt8.toNat_ofNat'];omega
def ON{n:Int} {k:Nat} (h:0<=n) (u:n<((256 ^ k:Nat):Int)):((jz (qE n k).data.toList:Nat):Int)=n:=by obtain⟨N,rfl⟩:=Int.eq_ofNat_of_zero_le h;rw[Ps,Nat.mod_eq_of_lt (by omega)]
def zuw{S:List AT} {f:Nat->Int} {ks:List O6}:∀{l:List PV} {i:Nat} {I:List O6},PV.blL S f ks i l I->∀(j:Nat) (u:j<l.length),∃c,I[j]? =some (qW ks (i+j)++c)/\PV.bl S (f (i+j)) l[j] c
  | v::l,i,I,h,0,_=>by rw[PV.blL]at h;obtain⟨c,J,rfl,A,_⟩:=h;exact⟨c,rfl,A⟩
  | v::l,i,I,h,j+1,u=>by
    rw[PV.blL]at h;obtain⟨c,J,rfl,_,C⟩:=h;obtain⟨d,e1,e2⟩:=zuw C j (by simpa using u);refine⟨d,?_,?_⟩
    · rw[List.getElem?_cons_succ,e1,show i+1+j=i+(j+1)by omega]
    · rw[show i+(j+1)=i+1+j by omega];exact e2
def zwo(x y:UInt8) (a b:List UInt8):Op.bytesLess (x::a) (y::b)=true↔x.toNat<y.toNat\/x=y/\Op.bytesLess a b=true:=by rw[Op.bytesLess,Bool.or_eq_true,Bool.and_eq_true,decide_eq_true_eq,beq_iff_eq];rfl
def zux(b:List UInt8):Op.bytesLess b []=false:=by cases b<;>rfl
def zcs:∀{a b c:List UInt8},Op.bytesLess a b=true->Op.bytesLess b c=true->Op.bytesLess a c=true
  |a,b,[],_,h=>by rw[zux]at h;cases h
  |a,[],z::c,h,_=>by rw[zux]at h;cases h
  | [],y::b,z::c,_,_=>rfl
  | x ::a,y::b,z::c,A,u=>by
    rw[zwo]at A u⊢;rcases A with A|⟨rfl,A⟩
    · rcases u with u|⟨rfl,u⟩
      · exact .inl (by omega)
      · exact .inl A
    · rcases u with u|⟨rfl,u⟩
      · exact .inl u
      · exact .inr ⟨rfl,zcs A u⟩
def zqa{a b c:O6} (h:qcn a b=true) (u:qcn b c=true):qcn a c=true:=zcs h u
def zin{a:O6}:∀{l:List O6},zd (a::l)=true->∀k∈l,qcn a k=true
  | [],_,k,u=>by cases u
  | j::l,h,k,u=>by
    rw[VX,Bool.and_eq_true,Bool.and_eq_true]at h;have A:qcn a j=true:=h.1.2;rcases List.mem_cons.1 u with rfl|u
    · exact A
    · exact zqa A (zin h.2 k u)
def zil:∀{l:List O6} {k:O6},(∀a∈l,qcn a k=true)->zR k l=l.length
  | [],k,_=>rfl
  | a::l,k,h=>by rw[zR,if_pos (h a (.head _)),zil λb u=>h b (.tail _ u)];rfl
def z72:∀{ks:List O6} {d:Nat} (h:zd ks=true) (hd:d<ks.length),∀a∈ks.take d,qcn a ks[d]=true
  |k::ks,0,_,_,a,u=>by simp at u
  | k::ks,d+1,h,hd,a,u=>by
    have A:d<ks.length:=(by simpa using hd);have C:=h;rw[VX,Bool.and_eq_true,Bool.and_eq_true]at C;rw[List.take_succ_cons]at u;rcases List.mem_cons.1 u with rfl|u
    · exact zin h _ (List.getElem_mem A)
    · exact z72 C.2 A a u
def zyp{ks:List O6} {k:O6} {l:List PV} {w:PV} (h:∀a∈ks,qcn a k=true) (A:l.length=ks.length):q9 k ks=ks++[k]/\jV k ks l w=l++[w]:=by
 have e:=zil h;have u:vW k ks=false:=by unfold vW;rw[e,List.getElem?_eq_none (Nat.le_refl _)];rfl
 unfold q9 jV;rw[if_neg (by rw[u];decide),if_neg (by rw[u];decide),e,List.take_length,List.drop_length,←A,List.take_length,List.drop_length];exact⟨rfl,rfl⟩
section
open Go.Proofs.YtniogjgfomaicaaGreat.Rv
variable {D:O6} {n:Nat}
def OM{m:Int} (h:z_ D (vz m) n) (u: -9223372036854775808<=m) (A:m<9223372036854775808):qi D n=(m,0,n+(vz m).size):=by obtain⟨r,hr⟩:=zcl h;rw[Int.toNat_natCast]at hr;have C:(vz m).data.toList=venc (zg m):=rfl;have hd:=zki r (zg m) 0 0 (by decide) (by have:=Ry u A;simpa using this);rw[←C,←hr]at hd;simp only[Nat.mul_zero,Nat.pow_zero,Nat.mul_one,Nat.zero_add]at hd;unfold qi vval verr vlen;rw[hd];show(km (zg m),0,n+(vz m).data.toList.length)=_;rw[j95];rfl
def V_{m:Int} (h:z_ D (vz m) n) (u: -9223372036854775808<=m) (A:m<9223372036854775808):yH D n= .ok (m,n+(vz m).size):=by unfold yH;rw[OM h u A,if_pos rfl]
def Ph{D s:O6} (h:z_ D s n) (A:n<=D.size):zY D n s.size=(s,0,(n:Int)+s.size):=by
 have u:=HJ h (by omega);obtain⟨r,hr⟩:=zcl h;rw[Int.toNat_natCast]at hr;unfold zY;rw[if_neg (by omega),Int.toNat_natCast];have:D.extract n (n+s.size)=s:=by apply Of;rw[Iq,hr,show n+s.size- n=s.data.toList.length by rw[yY];omega,List.take_left]
 rw[this]
def HL{D s:O6} {k:Int} (h:z_ D s n) (A:n<=D.size) (u:k=s.size):wo D n k= .ok (s,n+s.size):=by subst u;unfold wo;rw[Ph h A];unfold wP;rw[if_pos rfl];show Rs.ok (s,((n:Int)+s.size).toNat)=_;rw[show((n:Int)+s.size).toNat=n+s.size by omega]
def zvo{D s:O6} (h:z_ D (vz s.size++s) n) (G:n<=D.size) (C:D.size<100000000000000000):(kk D n).2.1=3\/kk D n=(s,0,((n+(vz s.size++s).size:Nat):Int)):=by
 obtain⟨A,u⟩:=zh3.1 h;have H:=HJ A (by omega);have J:=HJ u (by omega);have e:=OM A (by omega) (by omega);unfold kk;rw[e];dsimp only;rw[if_neg (by omega)];split
 ·exact .inl rfl
 ·have u:z_ D s ((n+(vz s.size).size:Nat):Int):=by rw[Int.natCast_add];exact u
  refine .inr ?_;rw[Ph u (by omega),qN];congr 2;omega
def j92{D s:O6} (h:z_ D (vz s.size++s) n) (A:n<=D.size) (u:D.size<100000000000000000):VW D n= .no 2\/VW D n= .ok (s,n+(vz s.size++s).size):=by
 unfold VW wP;rcases zvo h A u with e|e
 ·rw[e];exact .inl rfl
 ·rw[e];exact .inr rfl
def zvq{D s:O6} (h:z_ D (vz s.size++s) n) (A:n<=D.size) (u:D.size<100000000000000000) (C:qz s=true):Zt D n= .no 2\/Zt D n= .ok (s,n+(vz s.size++s).size):=by
 unfold Zt wP G0;rcases zvo h A u with e|e
 ·rw[e];exact .inl rfl
 ·rw[e];refine .inr ?_;dsimp only;rw[C,if_neg (show¬((0:Int)=0/\true=false)by simp),if_pos rfl];rfl
def zvb{m o:Int} (h:z_ D (vz m) n) (u:0<=m) (A:m<o) (C:o<9223372036854775808):Z_ D n o= .ok (m,n+(vz m).size):=by
 have e:=OM h (by omega) (by omega);have:vN D n o=0:=by unfold vN;rw[e];dsimp only;rw[if_neg (by omega)]
 unfold Z_;rw[if_pos this,e]
def R2{α:Type} (R:Rs (α×Nat×Nat)) (v:α) (m:Nat):Prop:=R= .no 2\/∃h,R= .ok (v,m,h)
def Qw{α β:Type} {R:Rs (α×Nat×Nat)} {f:α×Nat×Nat->Rs (β×Nat×Nat)} {v:α} {m:Nat} {w:β} {m':Nat} (h:R2 R v m) (g:∀u,R2 (f (v,m,u)) w m'):R2 (R.bind f) w m':=by
 rcases h with h|⟨u,h⟩
 ·rw[h];exact .inl rfl
 ·rw[h,qR];exact g u
def O'{s:O6} (h:s.size=0):s=mkS []:=by apply Of;have:s.data.toList.length=0:=h;rw[List.length_eq_zero_iff]at this;rw[this];rfl
end
section
def j9l(n:Int): -9223372036854775808<=IntKind.wrap .i64 n/\IntKind.wrap .i64 n<9223372036854775808:=by simp[IntKind.wrap,IntKind.bits,IntKind.signed];omega
variable {n:Int}
def zw7(h:0<=n/\n<18446744073709551616):IntKind.wrap .i64 n % 18446744073709551616=n:=by simp[IntKind.wrap,IntKind.bits,IntKind.signed];omega
def zr0(h:0<=n/\n<9223372036854775808):IntKind.wrap .i64 n=n:=by simp[IntKind.wrap,IntKind.bits,IntKind.signed];omega
def j9k(h:0<=n/\n<18446744073709551616) (g:n<2147483648\/18446744071562067968<=n): -2147483648<=IntKind.wrap .i64 n/\IntKind.wrap .i64 n<2147483648:=by simp[IntKind.wrap,IntKind.bits,IntKind.signed];omega
def jic{S:List AT} {i:Nat} (hi:i<S.length) {D:O6} (hD:D.size<100000000000000000) {v:PV} {n:Nat} {B:O6} (hsy:S[i].sys.length<1000000) (hk:1<=S[i].k/\S[i].k<=14) (C:PV.fits S i v=true) (V:v.sm) (hq:ql S[i].k=false) (u:PV.bl S i v B) (G:z_ D B n) (T:n<=D.size):ja S[i] D n= .no 2\/ja S[i] D n= .ok (v,n+B.size):=by
 obtain⟨N,s,l,ks,b⟩:=v;have hs:S[((i:Nat):Int).toNat]? =some S[i]:=by rw[Int.toNat_natCast,List.getElem?_eq_getElem hi]
 rw[PV.bl,hs]at u;dsimp only at u;rw[if_neg (by rw[hq];decide),PV.fb,hs]at u;dsimp only at u;rw[PV.fits,if_neg (by omega),hs]at C;dsimp only at C;unfold PV.sm at V;obtain⟨H,_⟩:=V;generalize S[i]=a at*;unfold ql at hq;have hq:=of_decide_eq_false hq;by_cases kn:a.k=1\/a.k=2\/a.k=3\/a.k=4\/a.k=5\/a.k=6\/a.k=10
 ·rw[if_pos (by unfold qI;exact decide_eq_true kn)]at C;unfold kS at C;simp only[Bool.and_eq_true,decide_eq_true_eq]at C;obtain⟨⟨h,h1⟩,⟨h2,h3⟩,h4⟩:=C;have e1:=O' h1;have e2:=List.eq_nil_of_length_eq_zero h2;have e3:=List.eq_nil_of_length_eq_zero h3;subst e1 e2 e3 h4;show _\/_=Rs.ok (yd N,n+B.size);unfold zS at h;unfold ja;by_cases Z:a.k=1
  ·rw[if_pos Z];rw[if_pos Z]at h;have h:=of_decide_eq_true h;rw[if_neg (by omega),if_neg (by omega),if_neg (by omega),if_neg (by omega),if_neg (by omega),if_neg (by omega),if_neg (by omega),if_neg (by omega),if_neg (by omega)]at u;subst u h;exact .inr rfl
  rw[if_neg Z];rw[if_neg Z]at h;by_cases k2:a.k=2
  ·rw[if_pos k2];rw[if_pos k2]at h u;have h:=of_decide_eq_true h;subst u;rw[HL G T (by rw[uE];rfl),qR];have A:=ON (n:=N) (k:=1) H.1 (by show N<256;omega);have A:wz (qE N 1)=N:=A;dsimp only;rw[A,if_neg (by omega)];exact .inr rfl
  rw[if_neg k2];rw[if_neg k2]at h u;by_cases X:a.k=3
  ·rw[if_pos X];rw[if_pos X]at h;rw[if_pos (.inl X)]at u;have h:=of_decide_eq_true h;subst u;have hr:=j9k H h;rw[V_ G (by omega) (by omega),qR];dsimp only;rw[if_neg (by omega),zw7 H];exact .inr rfl
  rw[if_neg X];rw[if_neg X]at h;by_cases k4:a.k=4
  ·rw[if_pos k4];rw[if_pos (.inr (.inl k4))]at u;subst u;have hr:=j9l N;rw[V_ G hr.1 hr.2,qR];dsimp only;rw[zw7 H];exact .inr rfl
  rw[if_neg k4];by_cases U:a.k=5
  ·rw[if_pos U];rw[if_pos U]at h;rw[if_neg (by omega),if_pos U]at u;have h:=of_decide_eq_true h;subst u;rw[HL G T (by rw[uE];rfl),qR];have A:=ON (n:=N) (k:=4) H.1 (by show N<4294967296;omega);have A:wz (qE N 4)=N:=A;dsimp only;rw[A];exact .inr rfl
  rw[if_neg U];rw[if_neg U]at h;by_cases k6:a.k=6
  ·rw[if_pos k6];rw[if_neg (by omega),if_neg U,if_pos k6]at u;subst u;rw[HL G T (by rw[uE];rfl),qR];have A:=ON (n:=N) (k:=8) H.1 (by show N<18446744073709551616;exact H.2);have A:wz (qE N 8)=N:=A;dsimp only;rw[A];exact .inr rfl
  rw[if_neg k6];have J:a.k=10:=by omega
  rw[if_pos J]at h;have h:=of_decide_eq_true h;rw[if_neg (by omega),if_neg (by omega),if_pos J];rw[if_pos (.inr (.inr J)),zr0 (by omega)]at u;subst u;rw[zvb G H.1 h (by omega),qR];exact .inr rfl
 ·rw[if_neg (by unfold qI;rw[decide_eq_false kn];decide)]at C;have kt:a.k=7\/a.k=8\/a.k=11:=by omega
  rw[if_pos (by unfold qG;exact decide_eq_true kt)]at C;unfold kS at C;simp only[Bool.and_eq_true,decide_eq_true_eq]at C;obtain⟨⟨h,h1⟩,⟨h2,h3⟩,h4⟩:=C;have e2:=List.eq_nil_of_length_eq_zero h2;have e3:=List.eq_nil_of_length_eq_zero h3;subst h1 e2 e3 h4;show _\/_=Rs.ok (Jp s,n+B.size);unfold jC at h;unfold ja;rw[if_neg (by omega),if_neg (by omega),if_neg (by omega),if_neg (by omega),if_neg (by omega),if_neg (by omega)];rw[if_neg (by omega),if_neg (by omega),if_neg (by omega),if_neg (by omega)]at u;by_cases k7:a.k=7
  ·rw[if_pos k7];rw[if_pos (.inl k7)]at u;subst u;rcases j92 G T hD with e|e
   ·rw[e];exact .inl rfl
   ·rw[e];exact .inr rfl
  rw[if_neg k7];by_cases Y:a.k=8
  ·rw[if_pos Y];rw[if_pos Y]at h;rw[if_pos (.inr Y)]at u;subst u;rcases zvq G T hD h with e|e
   ·rw[e];exact .inl rfl
   ·rw[e];exact .inr rfl
  have O:a.k=11:=by omega
  rw[if_neg Y,if_neg (by omega),if_pos O];rw[if_neg Y,if_pos O]at h;rw[if_neg (by omega),if_pos O]at u;have h:=of_decide_eq_true h;subst u;rw[HL G T h.symm,qR];exact .inr rfl
end
section
def K5(S:List AT) (D:O6) (g:Int->Nat->Nat->z'):Prop:=∀(t:Int) (v:PV) (B:O6) (n c:Nat),v.sm->PV.fits S t v=true->PV.bl S t v B->z_ D B n->n<=D.size->R2 (g t n c) v (n+B.size)
def x4{D a b:O6} {n:Nat} (h:z_ D (a++b) n):z_ D a n/\z_ D b ((n+a.size:Nat):Int):=by obtain⟨u,A⟩:=zh3.1 h;exact⟨u,by rw[Int.natCast_add];exact A⟩
def QA{D B:O6} {n:Nat} (h:z_ D B n) (u:n<=D.size):n+B.size<=D.size:=by have:=HJ h (by omega);omega
def JW(i:Nat):qW [] i=mkS []:=by unfold qW;simp
def JX(b:O6):mkS []++b=b:=by apply Of;rw[Is];rfl
def zvl{S:List AT} {D:O6} {g:Int->Nat->Nat->z'} (O:K5 S D g) {f:Nat->Int}:∀(l:List PV) (ts:List Int) (i:Nat) (I:List O6) (acc:List PV) (n c:Nat),ts.length=l.length->(∀(j:Nat) (Y:j<ts.length),f (i+j)=ts[j])->PV.blL S f [] i l I->PV.fitL S f i l=true->(∀v∈l,v.sm)->z_ D (q8 I) n->n<=D.size->R2 (yA g ts acc n c) (acc++l) (n+(q8 I).size)
  | [],[],i,I,acc,n,c,_,_,A,_,_,_,_=>by rw[PV.blL]at A;subst A;refine .inr ⟨c,?_⟩;rw[yA,List.append_nil];rfl
  | v ::l,t::ts,i,I,acc,n,c,Z,N,A,h,C,u,T=>by rw[PV.blL,JW]at A;obtain⟨B,J,rfl,H,X⟩:=A;rw[JX]at u⊢;rw[q8]at u⊢;obtain⟨G,U⟩:=x4 u;have ht:f i=t:=N 0 (by simp);rw[PV.fitL,Bool.and_eq_true]at h;rw[ht]at H h;rw[yA];refine Qw (O t v B n c (C v List.mem_cons_self) h.1 H G T) λV=> ?_;have:=zvl O l ts (i+1) J (acc++[v]) (n+B.size) V (by simpa using Z) (λj Y=>by have:=N (j+1) (by simp;omega);rw[show i+1+j=i+(j+1)by omega];simpa using this) X h.2 (λw hw=>C w (List.mem_cons_of_mem _ hw)) U (QA G T);rw[qN,←Nat.add_assoc];rw[List.append_assoc]at this;exact this
structure Its(S:List AT) (t:Int) (mp:Bool) (ks:List O6) (l:List PV) (I:List O6):Prop where
 bl:PV.blL S (λ_=>t) ks 0 l I
 fit:∀v∈l,PV.fits S t v=true
 sm:∀v∈l,v.sm
 kn:mp=false->ks=[]
 kl:mp=true->ks.length=l.length
 kf:mp=true->zd ks=true
def uz(ks:List O6) (l:List PV) (i:Nat):kW:=(ks.take i,l.take i)
def Pq:∀{ks:List O6},zd ks=true->∀k∈ks,qz k=true
  | a::l,h,k,u=>by
    rw[VX,Bool.and_eq_true,Bool.and_eq_true]at h;rcases List.mem_cons.1 u with rfl|u
    · exact h.1.1
    · exact Pq h.2 k u
variable {S:List AT} {D:O6}
def ji7(hD:D.size<100000000000000000) {g:Int->Nat->Nat->z'} (X:K5 S D g) {t:Int} {mp:Bool} {ks:List O6} {l:List PV} {I:List O6} (h:Its S t mp ks l I) {i:Nat} (hi:i<I.length) {n c:Nat} (u:z_ D I[i] n) (U:n<=D.size):R2 (K_ (g t) D mp (uz ks l i) n c) (uz ks l (i+1)) (n+I[i].size):=by
 have hl:=W5 h.bl;have C:i<l.length:=by omega
 obtain⟨B,e1,e2⟩:=zuw h.bl i C;rw[List.getElem?_eq_getElem hi,Nat.zero_add]at e1;have e1:=Option.some.inj e1;rw[e1]at u⊢;have hm:=List.getElem_mem C;have H:l.take i++[l[i]]=l.take (i+1):=by rw[List.take_add_one,List.getElem?_eq_getElem C];rfl
 unfold K_;by_cases hp:mp=true
 ·rw[if_pos hp];have hkl:=h.kl hp;have A:i<ks.length:=by omega
  have G:=h.kf hp;have N:qW ks i=vz ks[i].size++ks[i]:=by unfold qW;rw[List.getElem?_eq_getElem A]
  rw[N]at u⊢;obtain⟨V,Y⟩:=x4 u;rcases zvq V U hD (Pq G _ (List.getElem_mem A))with e|e
  ·rw[e];exact .inl rfl
  ·rw[e,qR];refine Qw (X t l[i] B _ c (h.sm _ hm) (h.fit _ hm) e2 Y (QA V U)) λJ=> .inr ⟨J,?_⟩;obtain⟨p1,p2⟩:=zyp (ks:=ks.take i) (k:=ks[i]) (l:=l.take i) (w:=l[i]) (z72 G A) (by rw[List.length_take,List.length_take];omega);have O:ks.take i++[ks[i]]=ks.take (i+1):=(by rw[List.take_add_one,List.getElem?_eq_getElem A];rfl);unfold uz;dsimp only;have Z:=qN (vz ((ks[i].size:Nat):Int)++ks[i]) B;rw[p1,p2,H,O,Z,Nat.add_assoc]
 ·rw[if_neg hp];have T:=h.kn (by simpa using hp);subst T;rw[JW,JX]at u⊢;refine Qw (X t l[i] B _ c (h.sm _ hm) (h.fit _ hm) e2 u U) λJ=> .inr ⟨J,?_⟩;unfold uz;dsimp only;rw[H,List.take_nil,List.take_nil]
def Ou{S:List AT} {D:O6} (C:D.size<100000000000000000) {g:Int->Nat->Nat->z'} (G:K5 S D g) {t:Int} {mp:Bool} {ks:List O6} {l:List PV} {I:List O6} (h:Its S t mp ks l I):∀(k i n c:Nat),i+k<=I.length->z_ D (q8 ((I.drop i).take k)) n->n<=D.size->R2 (j9 (g t) D mp k (uz ks l i) n c) (uz ks l (i+k)) (n+(q8 ((I.drop i).take k)).size)
  | 0,i,n,c,_,_,_=>by refine .inr ⟨c,?_⟩;rw[j9,List.take_zero];rfl
  | k+1,i,n,c,O,u,H=>by have hi:i<I.length:=(by omega);rw[List.drop_eq_getElem_cons hi,List.take_succ_cons,q8]at u⊢;obtain⟨A,J⟩:=x4 u;rw[j9];refine Qw (ji7 C G h hi A H) λN=> ?_;have:=Ou C G h k (i+1) (n+I[i].size) N (by omega) J (QA A H);rw[show i+(k+1)=i+1+k by omega,qN,←Nat.add_assoc n];exact this
def zd6{K J I:List O6} {i:Nat} (h:K++J=I.drop i):(I.drop i).take K.length=K/\J=I.drop (i+K.length)/\i+K.length<=I.length\/K=[]:=by
 by_cases u:K=[]
 ·exact .inr u
 left;have A:=congrArg List.length h;rw[List.length_append,List.length_drop]at A;have hp:0<K.length:=List.length_pos_iff.2 u;refine⟨by rw[←h,List.take_left],?_,by omega⟩;rw[←List.drop_drop,←h,List.drop_left]
def jhz(hD:D.size<100000000000000000) {g:Int->Nat->Nat->z'} (hg:K5 S D g) {t:Int} {mp:Bool} {ks:List O6} {l:List PV} {I:List O6} (h:Its S t mp ks l I) (hI:I.length<4611686018427387904):∀{J:List O6} {R:O6},Blk J R->∀(F i n c:Nat),J=I.drop i->i<=I.length->z_ D R n->n<=D.size->D.size<F+n->R2 (vk (g t) D mp F (uz ks l i) n c) (uz ks l I.length) (n+R.size):=by
  intro J R hb;induction hb with
  | nil=>
    intro F i n c O hi u U hF;obtain⟨F,rfl⟩:∃k,F=k+1:=⟨F- 1,by omega⟩;have hil:i=I.length:=by have:=congrArg List.length O;rw[List.length_drop]at this;have:I.length- i=0:=this.symm;omega
    refine .inr ⟨c,?_⟩;rw[vk];unfold YZ;rw[V_ u (by decide) (by decide),qR];dsimp only;rw[if_pos (by decide),qR];dsimp only;rw[if_pos rfl,hil]
  | @pos K J R T hb ih=>
    intro F i n c O hi u U hF;obtain⟨F,rfl⟩:∃k,F=k+1:=⟨F- 1,by omega⟩;have hp:0<K.length:=List.length_pos_iff.2 T;obtain⟨e1,e2,e3⟩:=(zd6 O).resolve_right T;rw[ByteArray.append_assoc]at u⊢;obtain⟨N,C⟩:=x4 u;obtain⟨C,H⟩:=x4 C;have V:=QA N U;have X:=QA C V;rw[vk];unfold YZ;have A:=V_ N (by omega) (by omega);have G:=(ziz (m:=0) A).1;dsimp only at G;rw[A,qR];dsimp only;rw[if_pos (by omega),qR];dsimp only;rw[if_neg (by omega),Int.toNat_natCast];refine Qw (Ou hD hg h K.length i _ c e3 (by rw[e1];exact C) V) λY=> ?_;rw[e1];have Z:uj (n+(vz ((K.length:Nat):Int)).size) (-1) (n+(vz ((K.length:Nat):Int)).size+(q8 K).size)=false:=(by unfold uj;simp);dsimp only;rw[if_neg (by rw[Z];decide)];have:=ih F (i+K.length) _ Y e2 e3 H X (by omega);rw[qN,qN,←Nat.add_assoc,←Nat.add_assoc];exact this
  | @neg K J R T hb ih=>
    intro F i n c O hi u U hF;obtain⟨F,rfl⟩:∃k,F=k+1:=⟨F- 1,by omega⟩;have hp:0<K.length:=List.length_pos_iff.2 T;obtain⟨e1,e2,e3⟩:=(zd6 O).resolve_right T;rw[ByteArray.append_assoc,ByteArray.append_assoc]at u⊢;obtain⟨N,C⟩:=x4 u;obtain⟨C,H⟩:=x4 C;obtain⟨H,a4⟩:=x4 H;have V:=QA N U;have X:=QA C V;have l3:=QA H X;rw[vk];unfold YZ;have A:=V_ N (by omega) (by omega);have G:=(ziz (m:=0) A).1;dsimp only at G;rw[A,qR];dsimp only;rw[if_neg (by omega),if_neg (by omega),V_ C (by omega) (by omega),qR];dsimp only;rw[if_neg (by omega),qR];dsimp only;rw[if_neg (by omega),show(- -((K.length:Nat):Int)).toNat=K.length by omega];refine Qw (Ou hD hg h K.length i _ c e3 (by rw[e1];exact H) X) λY=> ?_;rw[e1];have Z:uj (n+(vz (-((K.length:Nat):Int))).size+(vz (((q8 K).size:Nat):Int)).size) (((q8 K).size:Nat):Int) (n+(vz (-((K.length:Nat):Int))).size+(vz (((q8 K).size:Nat):Int)).size+(q8 K).size)=false:=(by unfold uj;simp;omega);dsimp only;rw[if_neg (by rw[Z];decide)];have:=ih F (i+K.length) _ Y e2 e3 a4 l3 (by omega);rw[qN,qN,qN,←Nat.add_assoc,←Nat.add_assoc,←Nat.add_assoc];exact this
end
def zda{S:List AT} {t:Int}:∀{l:List PV} {i:Nat},PV.fitL S (λ_=>t) i l=true->∀v∈l,PV.fits S t v=true
  | w::l,i,h,v,u=>by
    rw[PV.fitL,Bool.and_eq_true]at h;rcases List.mem_cons.1 u with rfl|u
    · exact h.1
    · exact zda h.2 v u
def jis{S:List AT} (hS:kg S) {D:O6} (hD:D.size<100000000000000000) {g:Int->Nat->Nat->z'} (hg:K5 S D g) {i:Nat} (hi:i<S.length) {v:PV} {B:O6} {n c:Nat} (Z:v.sm) (V:PV.fits S i v=true) (hb:PV.bl S i v B) (H:z_ D B n) (hn:n<=D.size):R2 (yS g D S[i] n c) v (n+B.size):=by
  have hs:S[((i:Nat):Int).toNat]? =some S[i]:=by rw[Int.toNat_natCast,List.getElem?_eq_getElem hi]
  have hk:=hS.2.1 S[i] (List.getElem_mem hi);have hsy:=(hS.1.2 S[i] (List.getElem_mem hi)).2.2;have hbr:=(hS.1.2 S[i] (List.getElem_mem hi)).2.1;by_cases hq:ql S[i].k=false
  · have hl:=jic hi hD hsy hk V Z hq hb H hn;unfold ql at hq;have hq:=of_decide_eq_false hq;unfold yS;rw[if_neg (by omega),if_neg (by omega),if_neg (by omega)];rcases hl with e|e
    · rw[e];exact .inl rfl
    · rw[e,qR];exact .inr ⟨c,rfl⟩
  have hq:ql S[i].k=true:=by simpa using hq
  obtain⟨N,s,l,ks,b⟩:=v;obtain⟨u,A⟩:=Zv hs V hq;have hNs:N=0/\s=mkS []:=by rw[PV.fits,if_neg (by omega),hs]at V;dsimp only at V;have Y:=hq;unfold ql at Y;have Y:=of_decide_eq_true Y;rw[if_neg (by unfold qI;rw[decide_eq_false (by omega)];decide),if_neg (by unfold qG;rw[decide_eq_false (by omega)];decide),if_pos hq,Bool.and_eq_true,Bool.and_eq_true]at V;exact⟨of_decide_eq_true V.1.2,O' (of_decide_eq_true V.2)⟩
  obtain⟨rfl,rfl⟩:=hNs;rw[PV.bl,hs]at hb;dsimp only at hb;rw[if_pos hq]at hb;obtain⟨I,h1,T⟩:=hb;unfold PV.sm at Z;obtain⟨_,_,hsl,_,_,G⟩:=Z;have G:=W8.1 G;have hIl:=W5 h1;unfold ql at hq;have hq:=of_decide_eq_true hq;generalize S[i]=a at*;unfold zx at u;split at u
  · cases u
  rename_i C;unfold yS;by_cases k9:a.k=9
  · have X:ks=[]:=by
      cases ks with
      |nil=>rfl
      |cons _ _=>exact absurd (.inl ⟨by simp,by omega⟩) C
    have U:b=0:=by
      by_cases h:b=0
      · exact h
      · exact absurd (.inr ⟨h,by omega⟩) C
    subst X U;rw[if_pos k9]at u;have u:=of_decide_eq_true u;rw[if_neg (by omega),if_pos k9]at T;subst T;rw[if_pos k9];unfold WW;have:=zvl hg (f:=qj a 0) l (a.fs.map AF.ty) 0 I [] n c (by rw[List.length_map];exact u.symm) (λj hj=>by have hj2:j<a.fs.length:=(by simpa using hj);unfold qj;rw[if_pos k9,Nat.zero_add,List.getElem?_eq_getElem hj2,List.getElem_map]) h1 A G H hn;exact Qw this λc'=> .inr ⟨c',rfl⟩
  rw[if_neg k9]at u T⊢;by_cases O:a.k=14
  · have X:ks=[]:=by
      cases ks with
      |nil=>rfl
      |cons _ _=>exact absurd (.inl ⟨by simp,by omega⟩) C
    subst X;rw[if_pos O]at u T⊢;obtain⟨b0,b1,hl1⟩:=of_decide_eq_true u
    match l,hl1 with
    | [w],_=>
      rw[PV.blL,JW]at h1;obtain⟨B',J,rfl,e1,e2⟩:=h1;rw[PV.blL]at e2;subst e2;rw[JX,q8,q8,uB]at T;subst T;obtain⟨a1,a2⟩:=x4 H;rw[PV.fitL,Bool.and_eq_true]at A;have ht:qj a b 0=a.brs.getD b.toNat 0:=(by unfold qj;rw[if_neg k9,if_pos O]);rw[ht]at e1 A;unfold GZ;rw[zvb a1 b0 b1 (by omega),qR];refine Qw (hg _ w B' _ c (G w List.mem_cons_self) A.1 e1 a2 (QA a1 hn)) λc'=> .inr ⟨c',?_⟩;rw[qN,Nat.add_assoc]
  rw[if_neg O]at u T⊢;have U:b=0:=by
    by_cases h:b=0
    · exact h
    · exact absurd (.inr ⟨h,by omega⟩) C
  subst U;rw[if_pos (by omega)];have hty:qj a 0=λ_=>a.it:=by funext j;unfold qj;rw[if_neg k9,if_neg O]
  rw[hty]at h1 A;have hI:Its S a.it (decide (a.k=13)) ks l I:=⟨h1,zda A,G,λh=>by
    have h:=of_decide_eq_false h;cases ks with
    |nil=>rfl
    |cons _ _=>exact absurd (.inl ⟨by simp,h⟩) C,λh=>by have h:=of_decide_eq_true h;rw[if_pos h,Bool.and_eq_true]at u;exact(of_decide_eq_true u.1).symm,λh=>by have h:=of_decide_eq_true h;rw[if_pos h,Bool.and_eq_true]at u;exact u.2⟩
  unfold wq;have:=jhz hD hg hI (by omega) T (D.size+1- n) 0 n c rfl (Nat.zero_le _) H hn (by omega);have e0:uz ks l 0=([],[]):=rfl;have e1:uz ks l I.length=(ks,l):=by
    unfold uz;rw[hIl,List.take_length];by_cases h:a.k=13
    · rw[←hI.kl (decide_eq_true h),List.take_length]
    · rw[hI.kn (decide_eq_false h),List.take_nil]
  rw[e0,e1]at this;exact Qw this λc'=> .inr ⟨c',rfl⟩
def Po{S:List AT} (hS:kg S) {D:O6} (A:D.size<100000000000000000):∀(f:Nat),K5 S D (jB S D f)
  |0,t,v,B,n,c,_,_,_,_,_=> .inl rfl
  | f +1,t,v,B,n,c,u,C,G,h,H=>by
    have hr:=JR C;obtain⟨i,rfl⟩:=Int.eq_ofNat_of_zero_le (show 0<=t by omega);have hi:i<S.length:=(by omega);unfold jB;split
    · exact .inl rfl
    · rw[Int.toNat_natCast,List.getElem?_eq_getElem hi];exact jis hS A (λt v B n c=>Po hS A f t v B n c) hi u C G h H
section
mutual
def PV.sh(S:List AT) (t:Int):PV->Prop
  | .mk n s l ks b=>match S[t.toNat]? with
    |none=>False
    |some a=>if ql a.k=true then PV.shL S (qj a b) 0 l else(PV.fb S t (.mk n s l ks b)).size<=5000
def PV.shL(S:List AT) (f:Nat->Int) (i:Nat):List PV->Prop
 | []=>True
 |v::l=>PV.sh S (f i) v/\PV.shL S f (i+1) l
end
def PV.fitz(S:List AT) (t:Int) (v:PV):Prop:=PV.fits S t v=true/\PV.sh S t v
def HE{S:List AT} {f:Nat->Int}:∀{l:List PV} {i:Nat},(∀(j:Nat) (h:j<l.length),PV.sh S (f (i+j)) l[j])->PV.shL S f i l
  | [],i,h=>by rw[PV.shL];trivial
  | v::l,i,h=>by rw[PV.shL];refine⟨h 0 (by simp),HE λj u=> ?_⟩;have:=h (j+1) (by simp;omega);rw[show i+1+j=i+(j+1)by omega];simpa using this
variable {S:List AT}
def zjs{f:Nat->Int} {t:Int} (u:∀i,f i=t) {l:List PV} (h:∀v∈l,PV.sh S t v):PV.shL S f 0 l:=HE λj A=>by rw[u];exact h _ (List.getElem_mem A)
variable {i:Nat}
def XK(hi:i<S.length) {n:Int} {s:O6} {l:List PV} {ks:List O6} {b:Int} (u:ql S[i].k=true) (h:PV.shL S (qj S[i] b) 0 l):PV.sh S i (.mk n s l ks b):=by rw[PV.sh,Int.toNat_natCast,List.getElem?_eq_getElem hi];dsimp only;rw[if_pos u];exact h
def Pv(hi:i<S.length) {v:PV} (u:ql S[i].k=false) (h:(PV.fb S i v).size<=5000):PV.sh S i v:=by obtain⟨n,s,l,ks,b⟩:=v;rw[PV.sh,Int.toNat_natCast,List.getElem?_eq_getElem hi];dsimp only;rw[if_neg (by rw[u];decide)];exact h
def jxr(n:Int): -9223372036854775808<=IntKind.wrap .i64 n/\IntKind.wrap .i64 n<9223372036854775808:=by simp[IntKind.wrap,IntKind.bits,IntKind.signed];omega
def zv5(hi:i<S.length) {n:Int} (u:qI S[i].k=true) (h:zS S[i] n=true):PV.fitz S i (.mk n (mkS []) [] [] 0):=by
 refine⟨j7o hi u h,Pv hi ?_ ?_⟩
 ·unfold qI at u;have:=of_decide_eq_true u;unfold ql;exact decide_eq_false (by omega)
 ·unfold qI at u;have:=of_decide_eq_true u;have w:=jxr n;have v:=kp _ w.1 w.2;have e0:(mkS []).size=0:=rfl;rw[PV.fb,Int.toNat_natCast,List.getElem?_eq_getElem hi];dsimp only
  (repeat' split)<;>first| (rw[uE];omega)|omega
def Oq(hi:i<S.length) {s:O6} (u:qG S[i].k=true) (h:jC S[i] s=true) (A:if S[i].k=11 then s.size<=5000 else s.size<=4990):PV.fitz S i (.mk 0 s [] [] 0):=by
 refine⟨j7p hi u h,Pv hi ?_ ?_⟩
 ·unfold qG at u;have:=of_decide_eq_true u;unfold ql;exact decide_eq_false (by omega)
 ·unfold qG at u;have:=of_decide_eq_true u;have v:=kp (s.size:Int);have e0:(mkS []).size=0:=rfl;rw[PV.fb,Int.toNat_natCast,List.getElem?_eq_getElem hi];dsimp only
  (repeat' split)<;>first|omega|skip
  ·rw[ByteArray.size_append];rw[if_neg (by omega)]at A;have:=v (by omega) (by omega);omega
  ·rw[if_pos (by assumption)]at A;exact A
def zdg(hi:i<S.length) (u:S[i].k=9) {l:List PV} (H:l.length=S[i].fs.length) (h:∀(j:Nat) (A:j<l.length) (C:j<S[i].fs.length),PV.fitz S (S[i].fs[j]).ty l[j]):PV.fitz S i (.mk 0 (mkS []) l [] 0):=by
 refine⟨zoq hi u H λj A C=>(h j A C).1,XK hi (by unfold ql;exact decide_eq_true (.inl u)) (HE λj G=> ?_)⟩;have e:qj S[i] 0 (0+j)=(S[i].fs[j]'(by omega)).ty:=by unfold qj;rw[if_pos u,Nat.zero_add,List.getElem?_eq_getElem (by omega)]
 rw[e];exact(h j G (by omega)).2
def zdh(hi:i<S.length) (A:S[i].k=14) {b:Nat} (C:b<S[i].brs.length) {v:PV} (h:PV.fitz S (S[i].brs.getD b 0) v):PV.fitz S i (.mk 0 (mkS []) [v] [] b):=by
 refine⟨zor hi A C h.1,XK hi (by unfold ql;exact decide_eq_true (by omega)) (HE λj u=> ?_)⟩;obtain rfl:j=0:=by simp at u;exact u
 have e:qj S[i] (b:Int) (0+0)=S[i].brs.getD b 0:=by unfold qj;rw[if_neg (by omega),if_pos A,Int.toNat_natCast]
 rw[e];exact h.2
def zde(hi:i<S.length) (A:S[i].k=12) {l:List PV} (h:∀v∈l,PV.fitz S S[i].it v):PV.fitz S i (.mk 0 (mkS []) l [] 0):=
 ⟨zom hi A λv u=>(h v u).1,XK hi (by unfold ql;exact decide_eq_true (by omega)) (zjs (λj=>by unfold qj;rw[if_neg (by omega),if_neg (by omega)]) λv u=>(h v u).2)⟩
def zdf(hi:i<S.length) (C:S[i].k=13) {l:List PV} {ks:List O6} (G:ks.length=l.length) (u:zd ks=true) (h:∀v∈l,PV.fitz S S[i].it v):PV.fitz S i (.mk 0 (mkS []) l ks 0):=
 ⟨zop hi C G u λv A=>(h v A).1,XK hi (by unfold ql;exact decide_eq_true (by omega)) (zjs (λj=>by unfold qj;rw[if_neg (by omega),if_neg (by omega)]) λv A=>(h v A).2)⟩
end
def Vl:zt->Prop:=λ⟨S,x,t,v⟩=>ql (qd S t).k=false/\1<=(qd S t).k/\(qd S t).k<=14
def OF:Ct:={Pj with pre:=λs=>Pj.pre s/\Vl s}
def PA:zt->WayF:=λz=>{
 cut:=λi t h=>match i with
  |19=>some {σ:=Unit,t:=λ_=>[(56, .bool false),(18, .int .i64 1)],h:=λ_=>[],more:=0,μ:=λ_=>0,keep:=[1,3,5,6,7]}
  |29=>none
  |32=>none
  |_=>(jiy z).cut i t h}
def VY:Ct:={zcu with pre:=λs=>zcu.pre s/\Vl s}
abbrev uf:=List AT×SV×Int×GV×SV×List Int×Int
def bkM(S:List AT) (x:SV) (v:GV) (y:SV) (L:List Int):PF:=⟨true,λp=>(qc S x p/\v.ok p)/\qb qm y L p,λ_ _ h e=>⟨⟨uC h e.1.1,GV.ok_mono h e.1.2⟩,ji h e.2⟩⟩
def Yc:uf->Prop:=λ⟨S,x,t,v,y,L,n⟩=>kg S/\PV.fits S t v.pv=true/\PV.sh S t v.pv/\v.pv.sn/\v.pv.wt<90000000000000/\0<=n/\n<=L.length/\zX L
def xA:uf->O6×Int->Prop:=λ⟨S,x,t,v,y,L,n⟩ ⟨r,n'⟩=>PV.bl S t v.pv r/\r.size+20<=400*v.pv.wt/\n<=n'/\n'<=L.length
def Z6:CtR where
 σ:=uf
 args:=λ⟨S,x,t,v,y,L,n⟩=>[.ptr 1 0,jP x, .sv (.int .i64 t),v.av]
 h:=λ⟨S,x,t,v,y,L,n⟩=>jb y n
 m:=2
 pre:=λz=>Yc z
 mem:=λ⟨S,x,t,v,y,L,n⟩=>bkM S x v y L
 β:=λ_=>O6×Int
 post:=λz b=>xA z b
 pm:=λ_ _=>{}
 r:=λ_ ⟨r,n'⟩=> .sv (.string r)
 h':=λ⟨S,x,t,v,y,L,n⟩ ⟨r,n'⟩=>jb y n'
 m':=2
def ZZ:uf->Nat:=λ⟨S,x,t,v,y,L,n⟩=>SizeOf.sizeOf v
def KG(I:List O6) (out:O6):Prop:=∀J R,Blk J R->Blk (I++J) (out++R)
def Xv(S:List AT) (a:AT) (v:GV) (L:List Int) (n:Int) (j:Nat) (h:Int) (out:O6):Prop:=j<=v.l.length/\(n<=h/\h<=L.length)/\∃I,PV.blL S (qj a v.b) [] 0 ((GV.pvs v.l).take j) I/\out=q8 I/\out.size<=400*PV.wts ((GV.pvs v.l).take j)
def u7(S:List AT) (a:AT) (v:GV) (L:List Int) (n:Int) (i:Nat) (h:Int) (out:O6):Prop:=i<=v.l.length/\(n<=h/\h<=L.length)/\∃I,PV.blL S (λ_=>a.it) v.ks 0 ((GV.pvs v.l).take i) I/\KG I out/\out.size<=400*(PV.wts ((GV.pvs v.l).take i)+qx (v.ks.take i))
def u0(S:List AT) (a:AT) (v:GV) (L:List Int) (n:Int) (i:Nat) (c:Int) (m:Nat) (u:Int) (h:O6):Prop:=(i<=m/\(m:Int)<=i+c/\(i:Int)+c<=v.l.length)/\(n<=u/\u<=L.length)/\∃K,PV.blL S (λ_=>a.it) v.ks i (((GV.pvs v.l).drop i).take (m- i)) K/\h=q8 K/\h.size+20*(m- i)<=400*(PV.wts (((GV.pvs v.l).drop i).take (m- i))+qx ((v.ks.drop i).take (m- i)))
def QW(k:Int):Bool:=decide (k=12\/k=13)
def wBk:uf->WayF:=λ⟨S,x,t,v,y,L,n⟩=>{
  spl:=λi=>match i with
    |5=>some 15
    |10=>some 14
    |23=>some 10
    |_=>none
  flo:=λi=>match i with
    |10=>some (14,[0])
    |23=>some (10,[0])
    |_=>none
  cut:=λi C _=>match i with
    |14=>yi QW 70 24 [0,2,5,7,9,10,24,70] C
    |_=>none
  ann :=λid C G=>match id with
    |1=>some {σ:=Nat×Int×O6,pre:=λ⟨j,u,out⟩=>Xv S (qd S t) v L n j u out,t:=λ⟨j,u,out⟩=>[(11, .sv (.int .i64 (j:Nat))),(10, .sv (.string out))],h:=λ⟨j,u,out⟩=>jb y u,more:=60,μ:=λ⟨j,u,out⟩=>v.l.length- j,keep:=[0,2,5,7,9]}
    |3=>some {σ:=Nat×Int×O6,pre:=λ⟨j,u,out⟩=>u7 S (qd S t) v L n j u out,t:=λ⟨j,u,out⟩=>[(12, .sv (.int .i64 (j:Nat))),(10, .sv (.string out))],h:=λ⟨j,u,out⟩=>jb y u,more:=60,μ:=λ⟨j,u,out⟩=>v.l.length- j,keep:=[0,2,5,7,9]}
    | _=>match jQ C 12,jQ C 13 with
      |some i,some c=>some {σ:=Nat×Int×O6,pre:=λ⟨m,u,A⟩=>u0 S (qd S t) v L n i.toNat c m u A,t:=λ⟨m,u,A⟩=>[(15, .sv (.int .i64 (m:Nat))),(14, .sv (.string A))],h:=λ⟨m,u,A⟩=>jb y u,more:=60,μ:=λ⟨m,u,A⟩=>(i+c- m).toNat,keep:=[0,2,5,7,9,10,12,13]}
      |_,_=>none}
section
variable (g:Int) (d:SV) (e:List AT) (c:GV) (h:SV) (f:List Int) (G:Int) (L:Nat) (I:Int) (K:O6) (i:Option Addr) (k:Nat) (D:Int) (m:Option Addr) (o p:Nat) (t:Bool) (u:O6) (q:Int) (v:Option Addr) (r w:Nat) (z:Option Addr) (A B H:Nat) (a E:Nat×Int×O6) (J:List Int) (R:Prop) (C:uf) (N:O6×Int) (x32:O6) (x33:Int) (x34:Nat->Option Obj) (x35:Nat×Int×O6) (x36:zt)
 abbrev kP:=True/\(qc e d x34/\GV.ok c x34)/\qb qm h f x34
 def MM:=((-9223372036854775808:Int)<=g/\g<9223372036854775808)
 abbrev vG:=(↑(GV.x c).2.1:Int)
 def DA:=(∀j,kP d e c h f j->q2u j (adr (GV.x c).1 ((0:Nat)*5)) [int u64 g,string K,slice i L k,slice m o p,int i64 G])
 abbrev Dx:=slice (GV.x c).1 (GV.x c).2.1 (GV.x c).2.2
 def Ds:=C.2.1.1=d.1/\C.2.1.2.1=d.2.1/\C.2.1.2.2=d.2.2/\C.2.2.1=g/\GV.n C.2.2.2.1=G/\GV.s C.2.2.2.1=K/\(GV.x C.2.2.2.1).1=i/\(GV.x C.2.2.2.1).2.1=L/\(GV.x C.2.2.2.1).2.2=k/\(GV.y C.2.2.2.1).1=m/\(GV.y C.2.2.2.1).2.1=o/\(GV.y C.2.2.2.1).2.2=p/\GV.b C.2.2.2.1=I/\C.2.2.2.2.1.1=h.1/\C.2.2.2.2.1.2.1=h.2.1/\C.2.2.2.2.1.2.2=h.2.2/\R
 def Dt:=(qc C.1 C.2.1 x34/\GV.ok C.2.2.2.1 x34)/\qb qm C.2.2.2.2.1 C.2.2.2.2.2.1 x34
 abbrev vH:=List.toArray (Proofs.YtniogjgfomaicaaGreat.Rv.venc (zg g))
 def U0:=d.1=C.2.2.2.2.1.1/\d.2.1=C.2.2.2.2.1.2.1/\d.2.2=C.2.2.2.2.1.2.2/\R
 def cr:=size (ByteArray.mk (vH g))+size N.1<=9223372036854775807/\∃(j:O6×Int),j.1=ByteArray.mk (vH g)++N.1/\U0 d (j.2=N.2/\xA (e,h,G,c,d,f,I) j/\True) C
 def yx:=d.1=d.1/\d.2.1=d.2.1/\d.2.2=d.2.2/\R
 def uX:=GV.n c=GV.n c/\GV.s c=GV.s c/\(GV.x c).1=(GV.x c).1/\(GV.x c).2.1=(GV.x c).2.1/\(GV.x c).2.2=(GV.x c).2.2/\(GV.y c).1=(GV.y c).1/\(GV.y c).2.1=(GV.y c).2.1/\(GV.y c).2.2=(GV.y c).2.2/\GV.b c=GV.b c/\yx d (g=g/\K=K/\i=i/\L=L/\k=k/\G=G/\m=m/\o=o/\p=p/\t=t/\u=u/\I=I/\v=v/\r=r/\w=w/\z=z/\A=A/\B=B/\(∀j,kP d e c h f j->kP d e c h f j)/\R)
 def MH:=(0<=(↑a.1:Int)/\(↑a.1:Int)<(vG c))/\(GV.x c).1≠noA/\R
 def MF:=(∀j,kP d e c h f j->q2u j (adr (GV.x c).1 (toNat (↑a.1:Int)*5)) [int u64 g,string K,slice i L k,slice m o p,int i64 G])
 def ME:=Ds g d h G L I K i k m o p (C.2.2.2.2.2.2=a.2.1/\(ZZ C<r/\Yc C)/\(∀j,kP d e c h f j->Dt C j)/\R) C
 abbrev MJ:=Jb ((↑a.1:Int)+1)
 def ML:=length (GV.l c)- a.1<length (GV.l c)- E.1/\True
 def cq:=size a.2.2+size N.1<=9223372036854775807/\MJ a/\∃(j:Nat×Int×O6),(↑j.1:Int)=(↑a.1:Int)+1/\g=g/\j.2.2=a.2.2++N.1/\U0 d (j.2.1=N.2/\uX G h e c d f I L D K i k m o p t u v r w z A B (Xv e (qd e g) c f q j.1 j.2.1 j.2.2/\ML c j a)) C
 def Dr:=(0<=(↑a.1:Int)/\(↑a.1:Int)<(↑L:Int))/\i≠noA/\∃(j:Int),(∀Q,kP d e c h f Q->q2u Q (Addr.add (adr i (toNat (↑a.1:Int)*9)) 2) [int i64 j])/\MH c a (∃(M:Int),∃S,∃T,∃(Y:Nat),∃(i6:Nat),∃i7,∃(i8:Nat),∃(i9:Nat),∃(O:Int),MF M d e c h f O Y S T i6 i7 i8 i9 a/\∃(Z:uf),ME j d e c h f M Y O S T i6 i7 i8 i9 k a (∀(i12:O6×Int),xA Z i12->cq g h e c d f G o I K m p D v r w t u q i L A z B H a Z i12) Z)
 def cg:=(Dr g d e c h f G L I K i k D m o p t u q v r w z A B H a)/\Dr g d e c h f G L I K i k D m o p t u q v r w z A B H a
 def cf:=Ji ((↑a.1:Int)<(vG c)) (cg g d e c h f G L I K i k D m o p t u q v r w z A B H a) (∃(i32:O6×Int),i32.1=a.2.2/\yx h (i32.2=a.2.1/\xA (e,d,g,c,h,f,q) i32/\True))
 def cb:=(∃(j:Nat×Int×O6),(↑j.1:Int)=0/\g=g/\j.2.2=mkS []/\yx d (j.2.1=G/\uX I h e c d f D L q K i k m o p t u v r w z A B (Xv e (qd e g) c f G j.1 j.2.1 j.2.2/\True)))/\∀(Q:Nat×Int×O6),Xv e (qd e g) c f G Q.1 Q.2.1 Q.2.2->cf g h e c d f I r D K v H q i L k t u G m o p z w A B Q
 def MG:=(1:Int)+qq f a.2.1 ((vG c)- (↑a.1:Int))=1+qq f a.2.1 ((vG c)- (↑a.1:Int))/\g=g/\(↑a.1:Int)=(↑a.1:Int)/\a.2.2=a.2.2/\R
 abbrev uO:=(1:Int)+qq f a.2.1 ((vG c)- (↑a.1:Int))
 abbrev MK:=Jb ((↑a.1:Int)+(uO c f a))
 def Dy:=(0<=(↑a.1:Int)/\(↑a.1:Int)<(↑(GV.y c).2.1:Int))/\(GV.y c).1≠noA/\R
 def MI:=(∀j,kP d e c h f j->q2u j (adr (GV.y c).1 (toNat (↑a.1:Int)*1)) [string K])
 def U1:=MM g/\size a.2.2+size (ByteArray.mk (vH g))<=9223372036854775807/\R
 abbrev Dz:=slice (GV.y c).1 (GV.y c).2.1 (GV.y c).2.2
 def Du:=u0 e (qd e g) c f G (toNat (↑a.1:Int)) (uO c J a) E.1 E.2.1 E.2.2/\toNat ((↑a.1:Int)+(uO c J a)- (↑E.1:Int))<toNat ((↑a.1:Int)+(uO c J a)- (↑x35.1:Int))/\True
 def ch:=size (a.2.2++ByteArray.mk (vH g)++K)+size N.1<=9223372036854775807/\MJ a/\∃(j:Nat×Int×O6),(↑j.1:Int)=(↑a.1:Int)+1/\MG G c f E (j.2.2=a.2.2++ByteArray.mk (vH g)++K++N.1/\U0 d (j.2.1=N.2/\uX I h e c d J D L q u i k m o p t x32 v r w z A B (Du G e c J x33 E j f a)) C)
 def Dw:=MH c a (∃(j:Int),∃Q,∃M,∃(S:Nat),∃(T:Nat),∃Y,∃(i6:Nat),∃(i7:Nat),∃(i8:Int),MF j d e c h f i8 S Q M T Y i6 i7 a/\∃(i9:uf),ME g d e c h f j S i8 Q M T Y i6 i7 L a (∀(O:O6×Int),xA i9 O->ch G h e c d J I k D K i o g m p r t u q v w A z B H a E f i9 O x32 x33) i9)
 def ca:=Dy c a (∃j,MI d e c h f j a/\∃(M:Int),M=(↑(size j):Int)/\U1 M a (Dy c a (∃S,MI d e c h f S a/\size (a.2.2++ByteArray.mk (vH M))+size S<=9223372036854775807/\AV.sv (Dz c)=AV.sv (Dz c)/\∃Y,MI d e c h f Y a/\AV.sv (string Y)=AV.sv (string S)/\(Dw g d e c h f M L G S i k I m o p t K D v r w z A B H a E J u q)/\Dw g d e c h f M L G S i k I m o p t K D v r w z A B H a E J u q)))
 def cp:=size a.2.2+size N.1<=9223372036854775807/\MJ a/\∃(j:Nat×Int×O6),(↑j.1:Int)=(↑a.1:Int)+1/\MG g c f E (j.2.2=a.2.2++N.1/\U0 d (j.2.1=N.2/\uX G h e c d J I L D K i k m o p t u v r w z A B (Du g e c J q E j f a)) C)
 def Dv:=MH c a (∃(j:Int),∃Q,∃M,∃(S:Nat),∃(T:Nat),∃Y,∃(i6:Nat),∃(i7:Nat),∃(i8:Int),MF j d e c h f i8 S Q M T Y i6 i7 a/\∃(i9:uf),ME g d e c h f j S i8 Q M T Y i6 i7 L a (∀(O:O6×Int),xA i9 O->cp G h e c d J I k g K i o D m p r t u q v w A z B H a E f i9 O) i9)
 def cd:=(Dv g d e c h f G L I K i k D m o p t u q v r w z A B H a E J)/\Dv g d e c h f G L I K i k D m o p t u q v r w z A B H a E J
 def o6:=Ji (g=13) (ca G d e c h f I L g K i k D m o p t u q v r w z A B H a E J) (cd G d e c h f I L g K i k D m o p t u q v r w z A B H a E J)
 def o5:=MK c f a/\Ji ((↑E.1:Int)<(↑a.1:Int)+(uO c f a)) (o6 g d e c h J G L I K i k D m o p t u q v r w z A B H E a f) (∃(i67:List Int),(2:Int)=2/\yx h (E.2.1=E.2.1/\(0<=E.2.1/\E.2.1<=(↑(length i67):Int)/\(0:Int)<2/\(2:Int)<1000000/\zX i67)/\(∀i68,kP d e c h J i68->qb qm (h.1,h.2.1,h.2.2) i67 i68)/\Ji (qq i67 E.2.1 (2:Int)=0) (∃(i69:Int),i69=IntKind.wrap i64 ((0:Int)- (uO c f a))/\∃(i70:Int),i70=i69/\U1 i70 a (∃(i71:Int),i71=(↑(size E.2.2):Int)/\MM i71/\size (a.2.2++ByteArray.mk (vH i70))+size (ByteArray.mk (vH i71))<=9223372036854775807/\size (a.2.2++ByteArray.mk (vH i70)++ByteArray.mk (vH i71))+size E.2.2<=9223372036854775807/\MK c f a/\∃(W:Nat×Int×O6),I=I/\(↑W.1:Int)=(↑a.1:Int)+(uO c f a)/\W.2.2=a.2.2++ByteArray.mk (vH i70)++ByteArray.mk (vH i71)++E.2.2/\yx h (W.2.1=qg i67 E.2.1/\uX g d e c h J G k D K i o m p r t u v w A z B H (u7 e (qd e I) c J q W.1 W.2.1 W.2.2/\ML c W a)))) (∃(i74:Int),i74=1+qq f a.2.1 ((vG c)- (↑a.1:Int))/\U1 i74 a (size (a.2.2++ByteArray.mk (vH i74))+size E.2.2<=9223372036854775807/\MK c f a/\∃(X:Nat×Int×O6),I=I/\(↑X.1:Int)=(↑a.1:Int)+(uO c f a)/\X.2.2=a.2.2++ByteArray.mk (vH i74)++E.2.2/\yx h (X.2.1=qg i67 E.2.1/\uX g d e c h J G k D K i o m p r t u v w A z B H (u7 e (qd e I) c J q X.1 X.2.1 X.2.2/\ML c X a))))))
 def oZ:=Jb ((vG c)- (↑a.1:Int))/\∃(j:List Int),(vG c)- (↑a.1:Int)=(vG c)- (↑a.1:Int)/\yx d (a.2.1=a.2.1/\(0<=a.2.1/\a.2.1<=(↑(length j):Int)/\0<(vG c)- (↑a.1:Int)/\(vG c)- (↑a.1:Int)<1000000/\zX j)/\(∀Q,kP h e c d f Q->qb qm (d.1,d.2.1,d.2.2) j Q)/\((-9223372036854775808:Int)<=1+qq j a.2.1 ((vG c)- (↑a.1:Int))/\(1:Int)+qq j a.2.1 ((vG c)- (↑a.1:Int))<=9223372036854775807)/\(∃(M:Nat×Int×O6),(↑M.1:Int)=(↑a.1:Int)/\MG g c j a (M.2.2=mkS []/\yx d (M.2.1=qg j a.2.1/\uX G h e c d f I L D K i k m o p t u v r w z A B (u0 e (qd e g) c f q (toNat (↑a.1:Int)) (uO c j a) M.1 M.2.1 M.2.2/\True))))/\∀(T:Nat×Int×O6),u0 e (qd e g) c f q (toNat (↑a.1:Int)) (uO c j a) T.1 T.2.1 T.2.2->o5 G h e c d j I H g K i L D m k o t u q v p r z w A B a T f)
 def oY:=Ji ((↑a.1:Int)<(vG c)) (oZ g d e c h f G L I K i k D m o p t u q v r w z A B H a) (∃(i82:Int),i82=0/\U1 i82 a (∃(i83:O6×Int),i83.1=a.2.2++ByteArray.mk (vH i82)/\yx d (i83.2=a.2.1/\xA (e,h,g,c,d,f,q) i83/\True)))
 def oX:=(∃(j:Nat×Int×O6),g=g/\(↑j.1:Int)=0/\j.2.2=mkS []/\yx d (j.2.1=G/\uX I h e c d f D L q K i k m o p t u v r w z A B (u7 e (qd e g) c f G j.1 j.2.1 j.2.2/\True)))/\∀(M:Nat×Int×O6),u7 e (qd e g) c f G M.1 M.2.1 M.2.2->oY g d e c h f I L D K i k q m o p t u G v r w z A B H M
 abbrev U2:=(zb x36.1 x36.2.2.1 (GV.pv x36.2.2.2)).2
 def oW:=(QW g=true->oX G d e c h f I L g K i k D m o p t u q v r w z A B H)/\(QW g=false->∃(F:zt),F.2.1.1=h.1/\F.2.1.2.1=h.2.1/\F.2.1.2.2=h.2.2/\F.2.2.1=G/\GV.n F.2.2.2=GV.n c/\GV.s F.2.2.2=GV.s c/\(GV.x F.2.2.2).1=(GV.x c).1/\(GV.x F.2.2.2).2.1=(GV.x c).2.1/\(GV.x F.2.2.2).2.2=(GV.x c).2.2/\(GV.y F.2.2.2).1=(GV.y c).1/\(GV.y F.2.2.2).2.1=(GV.y c).2.1/\(GV.y F.2.2.2).2.2=(GV.y c).2.2/\GV.b F.2.2.2=GV.b c/\((small F.1/\Qx F.1/\PV.sz (GV.pv F.2.2.2)/\PV.wt (GV.pv F.2.2.2)<90000000000000)/\Vl F)/\(∀i88,kP h e c d f i88->qc F.1 F.2.1 i88/\GV.ok F.2.2.2 i88)/\∀(i89:Unit),True->∀(i90:Option Addr) (i91 i92:Nat),(∃i93,(kP h e c d f i93)/\i91=size (U2 F)/\qfv i93 i90 i91 i92 (q11 (U2 F)))->∃i94,size i94=i91/\(∀i95,(kP h e c d f i95)/\i91=size (U2 F)/\qfv i95 i90 i91 i92 (q11 (U2 F))->qfu i95 i90 (q11 i94))/\∃(i96:O6×Int),i96.1=i94/\yx d (i96.2=I/\xA (e,h,G,c,d,f,I) i96/\True))
 def oV:=(Ji (g=12) (∃(j:Unit),G=G/\g=g/\QW g=decide (g=12)/\yx d (I=I/\uX g h e c d f D L q K i k m o p t u v r w z A B (True/\True))) (∃(M:Unit),G=G/\g=g/\QW g=decide (g=13)/\yx d (I=I/\uX g h e c d f D L q K i k m o p t u v r w z A B (True/\True))))/\∀(T:Unit),True->oW g d e c h f G L I K i k D m o p t u q v r w z A B H
 def oU:=Ji (g=9) (cb G d e c h f I L g K i k D m o p t u q v r w z A B H) (oV g d e c h f G L I K i k D m o p t u q v r w z A B H)
 def oS:=(0<=g/\g<(↑d.2.1:Int))/\d.1≠noA/\∃(j:Int),∃Q,∃M,∃(S:Nat),∃(T:Nat),∃(Y:Int),∃i6,∃(i7:Nat),∃(i8:Nat),∃(i9:Bool),∃O,∃(Z:Int),∃i12,∃(i13:Nat),∃(i14:Nat),∃U,∃(i16:Nat),∃(i17:Nat),(∀i18,kP d e c h f i18->q2u i18 (adr d.1 (toNat g*10)) [int i64 j,string Q,slice M S T,int i64 Y,slice i6 i7 i8,bool i9,string O,int i64 Z,slice i12 i13 i14,slice U i16 i17])/\Ji (j=14) (∃(i19:Int),i19=GV.b c/\MM i19/\(0<=GV.b c/\GV.b c<(↑i16:Int))/\U≠noA/\∃(i20:Int),(∀i21,kP d e c h f i21->q2u i21 (adr U (toNat (GV.b c)*1)) [int i64 i20])/\((0:Int)<=0/\0<(vG c))/\(GV.x c).1≠noA/\∃(i22:Int),∃i23,∃i24,∃(i25:Nat),∃(i26:Nat),∃i27,∃(i28:Nat),∃(i29:Nat),∃(i30:Int),DA i22 d e c h f i30 i25 i23 i24 i26 i27 i28 i29/\AV.agg [AV.sv (slice d.1 d.2.1 d.2.2)]=AV.agg [AV.sv (slice d.1 d.2.1 d.2.2)]/\AV.sv (slice U i16 i17)=AV.sv (slice U i16 i17)/\AV.sv (int i64 (GV.b c))=AV.sv (int i64 (GV.b c))/\∃(i32:Int),(∀i33,kP d e c h f i33->q2u i33 (adr U (toNat (GV.b c)*1)) [int i64 i32])/\AV.sv (int i64 i32)=AV.sv (int i64 i20)/\AV.sv (Dx c)=AV.sv (Dx c)/\∃(i34:Int),∃i35,∃i36,∃(i37:Nat),∃(i38:Nat),∃i39,∃(i40:Nat),∃(i41:Nat),∃(i42:Int),DA i34 d e c h f i42 i37 i35 i36 i38 i39 i40 i41/\AV.agg [AV.sv (int u64 i34),AV.sv (string i35),AV.sv (slice i36 i37 i38),AV.sv (slice i39 i40 i41),AV.sv (int i64 i42)]=AV.agg [AV.sv (int u64 i22),AV.sv (string i23),AV.sv (slice i24 i25 i26),AV.sv (slice i27 i28 i29),AV.sv (int i64 i30)]/\∃(V:uf),Ds i20 d h i22 i25 i30 i23 i24 i26 i27 i28 i29 (V.2.2.2.2.2.2=G/\(ZZ V<L/\Yc V)/\(∀i45,kP d e c h f i45->Dt V i45)/\∀(i46:O6×Int),xA V i46->cr i19 h e c d f g G V i46) V) (oU j h e c d f g S G Q M T Y i6 i7 i8 i9 O Z i12 i13 i14 U i16 i17 L)
end
def zwn(k:Nat) (S:List AT) (x:SV) (t:Int) (v:GV) (y:SV) (L:List Int) (n:Int):qiy P (qef [(25,HP),(23,QU),(26,VY)]) (qff [(11,Z6.below ZZ k)]) Tryz.f11 (Z6.below ZZ (k+1)) (wBk) ⟨S,x,t,v,y,L,n⟩=(ZZ (S,x,t,v,y,L,n)<k+1/\Yc (S,x,t,v,y,L,n)->(∃(p:Pub),kP x S v y L p)->oS t x S v y L n k):=by kernel_rfl
def j79:=λk S x t v y L n=>Eq.trans (zwn k S x t v y L n) (by delta Ji Jb Jt Jf kP MM vG DA Dx Ds Dt vH U0 cr yx uX MH MF ME MJ ML cq Dr cg cf cb MG uO MK Dy MI U1 Dz Du ch Dw ca cp Dv cd o6 o5 oZ oY oX U2 oW oV oU oS;exact rfl)
section
def It{S:List AT} {f:Nat->Int} {ks:List O6}:∀{l:List PV} {i:Nat} {I:List O6} {v:PV} {c:O6},PV.blL S f ks i l I->PV.bl S (f (i+l.length)) v c->PV.blL S f ks i (l++[v]) (I++[qW ks (i+l.length)++c])
  | [],i,I,v,c,h,u=>by rw[PV.blL]at h;subst h;rw[List.nil_append,List.nil_append,PV.blL];exact⟨c,[],rfl,u,by rw[PV.blL]⟩
  | w::l,i,I,v,c,h,u=>by rw[PV.blL]at h;obtain⟨d,J,rfl,A,C⟩:=h;rw[List.cons_append,List.cons_append,PV.blL];have e:i+(w::l).length=i+1+l.length:=(by simp;omega);rw[e]at u⊢;exact⟨d,_,rfl,A,It C u⟩
def zcr{S:List AT} {f:Nat->Int} {ks:List O6}:∀{l m:List PV} {i:Nat} {I J:List O6},PV.blL S f ks i l I->PV.blL S f ks (i+l.length) m J->PV.blL S f ks i (l++m) (I++J)
  | [],m,i,I,J,h,hm=>by rw[PV.blL]at h;subst h;exact hm
  | w::l,m,i,I,J,h,hm=>by rw[PV.blL]at h;obtain⟨d,K,rfl,u,A⟩:=h;rw[List.cons_append,List.cons_append,PV.blL];have e:i+(w::l).length=i+1+l.length:=(by simp;omega);rw[e]at hm;exact⟨d,_,rfl,u,zcr A hm⟩
def z9i(c:O6):q8 [c]=c:=by rw[q8,q8,uB]
def z71(I:List O6) (c:O6):q8 (I++[c])=q8 I++c:=by rw[z9h,z9i]
def znj:KG [] (mkS []):=λJ R h=>by rw[List.nil_append,JX];exact h
variable {out:O6}
def znk{I K:List O6} (h:KG I out) (u:K≠[]):KG (I++K) (out++vz (K.length:Nat)++q8 K):=λJ R A=>by have:=h _ _ (Blk.pos u A);rw[←List.append_assoc]at this;rw[ByteArray.append_assoc,ByteArray.append_assoc];rw[ByteArray.append_assoc]at this;exact this
def zni{I K:List O6} (h:KG I out) (u:K≠[]):KG (I++K) (out++vz (-(K.length:Nat))++vz ((q8 K).size:Nat)++q8 K):=λJ R A=>by have:=h _ _ (Blk.neg u A);rw[←List.append_assoc]at this;rw[ByteArray.append_assoc,ByteArray.append_assoc,ByteArray.append_assoc];rw[ByteArray.append_assoc,ByteArray.append_assoc]at this;exact this
variable {I:List O6}
def znh(h:KG I out):Blk I (out++vz 0):=by have:=h _ _ Blk.nil;rw[List.append_nil]at this;exact this
variable {l:List PV}
def z9v{j:Nat} (h:j<l.length):l.take (j+1)=l.take j++[l[j]]:=by rw[List.take_add_one,List.getElem?_eq_getElem h];rfl
def zr2{j:Nat} (h:j<l.length):PV.wts (l.take (j+1))=PV.wts (l.take j)+PV.wt l[j]:=by rw[z9v h,xy,JZ]
def W2:∀(l m:List O6),qx (l++m)=qx l+qx m
 | [],m=>by rw[List.nil_append,qx,Nat.zero_add]
 |k::l,m=>by rw[List.cons_append,qx,qx,W2 l m];omega
def zq9{S:List AT} {t:Int} {a:AT} {N:Int} {s:O6} {l:List PV} {ks:List O6} {b:Int} (hs:S[t.toNat]? =some a) (hq:ql a.k=true) (h:PV.sh S t (.mk N s l ks b)):PV.shL S (qj a b) 0 l:=by rw[PV.sh,hs]at h;dsimp only at h;rw[if_pos hq]at h;exact h
def Pu{S:List AT} {f:Nat->Int}:∀{l:List PV} {i:Nat},PV.shL S f i l->∀(j:Nat) (u:j<l.length),PV.sh S (f (i+j)) l[j]
  |v::l,i,h,0,_=>by rw[PV.shL]at h;exact h.1
  | v::l,i,h,j+1,u=>by rw[PV.shL]at h;have:=Pu h.2 j (by simpa using u);rw[show i+(j+1)=i+1+j by omega];exact this
variable {S:List AT} {t:Int} {a:AT}
def zz4{v:PV} (hs:S[t.toNat]? =some a) (hq:ql a.k=false) (h:PV.sh S t v):(PV.fb S t v).size<=5000:=by obtain⟨N,s,l,ks,b⟩:=v;rw[PV.sh,hs]at h;dsimp only at h;rw[if_neg (by rw[hq];decide)]at h;exact h
def zwp{v:PV} (hs:S[t.toNat]? =some a) (hq:ql a.k=false):PV.bl S t v (PV.fb S t v):=by obtain⟨N,s,l,ks,b⟩:=v;rw[PV.bl,hs];dsimp only;rw[if_neg (by rw[hq];decide)]
variable {N:Int} {s:O6} {b:Int}
def j7c(hs:S[t.toNat]? =some a) (u:a.k=9) (h:PV.blL S (qj a b) [] 0 l I):PV.bl S t (.mk N s l [] b) (q8 I):=by rw[PV.bl,hs];dsimp only;rw[if_pos (by unfold ql;exact decide_eq_true (.inl u))];exact⟨I,h,by rw[if_neg (by omega),if_pos u]⟩
def j7d{w:PV} {c:O6} (hs:S[t.toNat]? =some a) (u:a.k=14) (h:PV.bl S (qj a b 0) w c):PV.bl S t (.mk N s [w] [] b) (vz b++c):=by rw[PV.bl,hs];dsimp only;rw[if_pos (by unfold ql;exact decide_eq_true (by omega))];refine⟨[qW [] 0++c],by rw[PV.blL];exact⟨c,[],rfl,h,by rw[PV.blL]⟩,?_⟩;rw[if_pos u,z9i,JW,JX]
def j7a{ks:List O6} {B:O6} (hs:S[t.toNat]? =some a) (A:a.k=12\/a.k=13) (h:PV.blL S (λ_=>a.it) ks 0 l I) (C:Blk I B):PV.bl S t (.mk N s l ks b) B:=by
 have u:qj a b=λ_=>a.it:=by funext j;unfold qj;rw[if_neg (by omega),if_neg (by omega)]
 rw[PV.bl,hs];dsimp only;rw[if_pos (by unfold ql;exact decide_eq_true (by omega)),u];exact⟨I,h,by rw[if_neg (by omega),if_neg (by omega)];exact C⟩
end
section
def zd9{S:List AT} {f:Nat->Int}:∀{l:List PV} {i:Nat},PV.fitL S f i l=true->∀(j:Nat) (u:j<l.length),PV.fits S (f (i+j)) l[j]=true
  |v::l,i,h,0,_=>by rw[PV.fitL,Bool.and_eq_true]at h;exact h.1
  | v::l,i,h,j+1,u=>by rw[PV.fitL,Bool.and_eq_true]at h;have:=zd9 h.2 j (by simpa using u);rw[show i+(j+1)=i+1+j by omega];exact this
def Ud{l:List GV} {j:Nat} (h:j<l.length) (h':j<(GV.pvs l).length):(GV.pvs l)[j]=l[j].pv:=by simp only[GV.pvs_map,List.getElem_map]
variable {a:AT}
def jxh{p:Pub} (h:a.ok p) {j:Nat} (A:j<a.fs.length):q2u p ((adr a.f.1 (j*9)).add 2) [.int .i64 a.fs[j].ty]:=λi v hi=>by
  have u:=(vV h A).2;cases i with
  | zero=>
    simp at hi;subst hi;have:=u 2 _ (show a.fs[j].cells[2]? =some (.int .i64 a.fs[j].ty)from rfl);rw[Addr.add_add,Nat.add_zero];exact this
  |succ i=>simp at hi
def IZ{n:Nat} {ks:List O6} {b:Int} (h:zx a n ks b=true):(a.k≠13->ks=[])/\(a.k≠14->b=0)/\(a.k=9->n=a.fs.length)/\(a.k=14->0<=b/\b<a.brs.length/\n=1)/\(a.k=13->n=ks.length):=by
 unfold zx at h;split at h
 ·cases h
 rename_i u;refine⟨λg=> ?_,λg=> ?_,λg=> ?_,λg=> ?_,λg=> ?_⟩
 ·cases ks with
  |nil=>rfl
  |cons _ _=>exact absurd (.inl ⟨by simp,g⟩) u
 ·by_cases A:b=0
  ·exact A
  ·exact absurd (.inr ⟨A,g⟩) u
 ·rw[if_pos g]at h;exact of_decide_eq_true h
 ·rw[if_neg (by omega),if_pos g]at h;exact of_decide_eq_true h
 ·rw[if_neg (by omega),if_neg (by omega),if_pos g,Bool.and_eq_true]at h;exact of_decide_eq_true h.1
def zhw{α:Type} {l:List α} {i m:Nat} (u:i<=m) (h:m<l.length):(l.drop i).take (m+1- i)=(l.drop i).take (m- i)++[l[m]]:=by rw[show m+1- i=(m- i)+1 by omega,List.take_add_one,List.getElem?_drop,show i+(m- i)=m by omega,List.getElem?_eq_getElem h];rfl
def wrn{c:Nat} (h:c<1000000):IntKind.wrap .i64 (0- (c:Int))= -(c:Int):=by simp[IntKind.wrap,IntKind.bits,IntKind.signed];omega
variable {S:List AT} {v:GV} {L:List Int}
def zcp{n:Int} {i:Nat} {c:Int} {m:Nat} {T n':Int} {H r:O6} (h:u0 S a v L n i c m T H) (hm:(m:Int)<i+c) (C:m<v.l.length) (N:v.ks=[]\/v.ks.length=v.l.length) (O:∀k∈v.ks,k.size<9223372036854775808) (h1:T<=n') (X:n'<=L.length) (Y:PV.bl S a.it v.l[m].pv r) (hr:r.size+20<=400*v.l[m].pv.wt):u0 S a v L n i c (m+1) n' (H++(qW v.ks m++r)):=by
 obtain⟨⟨U,r2,r3⟩,⟨r4,r5⟩,K,r6,r7,V⟩:=h;have G:m<(GV.pvs v.l).length:=by rw[GV.pvs_len];exact C
 have hlen:(((GV.pvs v.l).drop i).take (m- i)).length=m- i:=by rw[List.length_take,List.length_drop];omega
 have A:=zhw U G;rw[Ud C G]at A;refine⟨⟨by omega,by omega,r3⟩,⟨by omega,X⟩,K++[qW v.ks m++r],?_,by rw[z71,r7],?_⟩
 ·rw[A];have:=It (v:=v.l[m].pv) (c:=r) r6 Y;rw[hlen,show i+(m- i)=m by omega]at this;exact this
 ·rw[A,xy,JZ,qN,qN];rcases N with e|e
  ·rw[e,JW];rw[e]at V;simp only[List.drop_nil,List.take_nil,qx]at V⊢;show H.size+(0+r.size)+20*(m+1- i)<=_;omega
  ·have u:m<v.ks.length:=(by omega);have hk:=O _ (List.getElem_mem u);have Z:=kp (v.ks[m].size:Int) (by omega) (by omega);rw[zhw U u,W2,qx,qx];have J:qW v.ks m=vz (v.ks[m].size:Int)++v.ks[m]:=(by unfold qW;rw[List.getElem?_eq_getElem u]);rw[J,qN];omega
def zcq{n:Int} {i:Nat} {c:Nat} {X n2 n':Int} {out A hd:O6} (h:u7 S a v L n i X out) (U:u0 S a v L n i c (i+c) n2 A) (hc:0<c) (O:n<=n') (T:n'<=L.length) (V:hd=vz (c:Nat)\/hd=vz (-((c:Nat):Int))++vz (A.size:Nat)) (hz:hd.size<=20):u7 S a v L n (i+c) n' (out++hd++A):=by
 obtain⟨r1,_,I,Y,J,r6⟩:=h;obtain⟨⟨_,_,s3⟩,_,K,G,N,Z⟩:=U;rw[show i+c- i=c by omega]at G Z;have hlen:((GV.pvs v.l).take i).length=i:=by rw[List.length_take,GV.pvs_len];omega
 have C:=W5 G;rw[List.length_take,List.length_drop,GV.pvs_len]at C;have u:K.length=c:=by omega
 have H:K≠[]:=λe=>by rw[e]at u;have:(0:Nat)=c:=u;omega
 refine⟨by omega,⟨O,T⟩,I++K,?_,?_,?_⟩
 ·rw[List.take_add];exact zcr Y (by rw[hlen,Nat.zero_add];exact G)
 ·rcases V with e|e
  ·have:=znk J H;rw[u,←N]at this;rw[e];exact this
  ·have:=zni J H;rw[u,←N]at this;rw[e,←ByteArray.append_assoc];exact this
 ·rw[List.take_add,List.take_add,xy,W2,qN,qN];omega
def j78{n V X n':Int} {i0 w:Nat} {out h:O6} (O:u7 S a v L n i0 V out) (N:u0 S a v L n i0 ((w+1:Nat):Int) (i0+(w+1)) X h) (hw:w+1<1000000) (hi:i0+(w+1)<=v.l.length) (Z:v.l.length<=1000) (H:n<=n') (J:n'<=L.length) (ho:out.size<100000000000000000) (Y:h.size<100000000000000000):∃r:Int,r=IntKind.wrap .i64 (0- ((w+1:Nat):Int))/\∃u:Int,u=r/\(-9223372036854775808<=u/\u<9223372036854775808)/\out.size+(vz u).size<=9223372036854775807/\∃C:Int,C=(h.size:Int)/\(-9223372036854775808<=C/\C<9223372036854775808)/\(out++vz u).size+(vz C).size<=9223372036854775807/\(out++vz u++vz C).size+h.size<=9223372036854775807/\(-9223372036854775808<=(i0:Int)+((w+1:Nat):Int)/\(i0:Int)+((w+1:Nat):Int)<=9223372036854775807)/\∃A:Nat×Int×O6,(A.1:Int)=(i0:Int)+((w+1:Nat):Int)/\A.2.2=out++vz u++vz C++h/\A.2.1=n'/\u7 S a v L n A.1 A.2.1 A.2.2/\v.l.length- A.1<v.l.length- i0:=by have T:=kp (-((w+1:Nat):Int)) (by omega) (by omega);have U:=kp (h.size:Int) (by omega) (by omega);have G:=zcq (n':=n') (c:=w+1) (hd:=vz (-((w+1:Nat):Int))++vz (h.size:Nat)) O N (by omega) H J (.inr rfl) (by rw[qN];omega);rw[← @ByteArray.append_assoc out]at G;refine⟨_,(wrn hw).symm,_,rfl,⟨by omega,by omega⟩,by omega,_,rfl,⟨by omega,by omega⟩,by rw[qN];omega,by rw[qN,qN];omega,⟨by omega,by omega⟩,⟨i0+(w+1),n',_⟩,by show((i0+(w+1):Nat):Int)=_;omega,rfl,rfl,G,by show v.l.length- (i0+(w+1))<_;omega⟩
def ji0 (k:Nat) (he0:q4a P 26 VY) (hb0:q1i P 11 (Z6.below ZZ k)):q1i P 11 (Z6.below ZZ (k+1)):=by
 refine zI (qbu (qfr zdt (qfr J3 (qfr he0 qil)))) (qcl (qfq hb0 qik)) (W:=wBk) Tryz.func11 λ⟨S,(x:SV),(t:Int),v,(y:SV),L,(n:Int)⟩=>(j79 k S x t v y L n).mpr ?_;rintro⟨hmu,hok,A,hsh,hsn,hwt,hn0,hn1,hL⟩ ⟨p,_,⟨hx,N⟩,hy⟩;have hmu:SizeOf.sizeOf v<k+1:=hmu;have hr:=JR A;obtain⟨i,rfl⟩:=Int.eq_ofNat_of_zero_le hr.1;have hi:i<S.length:=by omega
 have xs:x.2.1=S.length:=hx.1.1;have htp:=λq (hq:qc S x q)=>yp hq hi;have Y:=λq (hq:qc S x q)=>hq.2 S[i] (List.getElem_mem hi);have C:=hok.2.1 S[i] (List.getElem_mem hi);have hrg:=hok.2.2 S[i] (List.getElem_mem hi);have sm:=hok.1.2 S[i] (List.getElem_mem hi);have hs:S[((i:Nat):Int).toNat]? =some S[i]:=by rw[Int.toNat_natCast,List.getElem?_eq_getElem hi]
 have hat:qd S ((i:Nat):Int)=S[i]:=by unfold qd;rw[hs];rfl
 obtain⟨_,_,fl,bl⟩:=uD (Y p hx);have xl:=GV.x_len N;have yl:=GV.y_len N;have wl:=GV.wt_len v;have H:=GV.pv_eq v;have hso:=hsn;rw[H]at hso;obtain⟨_,_,V,_,_,hsnl⟩:=Px hso;rw[GV.pvs_len]at V;simp only[qy,exists_const,forall_const,Int.toNat_natCast,xs,xl,yl,hat];have hkid:∀(j:Nat) (Z:j<v.l.length) (U:Int),ql S[i].k=true->n<=U->U<=L.length->SizeOf.sizeOf v.l[j]<k/\Yc (S,x,qj S[i] v.b j,v.l[j],y,L,U):=λj Z U hq h1 h2=>by
  have h3:=G5 Z;have h4:=GV.wt_at Z;rw[H]at A hsh;obtain⟨_,hfl⟩:=Zv hs A hq;have hl:=zq9 hs hq hsh;have u:j<(GV.pvs v.l).length:=by rw[GV.pvs_len];exact Z
  have f1:=zd9 hfl j u;have f2:=Pu hl j u;rw[Ud Z u,Nat.zero_add]at f1 f2;exact⟨by omega,hok,f1,f2,hsnl _ (by rw[GV.pvs_map];exact List.mem_map_of_mem (List.getElem_mem Z)),by omega,by omega,h2,hL⟩
 have X:∀(j:Nat) (Z:j<v.l.length) q,(qc S x q/\v.ok q)/\qb qm y L q->(qc S x q/\v.l[j].ok q)/\qb qm y L q:=λj Z q hq=>⟨⟨hq.1.1,GV.ok_at hq.1.2 Z⟩,hq.2⟩;have hcell:=λ(j:Nat) (Z:j<v.l.length) q (hq:(qc S x q/\v.ok q)/\qb qm y L q)=>(GV.cells_at hq.1.2 Z).2;refine⟨⟨by omega,by omega⟩,(htp p hx).1,S[i].k,S[i].nm,S[i].al.1,S[i].al.2.1,S[i].al.2.2,S[i].it,S[i].sy.1,S[i].sy.2.1,S[i].sy.2.2,S[i].hd,S[i].df,S[i].sz,S[i].f.1,S[i].f.2.1,S[i].f.2.2,S[i].br.1,S[i].br.2.1,S[i].br.2.2,λq hq=>(htp q hq.1.1).2,λk14=> ?_,λk14=>⟨λk9=> ?_,λk9=>⟨⟨λh=>by unfold QW;exact qV (by omega),λh=>by unfold QW;exact qV (by omega)⟩,λkq=> ?_,λkq=> ?_⟩⟩⟩
 ·have hq:ql S[i].k=true:=by unfold ql;exact decide_eq_true (by omega)
  have J:=A;rw[H]at J;obtain⟨q1,q2,q3,q4,q5⟩:=IZ (Zv hs J hq).1;obtain⟨b0,b1,hl1⟩:=q4 k14;rw[GV.pvs_len]at hl1;have hks:=q1 (by omega);obtain⟨m,hbm⟩:=Int.eq_ofNat_of_zero_le b0;have hml:m<S[i].brs.length:=by omega
  have hba:=λq (hq:S[i].ok q)=>yV hq hml;have h0:0<v.l.length:=by omega
  have T:qj S[i] v.b 0=S[i].brs[m]:=by unfold qj;rw[if_neg (by omega),if_pos k14,hbm,Int.toNat_natCast,List.getD_eq_getElem?_getD,List.getElem?_eq_getElem hml];rfl
  have C:=hkid 0 h0 n hq (Int.le_refl _) hn1;rw[T]at C;have hpv:GV.pvs v.l=[v.l[0].pv]:=by apply List.ext_getElem (by rw[GV.pvs_len,hl1];rfl);intro j h1 h2;have:j=0:=(by simp at h2;exact h2);subst this;rw[Ud h0];rfl
  have hw0:=GV.wt_at h0;have hvz:=kp v.b (by omega) (by omega);simp only[hbm,Int.toNat_natCast]at hvz⊢;refine⟨(m:Int),rfl,⟨by omega,by omega⟩,⟨by omega,by omega⟩,(hba p (Y p hx)).1,S[i].brs[m],λq hq=>(hba q (Y q hq.1.1)).2,⟨by omega,by omega⟩,(GV.cells_at N h0).1,v.l[0].n,v.l[0].s,v.l[0].x.1,v.l[0].x.2.1,v.l[0].x.2.2,v.l[0].y.1,v.l[0].y.2.1,v.l[0].y.2.2,v.l[0].b,λq hq=>(GV.cells_at hq.1.2 h0).2,S[i].brs[m],λq hq=>(hba q (Y q hq.1.1)).2,rfl,v.l[0].n,v.l[0].s,v.l[0].x.1,v.l[0].x.2.1,v.l[0].x.2.2,v.l[0].y.1,v.l[0].y.2.1,v.l[0].y.2.2,v.l[0].b,λq hq=>(GV.cells_at hq.1.2 h0).2,rfl,⟨S,x,S[i].brs[m],v.l[0],y,L,n⟩,rfl,xs,rfl,rfl,rfl,rfl,rfl,rfl,rfl,rfl,rfl,rfl,rfl,rfl,rfl,rfl,rfl,C,X 0 h0,?_⟩;rintro⟨r,n'⟩ ⟨p1,p2,p3,p4⟩;have p2:r.size+20<=400*v.l[0].pv.wt:=p2;refine⟨by show(vz ((m:Nat):Int)).size+r.size<=_;omega,⟨vz ((m:Nat):Int)++r,n'⟩,rfl,rfl,rfl,rfl,rfl,?_,by show(vz ((m:Nat):Int)++r).size+20<=_;rw[qN];omega,p3,p4⟩;show PV.bl S i v.pv (vz ((m:Nat):Int)++r);rw[H,hpv,hks,hbm];rw[←hbm];exact j7d hs k14 (by rw[T];exact p1)
 ·have hq:ql S[i].k=true:=by unfold ql;exact decide_eq_true (by omega)
  have J:=A;rw[H]at J;obtain⟨q1,q2,q3,q4,q5⟩:=IZ (Zv hs J hq).1;have hl9:=q3 k9;rw[GV.pvs_len]at hl9;have hks:=q1 (by omega);refine⟨⟨⟨0,n,mkS []⟩,rfl,rfl,rfl,by omega,⟨Int.le_refl _,hn1⟩,[],by rw[List.take_zero,PV.blL],rfl,by rw[List.take_zero,PV.wts];exact Nat.le_refl _⟩,?_⟩;rintro⟨j,U,out⟩ ⟨r1,⟨r2,r3⟩,I,r4,r5,r6⟩;simp only at r1 r2 r3 r4 r5 r6⊢;refine⟨λhlt=> ?_,λhge=> ?_⟩
  ·have u:j<v.l.length:=(by omega);have hjf:j<S[i].fs.length:=(by omega);have hjp:j<(GV.pvs v.l).length:=(by rw[GV.pvs_len];exact u);have T:qj S[i] v.b j=S[i].fs[j].ty:=(by unfold qj;rw[if_pos k9,List.getElem?_eq_getElem hjf]);have C:=hkid j u U hq r2 r3;rw[T]at C;have hw0:=GV.wt_at u;have hwv:=GV.wt_eq v;have hfa:=λq (hq:S[i].ok q)=>vV hq hjf;have hws:=zr2 hjp;have hwt2:=WZ (GV.pvs v.l) (j+1);rw[Ud u hjp]at hws;refine⟨?xa,?xb⟩;case xa|xb=>
    refine⟨⟨by omega,by omega⟩,(hfa p (Y p hx)).1,S[i].fs[j].ty,λq hq=>jxh (Y q hq.1.1) hjf,⟨by omega,by omega⟩,(GV.cells_at N u).1,v.l[j].n,v.l[j].s,v.l[j].x.1,v.l[j].x.2.1,v.l[j].x.2.2,v.l[j].y.1,v.l[j].y.2.1,v.l[j].y.2.2,v.l[j].b,λq hq=>(GV.cells_at hq.1.2 u).2,⟨S,x,S[i].fs[j].ty,v.l[j],y,L,U⟩,rfl,xs,rfl,rfl,rfl,rfl,rfl,rfl,rfl,rfl,rfl,rfl,rfl,rfl,rfl,rfl,rfl,C,X j u,?_⟩;rintro⟨r,n'⟩ ⟨p1,p2,p3,p4⟩;have p1:PV.bl S S[i].fs[j].ty v.l[j].pv r:=p1;have p2:r.size+20<=400*v.l[j].pv.wt:=p2;have p3:U<=n':=p3;refine⟨by show out.size+r.size<=_;omega,⟨by omega,by omega⟩,⟨j+1,n',out++r⟩,by show((j+1:Nat):Int)=_;omega,rfl,rfl,rfl,rfl,rfl,⟨by show j+1<=_;omega,⟨Int.le_trans r2 p3,p4⟩,I++[r],?_,by rw[z71,r5],?_⟩,by show v.l.length- (j+1)<v.l.length- j;omega⟩
    ·have hlen:((GV.pvs v.l).take j).length=j:=(by rw[List.length_take];omega);have:=It (v:=v.l[j].pv) (c:=r) r4 (by rw[hlen,Nat.zero_add,T];exact p1);rw[JW,JX]at this;show PV.blL S (qj S[i] v.b) [] 0 ((GV.pvs v.l).take (j+1)) (I++[r]);rw[z9v hjp,Ud u hjp];exact this
    ·show(out++r).size<=_;rw[qN];show _<=400*PV.wts ((GV.pvs v.l).take (j+1));omega
  ·have Z:j=v.l.length:=(by omega);have ht:(GV.pvs v.l).take j=GV.pvs v.l:=List.take_of_length_le (by rw[GV.pvs_len];omega);rw[ht]at r4 r6;have hwv:=GV.wt_eq v;refine⟨⟨out,U⟩,rfl,rfl,?_,by show out.size+20<=_;omega,r2,r3⟩;show PV.bl S i v.pv out;rw[H,hks,r5];exact j7c hs k9 r4
 ·unfold QW at kq;have kq:=of_decide_eq_true kq;have hq:ql S[i].k=true:=by unfold ql;exact decide_eq_true (by omega)
  have J:=A;rw[H]at J;obtain⟨q1,q2,q3,q4,q5⟩:=IZ (Zv hs J hq).1;rw[GV.pvs_len]at q5;have hks:v.ks=[]\/v.ks.length=v.l.length:=by
   by_cases h:S[i].k=13
   ·exact .inr (q5 h).symm
   ·exact .inl (q1 h)
  have hso2:=hsn;rw[H]at hso2;obtain⟨_,_,_,_,hkz,_⟩:=Px hso2;have T:∀j,qj S[i] v.b j=S[i].it:=λj=>by unfold qj;rw[if_neg (by omega),if_neg (by omega)]
  have hwv:=GV.wt_eq v;refine⟨⟨⟨0,n,mkS []⟩,rfl,rfl,rfl,Nat.zero_le _,⟨Int.le_refl _,hn1⟩,[],by rw[List.take_zero,PV.blL],znj,Nat.zero_le _⟩,?_⟩;rintro⟨i0,U,out⟩ hO;have hO:u7 S S[i] v L n i0 U out:=hO;obtain⟨r1,⟨r2,r3⟩,I,r4,r5,r6⟩:=id hO;have hwtk:=WZ (GV.pvs v.l) i0;have hkzs:qx (v.ks.take i0)+qx (v.ks.drop i0)=qx v.ks:=by rw[←W2,List.take_append_drop]
  simp only at r1 r2 r3 r4 r5 r6⊢;refine⟨λhlt=> ?_,λhge=> ?_⟩
  ·have hm0:(0:Int)<(v.l.length:Nat)- (i0:Nat):=(by omega);obtain⟨u1,u2⟩:=ym (n:=U) hL hm0;obtain⟨u3,u4,_⟩:=yk r3;refine⟨⟨by omega,by omega⟩,L,⟨by omega,r3,by omega,by omega,hL⟩,λq hq=>hq.2,?_⟩;generalize qq L U ((v.l.length:Nat)- (i0:Nat))=w at*;obtain⟨w,rfl⟩:=Int.eq_ofNat_of_zero_le u1;generalize hn2:qg L U=n2 at*;have hc:(1:Int)+(w:Nat)=((w+1:Nat):Int):=(by omega);rw[hc];have hN0:u0 S S[i] v L n i0 ((w+1:Nat):Int) i0 n2 (mkS []):=⟨⟨Nat.le_refl _,by omega,by omega⟩,⟨Int.le_trans r2 u3,u4⟩,[],by rw[Nat.sub_self,List.take_zero,PV.blL],rfl,by rw[Nat.sub_self];exact Nat.zero_le _⟩;refine⟨⟨by omega,by omega⟩,⟨⟨i0,n2,mkS []⟩,rfl,rfl,rfl,hN0⟩,?_⟩;rintro⟨m,n3,cc⟩ hN;have hN:u0 S S[i] v L n i0 ((w+1:Nat):Int) m n3 cc:=hN;obtain⟨⟨s1,s2,s3⟩,⟨s4,s5⟩,K,s6,s7,s8⟩:=id hN;simp only at s1 s2 s3 s4 s5 s6 s7 s8⊢;have hNb:PV.wts (((GV.pvs v.l).drop i0).take (m- i0))<=PV.wts ((GV.pvs v.l).drop i0):=by have:=WZ ((GV.pvs v.l).drop i0) (m- i0);omega
   have hKb:qx ((v.ks.drop i0).take (m- i0))<=qx (v.ks.drop i0):=by have:qx ((v.ks.drop i0).take (m- i0))+qx ((v.ks.drop i0).drop (m- i0))=qx (v.ks.drop i0):=(by rw[←W2,List.take_append_drop]);omega
   refine⟨⟨by omega,by omega⟩,λhml=> ?_,λhmg=> ?_⟩
   ·have G:m<v.l.length:=(by omega);have C:=hkid m G n3 hq s4 s5;rw[T]at C;have hw0:=GV.wt_at G;refine⟨λk13=> ?_,λk13=> ?_⟩
    ·have hkl:=q5 k13;have hmk:m<v.ks.length:=(by omega);have hy3:=λq (hq:v.ok q)=>J7 (show qb qo v.y v.ks q by rw[GV.ok_eq]at hq;exact hq.2.1) hmk;have hk9:=hkz _ (List.getElem_mem hmk);have hkat:=zip hmk;have hvz:=kp (v.ks[m].size:Int) (by omega) (by omega);have hkB:qW v.ks m=vz (v.ks[m].size:Int)++v.ks[m]:=(by unfold qW;rw[List.getElem?_eq_getElem hmk]);refine⟨⟨by omega,by omega⟩,(hy3 p N).1,v.ks[m],λq hq=>(hy3 q hq.1.2).2,(v.ks[m].size:Int),rfl,⟨by omega,by omega⟩,by show cc.size+(vz (v.ks[m].size:Int)).size<=_;omega,⟨by omega,by omega⟩,(hy3 p N).1,v.ks[m],λq hq=>(hy3 q hq.1.2).2,by show(cc++vz (v.ks[m].size:Int)).size+v.ks[m].size<=_;rw[qN];omega,v.ks[m],λq hq=>(hy3 q hq.1.2).2,rfl,?xa,?xb⟩;case xa|xb=>
      refine⟨⟨by omega,by omega⟩,(GV.cells_at N G).1,v.l[m].n,v.l[m].s,v.l[m].x.1,v.l[m].x.2.1,v.l[m].x.2.2,v.l[m].y.1,v.l[m].y.2.1,v.l[m].y.2.2,v.l[m].b,λq hq=>(GV.cells_at hq.1.2 G).2,⟨S,x,S[i].it,v.l[m],y,L,n3⟩,rfl,xs,rfl,rfl,rfl,rfl,rfl,rfl,rfl,rfl,rfl,rfl,rfl,rfl,rfl,rfl,rfl,C,X m G,?_⟩;rintro⟨r,n'⟩ ⟨p1,p2,p3,p4⟩;have p1:PV.bl S S[i].it v.l[m].pv r:=p1;have p2:r.size+20<=400*v.l[m].pv.wt:=p2;have p3:n3<=n':=p3;have O:=zcp hN (by omega) G hks hkz p3 p4 p1 p2;have hcat:cc++(qW v.ks m++r)=cc++vz (v.ks[m].size:Int)++v.ks[m]++r:=(by rw[hkB,←ByteArray.append_assoc,←ByteArray.append_assoc]);rw[hcat]at O;refine⟨by show(cc++vz (v.ks[m].size:Int)++v.ks[m]).size+r.size<=_;rw[qN,qN];omega,⟨by omega,by omega⟩,⟨m+1,n',cc++vz (v.ks[m].size:Int)++v.ks[m]++r⟩,by show((m+1:Nat):Int)=_;omega,rfl,rfl,rfl,rfl,rfl,O,?_⟩;show((i0:Int)+((w+1:Nat):Int)- ((m+1:Nat):Int)).toNat<((i0:Int)+((w+1:Nat):Int)- ((m:Nat):Int)).toNat;omega
    ·have hke:=q1 k13;have hkB:qW v.ks m=mkS []:=(by rw[hke,JW]);refine⟨?xa,?xb⟩;case xa|xb=>
      refine⟨⟨by omega,by omega⟩,(GV.cells_at N G).1,v.l[m].n,v.l[m].s,v.l[m].x.1,v.l[m].x.2.1,v.l[m].x.2.2,v.l[m].y.1,v.l[m].y.2.1,v.l[m].y.2.2,v.l[m].b,λq hq=>(GV.cells_at hq.1.2 G).2,⟨S,x,S[i].it,v.l[m],y,L,n3⟩,rfl,xs,rfl,rfl,rfl,rfl,rfl,rfl,rfl,rfl,rfl,rfl,rfl,rfl,rfl,rfl,rfl,C,X m G,?_⟩;rintro⟨r,n'⟩ ⟨p1,p2,p3,p4⟩;have p1:PV.bl S S[i].it v.l[m].pv r:=p1;have p2:r.size+20<=400*v.l[m].pv.wt:=p2;have p3:n3<=n':=p3;have O:=zcp hN (by omega) G hks hkz p3 p4 p1 p2;rw[hkB,JX]at O;refine⟨by show cc.size+r.size<=_;omega,⟨by omega,by omega⟩,⟨m+1,n',cc++r⟩,by show((m+1:Nat):Int)=_;omega,rfl,rfl,rfl,rfl,rfl,O,?_⟩;show((i0:Int)+((w+1:Nat):Int)- ((m+1:Nat):Int)).toNat<((i0:Int)+((w+1:Nat):Int)- ((m:Nat):Int)).toNat;omega
   ·have hme:m=i0+(w+1):=(by omega);subst hme;obtain⟨u5,u6,_⟩:=yk s5;have hz1:=kp ((w+1:Nat):Int) (by omega) (by omega);have hz2:=kp (-((w+1:Nat):Int)) (by omega) (by omega);have hz3:=kp (cc.size:Int) (by omega) (by omega);refine⟨L,⟨by omega,s5,by decide,by decide,hL⟩,λq hq=>hq.2,λh0=> ?_,λh0=> ?_⟩
    ·exact j78 hO hN (by omega) (by omega) V (by omega) u6 (by omega) (by omega)
    ·have O:=zcq (n':=qg L n3) (hd:=vz ((w+1:Nat):Int)) hO hN (by omega) (by omega) u6 (.inl rfl) (by omega);refine⟨((w+1:Nat):Int),rfl,⟨by omega,by omega⟩,by show out.size+(vz ((w+1:Nat):Int)).size<=_;omega,by show(out++vz ((w+1:Nat):Int)).size+cc.size<=_;rw[qN];omega,⟨by omega,by omega⟩,⟨i0+(w+1),qg L n3,out++vz ((w+1:Nat):Int)++cc⟩,by show((i0+(w+1):Nat):Int)=_;omega,rfl,rfl,O,by show v.l.length- (i0+(w+1))<v.l.length- i0;omega⟩
  ·have Z:i0=v.l.length:=(by omega);have ht:(GV.pvs v.l).take i0=GV.pvs v.l:=List.take_of_length_le (by rw[GV.pvs_len];omega);have hkt:qx (v.ks.take i0)<=qx v.ks:=(by omega);rw[ht]at r4 r6;have hz0:=kp 0 (by decide) (by decide);refine⟨0,rfl,⟨by decide,by decide⟩,by show out.size+(vz 0).size<=_;omega,⟨out++vz 0,U⟩,rfl,rfl,?_,by show(out++vz 0).size+20<=_;rw[qN];omega,r2,r3⟩;show PV.bl S i v.pv (out++vz 0);rw[H];exact j7a hs kq r4 (znh r5)
 ·have hnq:ql S[i].k=false:=by unfold QW at kq;have kq:=of_decide_eq_false kq;unfold ql;exact decide_eq_false (by omega)
  have hsz5:=zz4 hs hnq hsh;have hE:zb S ((i:Nat):Int) v.pv=(0,PV.fb S i v.pv):=by rw[Hx (by omega) A,if_pos hsz5]
  refine⟨⟨S,x,(i:Nat),v⟩,rfl,xs,rfl,rfl,rfl,rfl,rfl,xl,rfl,rfl,yl,rfl,rfl,⟨⟨hok.1,hok.2.1,hsn.sz,hwt⟩,by show ql (qd S ((i:Nat):Int)).k=false/\_;rw[hat];exact⟨hnq,C⟩⟩,λq hq=>hq.1,?_⟩;rintro a n8 c ⟨p8,hp8⟩;have e8:n8=(zb S ((i:Nat):Int) v.pv).2.size:=hp8.2.1;rw[hE]at e8;refine⟨PV.fb S i v.pv,e8.symm,λq hq=> ?_,⟨PV.fb S i v.pv,n⟩,rfl,rfl,zwp hs hnq,?_,Int.le_refl _,hn1⟩
  ·have h2:=hq.2.2.2;have h2:qfu q a (q11 (zb S ((i:Nat):Int) v.pv).2):=h2;rw[hE]at h2;exact h2
  ·have:=zw8 v.pv;show(PV.fb S i v.pv).size+20<=_;omega
def zuv(he:q4a P 26 VY):∀k,q1i P 11 (Z6.below ZZ k)
 |0=>CtR.below_zero (by decide) (by decide) (Sen.enters_of Tryz.func11 (by kernel_rfl)) λs=>rfl
 |k+1=>ji0 k he (zuv he k)
def j76(he:q4a P 26 VY):q1i P 11 Z6:=CtR.of_below (zuv he)
end
section
variable (p:Int) (i j:SV) (u v W:Int) (g:AT) (o:List AT) (m:O6) (H:Nat) (c:Nat×Int×Int×Int×List GV) (a:ze) (d:Nat×Int×Int×Int×Int×List GV) (e:Nat×Nat×Int×Int×Int×List GV) (l:vj) (q:zp) (G:Prop) (B:Nat->Option Obj) (M:ze) (O:Nat×Int×Int×Int×List GV) (E:(Option Addr×Nat×Nat)×(Option Addr×Nat×Nat)×Int×Int×Int×Int) (Q:Nat×Nat×Int×Int×Int×List GV) (U:Option Addr)
 abbrev Kz:=True/\qc o i B/\AT.ok g B/\j.2.1=size m/\qfv B j.1 j.2.1 j.2.2 (q11 m)
 def uP:=i.1=i.1/\i.2.1=i.2.1/\i.2.2=i.2.2/\G
 def Ky:=AT.k g=AT.k g/\AT.nm g=AT.nm g/\(AT.al g).1=(AT.al g).1/\(AT.al g).2.1=(AT.al g).2.1/\(AT.al g).2.2=(AT.al g).2.2/\AT.it g=AT.it g/\(AT.sy g).1=(AT.sy g).1/\(AT.sy g).2.1=(AT.sy g).2.1/\(AT.sy g).2.2=(AT.sy g).2.2/\AT.hd g=AT.hd g/\AT.df g=AT.df g/\AT.sz g=AT.sz g/\(AT.f g).1=(AT.f g).1/\(AT.f g).2.1=(AT.f g).2.1/\(AT.f g).2.2=(AT.f g).2.2/\(AT.br g).1=(AT.br g).1/\(AT.br g).2.1=(AT.br g).2.1/\(AT.br g).2.2=(AT.br g).2.2/\G
 def ve:=(Kz i j g o m B)/\GV.oks c.2.2.2.2 B
 def DJ:=a.1.1=i.1/\a.1.2.1=i.2.1/\a.1.2.2=i.2.2/\a.2.1.1=j.1/\a.2.1.2.1=j.2.1/\a.2.1.2.2=j.2.2/\G
 def MP:=a.2.1.2.1=size a.2.2.1/\qfv B a.2.1.1 a.2.1.2.1 a.2.1.2.2 (q11 a.2.2.1)
 abbrev j7:=qL a.2.2.1 a.2.2.2.1 a.2.2.2.2.2
 def U3:=length c.2.2.2.2<=H/\qfu B U (take (length c.2.2.2.2*nat_lit 5) (qa GV.cells c.2.2.2.2))
 def DI:=GV.n q.1=0/\GV.s q.1=mkS []/\(GV.x q.1).1=U/\(GV.x q.1).2.1=length c.2.2.2.2/\(GV.x q.1).2.2=H/\(GV.y q.1).1=noA/\(GV.y q.1).2.1=0/\(GV.y q.1).2.2=0/\GV.b q.1=0/\G
 def MS:=i.1=a.1.1/\i.2.1=a.1.2.1/\i.2.2=a.1.2.2/\j.1=a.2.1.1/\j.2.1=a.2.1.2.1/\j.2.2=a.2.1.2.2/\G
 def DD:=∀(h r A:Nat) (C:Option Addr) (V N:Nat),(∃i6,(ve i j g o m c i6)/\U3 N c i6 C)->∃(S:zp),DI N c S (MS i j a (S.2.1=(j7 a).2.1/\S.2.2.1=a.2.2.2.2.1/\S.2.2.2=(j7 a).2.2/\j1 (wq (zk o m p) m g (toNat u) (toNat v)) m u v 0 S/\(∀i8,(ve i j g o m c i8)/\U3 N c i8 C->GV.ok S.1 i8)/\True)) C
 def MQ:=E.2.2.2.2.2=2/\E.1.1=a.1.1/\E.1.2.1=a.1.2.1/\E.1.2.2=a.1.2.2/\E.2.1.1=a.2.1.1/\E.2.1.2.1=a.2.1.2.1/\E.2.1.2.2=a.2.1.2.2/\G
 def DL:=E.2.2.1=(j7 a).2.1/\E.2.2.2.1=a.2.2.2.2.1/\E.2.2.2.2.1=(j7 a).2.2/\True/\G
 def MO:=Ky g (length d.2.2.2.2.2=length c.2.2.2.2/\qa GV.cells d.2.2.2.2.2=qa GV.cells c.2.2.2.2/\(∀h,ve i j g o m c h->ve i j g o m c h)/\(∀r,ve i j g o m c r->GV.oks d.2.2.2.2.2 r)/\JL o g p m u v d.1 d.2.1 d.2.2.1 d.2.2.2.1 a.2.2.2.2.1 d.2.2.2.2.1 ([],GV.pvs d.2.2.2.2.2)/\True)
 abbrev DB:=qC a.2.2.1 a.2.2.2.1/\(∀h,ve i j g o m c h->MP a h)/\Ji ((j7 a).1<0) (∃(r:(Option Addr×Nat×Nat)×(Option Addr×Nat×Nat)×Int×Int×Int×Int),MQ a (DL a (∃(A:Nat×Int×Int×Int×Int×List GV),A.2.2.1=(j7 a).1/\p=p/\A.2.1=u/\i.1=r.1.1/\i.2.1=r.1.2.1/\i.2.2=r.1.2.2/\j.1=r.2.1.1/\j.2.1=r.2.1.2.1/\j.2.2=r.2.1.2.2/\A.2.2.2.1=r.2.2.1/\M.2.2.2.2.1=r.2.2.2.1/\(A.2.2.2.2.1=if r.2.2.2.2.1=0 then r.2.2.2.2.2 else r.2.2.2.2.1)/\MO p i j v W g o m c M A) r) r) (∃(N:Nat×Int×Int×Int×Int×List GV),N.2.2.1=(j7 a).1/\p=p/\N.2.1=u/\MS i j a (N.2.2.2.1=(j7 a).2.1/\M.2.2.2.2.1=a.2.2.2.2.1/\N.2.2.2.2.1=(j7 a).2.2/\MO p i j v W g o m c M N))
 abbrev DN:=VS o g p m u v e.1 a.2.2.2.2.1 d.2.1 d.2.2.1 d.2.2.2.1 e.2.1 e.2.2.1 e.2.2.2.1 e.2.2.2.2.1 ([],GV.pvs e.2.2.2.2.2)
 def xN:=((ve i j g o m c B)/\GV.oks d.2.2.2.2.2 B)/\GV.oks e.2.2.2.2.2 B
 abbrev MU:=Jb (p+1)
 def cB:=qc l.1 l.2.1.1 B/\l.2.1.2.1.2.1=size l.2.1.2.2.1/\qfv B l.2.1.2.1.1 l.2.1.2.1.2.1 l.2.1.2.1.2.2 (q11 l.2.1.2.2.1)
 def DE:=(v8 l<H/\kg l.1/\qC l.2.1.2.2.1 l.2.1.2.2.2.1/\(0<=l.2.1.2.2.2.2.1/\l.2.1.2.2.2.2.1<=2000)/\0<=l.2.1.2.2.2.2.2/\(0<=l.2.2.1/\l.2.2.1<(↑(length l.1):Int))/\1<=l.2.2.2/\l.2.2.2<=21)/\(∀h,xN i j g o m c d e h->cB l h)/\G
 abbrev DK:=jB l.1 l.2.1.2.2.1 (toNat ((21:Int)- l.2.2.2)) l.2.2.1 (toNat l.2.1.2.2.2.1) (toNat l.2.1.2.2.2.2.1)
 abbrev DM:=Jb ((↑e.2.1:Int)+1)
 def DG:=(↑e.2.1:Int)=(↑Q.2.1:Int)+1/\d.2.2.1=d.2.2.1/\p=p/\d.2.1=d.2.1/\d.2.2.2.1=d.2.2.2.1/\i.1=l.2.1.1.1/\i.2.1=l.2.1.1.2.1/\i.2.2=l.2.1.1.2.2/\j.1=l.2.1.2.1.1/\j.2.1=l.2.1.2.1.2.1/\j.2.2=l.2.1.2.1.2.2/\e.2.2.1=q.2.1/\e.2.2.2.1=q.2.2.1/\e.2.2.2.2.1=q.2.2.2/\G
 def DF:=(∀h,(xN i j g o m c d e h)/\GV.ok q.1 h->(ve i j g o m c h)/\GV.oks d.2.2.2.2.2 h)/\(∀r,(xN i j g o m c d e r)/\GV.ok q.1 r->GV.oks Q.2.2.2.2.2 r)/\DN p u v g o m a d Q/\toNat d.2.1- Q.2.1<toNat d.2.1- e.2.1/\True
 def ct:=length (qa GV.cells e.2.2.2.2.2)=length e.2.2.2.2.2*5/\(length e.2.2.2.2.2+nat_lit 1)*80<=140737488355328/\DM e/\∃(h:Nat×Nat×Int×Int×Int×List GV),DG p i j d h l q (Ky g (length h.2.2.2.2.2=length e.2.2.2.2.2+nat_lit 1/\qa GV.cells h.2.2.2.2.2=qa GV.cells e.2.2.2.2.2++[int u64 (GV.n q.1),string (GV.s q.1),slice (GV.x q.1).1 (GV.x q.1).2.1 (GV.x q.1).2.2,slice (GV.y q.1).1 (GV.y q.1).2.1 (GV.y q.1).2.2,int i64 (GV.b q.1)]/\DF p i j u v g o m c a d e q h)) e
 def MN:=MU p/\∃(h:vj),h.2.2.1=AT.it g/\h.2.2.2=p+1/\h.2.1.1.1=i.1/\h.2.1.1.2.1=i.2.1/\h.2.1.1.2.2=i.2.2/\h.2.1.2.1.1=j.1/\h.2.1.2.1.2.1=j.2.1/\h.2.1.2.1.2.2=j.2.2/\h.2.1.2.2.2.1=e.2.2.1/\h.2.1.2.2.2.2.1=e.2.2.2.1/\h.2.1.2.2.2.2.2=e.2.2.2.2.1/\DE i j g o m H c d e h (∀(A:zp),j1 (DK h) h.2.1.2.2.1 h.2.1.2.2.2.1 (h.2.1.2.2.2.2.1+1) h.2.1.2.2.2.2.2 A->(∃C,(xN i j g o m c d e C)/\GV.ok A.1 C)->ct p i j u v g o m c a d e h A)
 def ph:=(MN p i j u v g o m H c a d e)/\(MN p i j u v g o m H c a d e)/\MN p i j u v g o m H c a d e
 abbrev xO:=kF a.2.2.1 a.2.2.2.1 a.2.2.2.2.2
 def cA:=DM e/\∃(h:Nat×Nat×Int×Int×Int×List GV),DG p i j d h l q (Ky g (length h.2.2.2.2.2=length e.2.2.2.2.2/\qa GV.cells h.2.2.2.2.2=qa GV.cells e.2.2.2.2.2/\DF p i j u v g o m c a d e q h)) e
 def cu:=Ji (q.2.2.2=0) (∃(h:GV×O6×GV),GV.n h.1=0/\GV.s h.1=mkS []/\False) (cA p i j u v g o m c a d e l q)
 def DH:=DE i j g o m H c d e l (∀(h:zp),j1 (DK l) l.2.1.2.2.1 l.2.1.2.2.2.1 (l.2.1.2.2.2.2.1+1) l.2.1.2.2.2.2.2 h->(∃r,(xN i j g o m c d e r)/\GV.ok h.1 r)->cu p i j u v g o m c a d e l h)
 def cz:=MU p/\∃(h:vj),h.2.2.1=AT.it g/\h.2.2.2=p+1/\h.2.1.1.1=a.1.1/\h.2.1.1.2.1=a.1.2.1/\h.2.1.1.2.2=a.1.2.2/\h.2.1.2.1.1=a.2.1.1/\h.2.1.2.1.2.1=a.2.1.2.1/\h.2.1.2.1.2.2=a.2.1.2.2/\h.2.1.2.2.2.1=(xO a).2.1/\h.2.1.2.2.2.2.1=a.2.2.2.2.1/\h.2.1.2.2.2.2.2=(xO a).2.2/\DH p i j u v g o m H c M d e h
 abbrev pg:=Ji (AT.k g=12) (ph p i j u v g o m H c a d e) (∃(w:ze),DJ i j w (w.2.2.2.1=e.2.2.1/\w.2.2.2.2.1=e.2.2.2.1/\w.2.2.2.2.2=e.2.2.2.2.1/\qC w.2.2.1 w.2.2.2.1/\(∀T,xN i j g o m c d e T->MP w T)/\(xO w).1=(xO w).1/\size (xO w).1<9223372036854775808/\((!qz (xO w).1)=true->∃(t:(Option Addr×Nat×Nat)×(Option Addr×Nat×Nat)×Int×Int×Int×Int),MQ w (t.2.2.1=(xO w).2.1/\t.2.2.2.1=w.2.2.2.2.1/\t.2.2.2.2.1=(xO w).2.2/\True/\MU p/\∃(z:vj),z.2.2.1=AT.it g/\z.2.2.2=p+1/\z.2.1.1.1=t.1.1/\z.2.1.1.2.1=t.1.2.1/\z.2.1.1.2.2=t.1.2.2/\z.2.1.2.1.1=t.2.1.1/\z.2.1.2.1.2.1=t.2.1.2.1/\z.2.1.2.1.2.2=t.2.1.2.2/\z.2.1.2.2.2.1=t.2.2.1/\z.2.1.2.2.2.2.1=t.2.2.2.1/\(z.2.1.2.2.2.2.2=if t.2.2.2.2.1=0 then t.2.2.2.2.2 else t.2.2.2.2.1)/\DH p i j u v g o m H c a d e z) t)/\((!qz (xO w).1)=false->cz p i j u v g o m H c w d e a)))
 abbrev DC:=Ky g (length c.2.2.2.2=length e.2.2.2.2.2/\qa GV.cells c.2.2.2.2=qa GV.cells e.2.2.2.2.2/\(∀h,xN i j g o m O d e h->Kz i j g o m h)/\(∀r,xN i j g o m O d e r->GV.oks c.2.2.2.2 r)/\Zq o g p m u v c.1 c.2.1 c.2.2.1 c.2.2.2.1 ([],GV.pvs c.2.2.2.2)/\(((2:Nat)*toNat ((2001:Int)- c.2.2.1)+if c.2.2.2.1=0 then 1 else 0)<2*toNat ((2001:Int)- O.2.2.1)+if O.2.2.2.1=0 then 1 else 0)/\True)
 def MT:=∃(h:Nat×Int×Int×Int×List GV),p=p/\uP i (uP j (h.2.1=e.2.2.1/\h.2.2.1=e.2.2.2.1/\h.2.2.2.1=e.2.2.2.2.1/\DC p i j u v g o m h d e c))
 def cy:=Jb (e.2.2.1- d.2.2.2.1)/\((!decide (e.2.2.1- d.2.2.2.1=d.2.2.1))=true->∃(h:Nat×Int×Int×Int×List GV),p=p/\uP i (uP j (h.2.1=e.2.2.1/\h.2.2.1=e.2.2.2.1/\h.2.2.2.1=2/\DC p i j u v g o m h d e c)))/\((!decide (e.2.2.1- d.2.2.2.1=d.2.2.1))=false->MT p i j u v g o m c d e)
 def cx:=Ji (0<=d.2.2.1) (cy p i j u v g o m c d e) (MT p i j u v g o m c d e)
 def AH:=Ji (e.2.2.2.2.1=0) (cx p i j u v g o m c d e) (MT p i j u v g o m c d e)
 def pd:=Ji (e.2.2.2.2.1=0) (pg p i j u v g o m H c a d e) (AH p i j u v g o m c d e)
 def pc:=Ji ((↑e.2.1:Int)<d.2.1) (pd p i j u v g o m H c a d e) (AH p i j u v g o m c d e)
 def pa:=(∃(h:Nat×Nat×Int×Int×Int×List GV),(↑h.2.1:Int)=0/\d.2.2.1=d.2.2.1/\p=p/\d.2.1=d.2.1/\d.2.2.2.1=d.2.2.2.1/\uP i (uP j (h.2.2.1=d.2.2.2.1/\h.2.2.2.1=a.2.2.2.2.1/\h.2.2.2.2.1=d.2.2.2.2.1/\Ky g (length h.2.2.2.2.2=length d.2.2.2.2.2/\qa GV.cells h.2.2.2.2.2=qa GV.cells d.2.2.2.2.2/\(∀r,(ve i j g o m c r)/\GV.oks d.2.2.2.2.2 r->(ve i j g o m c r)/\GV.oks d.2.2.2.2.2 r)/\(∀A,(ve i j g o m c A)/\GV.oks d.2.2.2.2.2 A->GV.oks h.2.2.2.2.2 A)/\DN p u v g o m a d h/\True))))/\∀(C:Nat×Nat×Int×Int×Int×List GV),VS o g p m u v C.1 a.2.2.2.2.1 d.2.1 d.2.2.1 d.2.2.2.1 C.2.1 C.2.2.1 C.2.2.2.1 C.2.2.2.2.1 ([],GV.pvs C.2.2.2.2.2)->(∃V,xN i j g o m c d C V)->pc p i j u v g o m H c a d C
 abbrev o_:=(Ji ((j7 a).1<0) (∃(h:Int),h=IntKind.wrap i64 ((0:Int)- (j7 a).1)/\Ji (h<0) (∃(r:(Option Addr×Nat×Nat)×(Option Addr×Nat×Nat)×Int×Int×Int×Int),MQ a (DL a (∃(A:ze),A.1.1=r.1.1/\A.1.2.1=r.1.2.1/\A.1.2.2=r.1.2.2/\A.2.1.1=r.2.1.1/\A.2.1.2.1=r.2.1.2.1/\A.2.1.2.2=r.2.1.2.2/\A.2.2.2.1=r.2.2.1/\A.2.2.2.2.1=r.2.2.2.1/\(A.2.2.2.2.2=if r.2.2.2.2.1=0 then r.2.2.2.2.2 else r.2.2.2.2.1)/\DB p i j h u v g o m c A a) r) r) (∃(D:ze),D.1.1=a.1.1/\D.1.2.1=a.1.2.1/\D.1.2.2=a.1.2.2/\D.2.1.1=a.2.1.1/\D.2.1.2.1=a.2.1.2.1/\D.2.1.2.2=a.2.1.2.2/\D.2.2.2.1=(j7 a).2.1/\D.2.2.2.2.1=a.2.2.2.2.1/\D.2.2.2.2.2=(j7 a).2.2/\DB p i j h u v g o m c D a)) (∃(L:Nat×Int×Int×Int×Int×List GV),L.2.2.1= -1/\p=p/\L.2.1=(j7 a).1/\MS i j a (L.2.2.2.1=(j7 a).2.1/\a.2.2.2.2.1=a.2.2.2.2.1/\L.2.2.2.2.1=(j7 a).2.2/\MO p i j u v g o m c a L)))/\∀(t:Nat×Int×Int×Int×Int×List GV),JL o g p m u v t.1 t.2.1 t.2.2.1 t.2.2.2.1 a.2.2.2.2.1 t.2.2.2.2.1 ([],GV.pvs t.2.2.2.2.2)->(∃z,(ve i j g o m c z)/\GV.oks t.2.2.2.2.2 z)->pa p i j u v g o m H c a t
 def o9:=Ji ((j7 a).1=0) (DD p i j u v g o m c a) (o_ p i j u v g o m H c a)
 def o8:=Ji (c.2.2.2.1=0) (∃(h:ze),DJ i j h (h.2.2.2.1=c.2.1/\h.2.2.2.2.1=c.2.2.1/\h.2.2.2.2.2=c.2.2.2.1/\qC h.2.2.1 h.2.2.2.1/\(∀r,ve i j g o m c r->MP h r)/\((!decide ((j7 h).2.2=0))=true->DD p i j u v g o m c h)/\((!decide ((j7 h).2.2=0))=false->o9 p i j u v g o m H c h))) (∀(X Y Z:Nat) (I:Option Addr) (i118 J:Nat),(∃R,(ve i j g o m c R)/\U3 J c R I)->∃(F:zp),DI J c F (uP i (uP j (F.2.1=c.2.1/\F.2.2.1=c.2.2.1/\F.2.2.2=c.2.2.2.1/\j1 (wq (zk o m p) m g (toNat u) (toNat v)) m u v 0 F/\(∀K,(ve i j g o m c K)/\U3 J c K I->GV.ok F.1 K)/\True))) I)
 def o7:=(∃(h:Nat×Int×Int×Int×List GV),p=p/\uP i (uP j (h.2.1=u/\h.2.2.1=v/\h.2.2.2.1=W/\Ky g (length h.2.2.2.2=0/\(∀r,Kz i j g o m r->Kz i j g o m r)/\(∀A,Kz i j g o m A->GV.oks h.2.2.2.2 A)/\Zq o g p m u v h.1 h.2.1 h.2.2.1 h.2.2.2.1 ([],GV.pvs h.2.2.2.2)/\True))))/\∀(C:Nat×Int×Int×Int×List GV),Zq o g p m u v C.1 C.2.1 C.2.2.1 C.2.2.2.1 ([],GV.pvs C.2.2.2.2)->(∃V,ve i j g o m C V)->o8 p i j u v g o m H C
end
def zyt(c:Nat) (S:List AT) (x y:SV) (D:O6) (n all e:Int) (a:AT) (h:Int):qiy P (qef [(55,Zy),(57,J0),(58,W_),(59,wW)]) (qff [(31,wv.below v8 c),(24,QV)]) Tryz.f62 ((Z7 EI).below xU (c+1)) (G1 true) ⟨S,⟨x,y,D,n,all,e⟩,a,h⟩=(xU (S,(x,y,D,n,all,e),a,h)<c+1/\kg S/\a∈S/\EI a/\qC D n/\(0<=all/\all<=2000)/\e=0/\1<=h/\h<=20->(∃(p:Pub),Kz x y a S D p)->o7 h x y n all e a S D c):=by kernel_rfl
def j8a:=λc S x y D n all e a h=>Eq.trans (zyt c S x y D n all e a h) (by delta Ji Jb Jt Jf Kz uP Ky ve DJ MP j7 U3 DI MS DD MQ DL MO DB DN xN MU cB DE DK DM DG DF ct MN ph xO cA cu DH cz pg DC MT cy cx AH pd pc pa o_ o9 o8 o7;exact rfl)
section
def K4(g:Nat->Nat->z') (D:O6) (mp:Bool) (F h:Nat) (sz:Int) (r:kW×Nat×Nat):Xq:=if uj h sz r.2.1=true then .no 1 else vk g D mp F r.1 r.2.1 r.2.2
variable {g:Nat->Nat->z'} {D:O6} {mp:Bool} {st:kW}
def Pf{F n c:Nat} {C:Xq} (N:n<=D.size) (U:D.size<F+n) (h:vk g D mp F st n c=C):
  ((qi D n).2.1≠0->C= .no ((qi D n).2.1- 1))/\((qi D n).2.1=0->(qi D n).1=0->C= .ok (st,(qi D n).2.2,c))/\
  ((qi D n).2.1=0->0<(qi D n).1->∃A,D.size<A+(qi D n).2.2/\(j9 g D mp (qi D n).1.toNat st (qi D n).2.2 c).bind (K4 g D mp A (qi D n).2.2 (-1))=C)/\
  ((qi D n).2.1=0->(qi D n).1= -9223372036854775808->C= .no 1)/\
  ((qi D n).2.1=0->(qi D n).1<0->(qi D n).1≠ -9223372036854775808->((qi D (qi D n).2.2).2.1≠0->C= .no ((qi D (qi D n).2.2).2.1- 1))/\((qi D (qi D n).2.2).2.1=0->(qi D (qi D n).2.2).1<0->C= .no 1)/\
   ((qi D (qi D n).2.2).2.1=0->0<=(qi D (qi D n).2.2).1->∃A,D.size<A+(qi D (qi D n).2.2).2.2/\(j9 g D mp (-(qi D n).1).toNat st (qi D (qi D n).2.2).2.2 c).bind (K4 g D mp A (qi D (qi D n).2.2).2.2 (qi D (qi D n).2.2).1)=C)):=by
 have f1:=Zu D n N;have f2:=Zu D (qi D n).2.2 f1.2.2.2.2.1;obtain⟨A,rfl⟩:∃A,F=A+1:=⟨F- 1,by omega⟩;rw[vk]at h;unfold YZ yH at h;generalize qi D n=T at*;obtain⟨v,e,O⟩:=T;simp only at f1 f2 h⊢;refine⟨λhe=> ?_,λhe H=> ?_,λhe H=> ?_,λhe H=> ?_,λhe H G=>⟨λu=> ?_,λu J=> ?_,λu J=> ?_⟩⟩
 ·rw[if_neg he,vX,vX]at h;exact h.symm
 ·rw[if_pos he,qR]at h;simp only at h;rw[if_pos (show 0<=v by omega),qR]at h;simp only at h;rw[if_pos H]at h;exact h.symm
 ·rw[if_pos he,qR]at h;simp only at h;rw[if_pos (show 0<=v by omega),qR]at h;simp only at h;rw[if_neg (show¬v=0 by omega)]at h;exact⟨A,by omega,h⟩
 ·rw[if_pos he,qR]at h;simp only at h;rw[if_neg (show¬0<=v by omega),if_pos H,vX]at h;exact h.symm
 ·rw[if_pos he,qR]at h;simp only at h;rw[if_neg (show¬0<=v by omega),if_neg G,if_neg u,vX,vX]at h;exact h.symm
 ·rw[if_pos he,qR]at h;simp only at h;rw[if_neg (show¬0<=v by omega),if_neg G,if_pos u,qR]at h;simp only at h;rw[if_pos J,vX]at h;exact h.symm
 ·rw[if_pos he,qR]at h;simp only at h;rw[if_neg (show¬0<=v by omega),if_neg G,if_pos u,qR]at h;simp only at h;rw[if_neg (show¬(qi D O).1<0 by omega),qR]at h;simp only at h;rw[if_neg (show¬ -v=0 by omega)]at h;exact⟨A,by omega,h⟩
def zva{α:Type} {k n c:Nat} {K:kW×Nat×Nat->Rs α} (h:0<k):(j9 g D mp k st n c).bind K=(K_ g D mp st n c).bind λr=>(j9 g D mp (k- 1) r.1 r.2.1 r.2.2).bind K:=by obtain⟨j,rfl⟩:∃j,k=j+1:=⟨k- 1,by omega⟩;rw[j9,Lj];rfl
def Hk:IntKind.wrap .i64 (0 - -9223372036854775808)= -9223372036854775808:=by decide
end
section
variable {α:Type} {q:Prop}
def yn{u:Rs α} {e:Int} {k:Nat} (h:u= .no k) (he:e=k+1):vu u e q:= .inr ⟨k,he,h⟩
def xB{u:Rs α} {e:Int} (he:e=0) (h:q):vu u e q:= .inl ⟨he,h⟩
variable {D:O6}
def zvk{S:List AT} {a:AT} {A:Int} {n all:Int} {r:GV} {n' u C:Int} (st:kW) (hr:r.pv= .mk 0 (mkS []) st.2 st.1 0) (G:qC D n') (H:all<=u) (J:u<=2001) (N:C=0->u<=2000) (T:0<=all) (O:n<=n') (h:vu (zW S a A D n all) C (zW S a A D n all= .ok (st,n'.toNat,u.toNat))):j1 (wq (zk S D A) D a n.toNat all.toNat) D n all 0 (r,n',u,C):=by
 refine⟨?_,G,⟨H,J⟩,N,O⟩;rw[if_pos rfl];show YP ((zW S a A D n all).bind _) _ _ _ _;rcases h with⟨rfl,h⟩|⟨k,rfl,h⟩
 ·rw[h,qR];have:=G.1;exact⟨rfl,hr,by show n'=((n'.toNat:Nat):Int);omega,by show u=((u.toNat:Nat):Int);omega⟩
 ·rw[h,vX];rfl
structure HdR(D:O6) (n:Int) (v n1 e:Int):Prop where
 ok:qC D n1
 le:n<=n1
 up:e=0->n<n1
 lo: -9223372036854775808<=v
 hi:v<9223372036854775808
 en:0<=e
def Lg{n:Int} (h:qC D n):HdR D n (qi D n.toNat).1 ((qi D n.toNat).2.2:Nat) ((qi D n.toNat).2.1:Nat):=by have f:=Zu D n.toNat (by have:=h.1;have:=h.2.1;omega);exact⟨⟨by omega,by omega,h.2.2⟩,by have:=h.1;omega,λhe=>by have:=h.1;omega,f.1,f.2.1,by omega⟩
def Pt{v:Int} (u: -9223372036854775808<=v) (h:v≠ -9223372036854775808): -v<=9223372036854775807:=by omega
def Pm{d f n:Nat} (h:d<f+n):(d:Int)<(f:Int)+((n:Nat):Int):=by omega
def Lh{e:Nat} (h:e≠0):((e:Nat):Int)=((e- 1:Nat):Int)+1:=by omega
set_option maxHeartbeats 1000000 in
def j8b (c:Nat) (hv0:q1i P 31 (wv.below v8 c)):q1i P 62 ((Z7 EI).below xU (c+1)):=by
 refine zI (qbu (qfr VZ (qfr W3 (qfr IG (qfr G9 qil))))) (qcl (qfq hv0 (qfq Ya qik))) (W:=G1 true) Tryz.func62 λ⟨S,⟨(x:SV),(y:SV),D,(n:Int),(all:Int),(e:Int)⟩,a,(G:Int)⟩=>(j8a c S x y D n all e a G).mpr ?_;rintro⟨hmu,hok,haS,hk,hd,⟨ha0,ha1⟩,he,hp1,hp2⟩ ⟨p,_,hx,hao,hyl,hy⟩;subst he;have hmu:(25- G).toNat<c+1:=hmu;have hk:a.k=12:=hk;have O:decide (a.k=13)=false:=decide_eq_false (by omega);have hit:=(hok.2.2 a haS).2.2.1 (.inl hk);simp only[qy,exists_const,forall_const,Int.toNat_natCast,hk];refine⟨⟨⟨D.size+1- n.toNat,n,all,0,[]⟩,rfl,rfl,rfl,rfl,λq _=>GV.oks_iff.2 λw hw=>(by cases hw),⟨⟨hd,Int.le_refl _⟩,⟨Int.le_refl _,by show all<=2001;omega⟩,λ_=>ha1,by show((0:Nat):Int)<=all;omega⟩,(by have:=hd.1;have:=hd.2.1;show(D.size:Int)<((D.size+1- n.toNat:Nat):Int)+n;omega), .inl ⟨rfl,rfl⟩⟩,?_⟩;rintro⟨F,n1,u,e1,fs⟩ ⟨⟨⟨c1,c0⟩,⟨c2,c3⟩,c4,c5⟩,cF,cT⟩ ⟨p1,hp1',hfs⟩;simp only at c0 c1 c2 c3 c4 c5 cF cT hfs⊢;have c5:(fs.length:Int)<=u:=by rw[GV.pvs_len]at c5;exact c5
 have ret:∀(a6:Option Addr) (cc:Nat) (n' C X:Int),qC D n'->n<=n'->all<=C->C<=2001->(X=0->C<=2000)->vu (zW S a G D n all) X (zW S a G D n all= .ok (([],GV.pvs fs),n'.toNat,C.toNat))->j1 (wq (zk S D G) D a n.toNat all.toNat) D n all 0 (.mk 0 (mkS []) (a6,fs.length,cc) fs (none,0,0) [] 0,n',C,X):=λa6 cc n' C X h1 hn h2 h3 h4 h5=>zvk ([],GV.pvs fs) (by rw[GV.pv]) h1 h2 h3 h4 ha0 hn h5;refine⟨λhz=> ?_,λhnz=> ?_⟩
 ·subst hz;have hB:vk (zk S D G a.it) D false F ([],GV.pvs fs) n1.toNat u.toNat=zW S a G D n all:=by
   rcases cT with⟨_,q⟩|⟨k,q,_⟩
   ·rw[O]at q;exact q
   ·omega
  have c4':=c4 rfl;have hh:=Pf (show n1.toNat<=D.size by have:=c1.1;have:=c1.2.1;omega) (show D.size<F+n1.toNat by have:=c1.1;omega) hB;have hl:=Lg c1;refine⟨⟨x,y,D,n1,u,0⟩,rfl,rfl,rfl,rfl,rfl,rfl,rfl,rfl,rfl,c1,λq hq=>hq.1.2.2,?_⟩;simp only[J6 c1,true_and,and_true,eq_self];have hl2:=Lg hl.ok;have hg2:=J6 hl.ok;rw[Int.toNat_natCast]at hl2 hg2;generalize qi D n1.toNat=T at*;obtain⟨v,er,n2⟩:=T;simp only at hh hl hl2 hg2⊢;obtain⟨l1,l0,l2,l3,l4,l5⟩:=hl;obtain⟨m1,m0,m2,m3,m4,m5⟩:=hl2;refine⟨λhe a6 cc _=> ?_,λhe=>⟨λhv a6 cc _=> ?_,λhv=>⟨⟨λhv0=> ?_,λhv0=> ?_⟩,?_⟩⟩⟩
  ·refine⟨⟨.mk 0 (mkS []) (a6,fs.length,cc) fs (none,0,0) [] 0,n2,u,er⟩,rfl,rfl,rfl,rfl,rfl,rfl,rfl,rfl,rfl,rfl,rfl,rfl,ret a6 cc n2 u er l1 (by omega) c2 c3 (λh=>absurd h he) (yn (hh.1 (by omega)) (by omega)),λq hq=>Ub hq.1.2 hq.2.1 hq.2.2⟩
  ·have he0:er=0:=(by omega);subst he0;refine⟨⟨.mk 0 (mkS []) (a6,fs.length,cc) fs (none,0,0) [] 0,n2,u,0⟩,rfl,rfl,rfl,rfl,rfl,rfl,rfl,rfl,rfl,rfl,rfl,rfl,ret a6 cc n2 u 0 l1 (by omega) c2 c3 (λ_=>c4') (xB rfl (by rw[hh.2.1 rfl hv,Int.toNat_natCast])),λq hq=>Ub hq.1.2 hq.2.1 hq.2.2⟩
  ·have er0:er=0:=(by omega);subst er0;refine⟨_,rfl,λhneg=> ?_,λhnn=> ?_⟩
   ·have hvm:v= -9223372036854775808:=by
     by_cases h:v= -9223372036854775808
     ·exact h
     ·rw[Hl (by omega) l4]at hneg;omega
    subst hvm;refine⟨⟨x,y,n2,u,0,2⟩,rfl,rfl,rfl,rfl,rfl,rfl,rfl,rfl,rfl,rfl,⟨x,y,D,n2,u,2⟩,rfl,rfl,rfl,rfl,rfl,rfl,rfl,rfl,rfl,l1,λq hq=>hq.1.2.2,?_⟩;have hbad:qL D n2 2=((0:Int),((n2:Nat):Int),(2:Int)):=(by unfold qL;rw[if_pos (by decide)]);simp only[hbad,true_and,and_true,eq_self];refine⟨λh=>absurd h (by decide),λ_=>⟨⟨D.size+1,_,0,n2,2,fs⟩,rfl,rfl,rfl,rfl,rfl,rfl,λq hq=>hq.2,⟨⟨⟨l1,by show n<=((n2:Nat):Int);omega⟩,⟨c2,c3⟩,λh=>absurd h (by show¬(2:Int)=0;decide),by rw[GV.pvs_len];exact c5⟩,by show IntKind.wrap .i64 (0 - -9223372036854775808)<=_;rw[Hk];decide,by show(D.size:Int)<((D.size+1:Nat):Int)+n2;omega,yn (hh.2.2.2.1 rfl rfl) rfl⟩⟩⟩
   ·have hvm:v≠ -9223372036854775808:=λh=>(by subst h;rw[Hk]at hnn;exact hnn (by decide));have hh5:=hh.2.2.2.2 rfl hv0 hvm;rw[Hl (by omega) l4];refine⟨⟨x,y,D,n2,u,0⟩,rfl,rfl,rfl,rfl,rfl,rfl,rfl,rfl,rfl,l1,λq hq=>hq.1.2.2,?_⟩;simp only[hg2,true_and,and_true,eq_self];have hm0:n<=(((qi D n2).2.2:Nat):Int):=(by omega);generalize qi D n2=U at*;obtain⟨z,H,N⟩:=U;simp only at hm0 hh5 m1 m2 m3 m4 m5⊢;have cut:∀(F':Nat) (e2:Int),D.size<F'+N->vu (zW S a G D n all) e2 (1<= -v/\(j9 (zk S D G a.it) D (decide (a.k=13)) (-v).toNat ([],GV.pvs fs) ((N:Nat):Int).toNat u.toNat).bind (kE S a G D F' N z)=zW S a G D n all)->JL S a G D n all F' (-v) z N u e2 ([],GV.pvs fs):=λF' e2 h1 h2=>⟨⟨⟨m1,hm0⟩,⟨c2,c3⟩,λ_=>c4',by rw[GV.pvs_len];exact c5⟩,Pt l3 hvm,Pm h1,h2⟩;refine⟨λhz=>⟨⟨x,y,N,u,H,2⟩,rfl,rfl,rfl,rfl,rfl,rfl,rfl,rfl,rfl,rfl,⟨D.size+1,_,_,N,(if((H:Nat):Int)=0 then 2 else((H:Nat):Int)),fs⟩,rfl,rfl,rfl,rfl,rfl,rfl,rfl,rfl,rfl,rfl,rfl,rfl,rfl,λq hq=>hq.2,?_⟩,λhz=> ?_⟩
    ·refine cut _ _ (by omega) ?_;show vu _ (if((H:Nat):Int)=0 then(2:Int)else((H:Nat):Int)) _;by_cases h:H=0
     ·rw[h];exact yn (hh5.2.1 h hz) rfl
     ·have h9:(if((H:Nat):Int)=0 then(2:Int)else((H:Nat):Int))=((H:Nat):Int):=if_neg (λq=>h (Int.natCast_eq_zero.1 q));rw[h9];exact yn (hh5.1 h) (Lh h)
    ·by_cases h:H=0
     ·obtain⟨F',f1,f2⟩:=hh5.2.2 h (by omega);refine⟨⟨F',_,_,N,_,fs⟩,rfl,rfl,rfl,rfl,rfl,rfl,λq hq=>hq.2,cut _ _ f1 (xB (Int.natCast_eq_zero.2 h) ⟨by omega,?_⟩)⟩;rw[O,Int.toNat_natCast,←f2];unfold kE K4;rw[O,Int.toNat_natCast]
     ·exact⟨⟨D.size+1,_,_,N,_,fs⟩,rfl,rfl,rfl,rfl,rfl,rfl,λq hq=>hq.2,cut _ _ (by omega) (yn (hh5.1 h) (Lh h))⟩
  ·have er0:er=0:=(by omega);obtain⟨F',f1,f2⟩:=hh.2.2.1 er0 (by omega);refine⟨⟨F',_,_,n2,_,fs⟩,rfl,rfl,rfl,rfl,rfl,rfl,λq hq=>hq.2,⟨⟨⟨l1,by show n<=((n2:Nat):Int);omega⟩,⟨c2,c3⟩,λ_=>c4',by rw[GV.pvs_len];exact c5⟩,by show v<=_;omega,by show(D.size:Int)<F'+((n2:Nat):Int);omega,xB he ⟨by show 1<=v;omega,?_⟩⟩⟩;rw[O,Int.toNat_natCast,←f2];unfold kE K4;rw[O,Int.toNat_natCast]
  clear hh hg2 m0 m1 m2 m3 m4 m5 l0 l1 l2 l3 l4 l5;rintro⟨F2,cnt,sz,N,e3,gs⟩ ⟨⟨⟨d1,d0⟩,⟨d2,d3⟩,d4,d5⟩,dC,dF,dT⟩ ⟨p3,hp3,hgs⟩;simp only at d0 d1 d2 d3 d4 d5 dC dF dT hgs⊢;refine⟨⟨⟨F2,0,N,u,e3,gs⟩,rfl,rfl,rfl,rfl,rfl,rfl,λq hq=>hq.2,⟨⟨.inl rfl,Int.le_refl _,λ_=>by show u+((0:Nat):Int)<=u;omega⟩,⟨⟨d1,d0⟩,⟨d2,d3⟩,d4,d5⟩,⟨d1.1,Int.le_refl _⟩,dF,?_⟩⟩,?_⟩
  ·rcases dT with⟨q1,q2,Z⟩|q
   ·refine .inl ⟨q1,q2,?_⟩;show(j9 _ _ _ (cnt- ((0:Nat):Int)).toNat _ _ _).bind _=_;rw[show(cnt- ((0:Nat):Int))=cnt by omega];exact Z
   ·exact .inr q
  rintro⟨F3,i,V,A,e4,us⟩ ⟨⟨e1,e2,e2'⟩,⟨⟨g1,g0⟩,⟨g2,g3⟩,g4,g5⟩,⟨e5,e6⟩,eF,eT⟩ ⟨p4,hp4,hus⟩;simp only at e1 e2 e2' g0 g1 g2 g3 g4 g5 e5 e6 eF eT hus⊢;have g5:(us.length:Int)<=A:=by rw[GV.pvs_len]at g5;exact g5
  have nx:∀X:Int,(X=0->A<=2000)->(X=0->u<A)->vu (zW S a G D n all) X (vk (zk S D G a.it) D (decide (a.k=13)) F3 ([],GV.pvs us) V.toNat A.toNat=zW S a G D n all)->Zq S a G D n all F3 V A X ([],GV.pvs us)/\(2*(2001- A).toNat+if X=0 then 1 else 0)<2*(2001- u).toNat+if True then 1 else 0:=λX h1 h2 h3=>by
   refine⟨⟨⟨⟨g1,g0⟩,⟨g2,g3⟩,h1,by rw[GV.pvs_len];exact g5⟩,by omega,h3⟩,?_⟩;rw[if_pos trivial];split
   ·rename_i h;have:=h2 h;have:=h1 h;omega
   ·omega
  have h64: -9223372036854775808<=V- N/\V- N<=9223372036854775807:=by have:=g1.1;have:=g1.2.1;have:=g1.2.2;have:=d1.1;omega
  have bad:e4≠0->_:=λJ=>nx e4 (λh=>absurd h J) (λh=>absurd h J) (by
   rcases eT with⟨q,_⟩|q
   ·exact absurd q J
   ·exact .inr q)
  have good:¬(i:Int)<cnt->e4=0->u<A/\kE S a G D F3 N sz (([],GV.pvs us),V.toNat,A.toNat)=zW S a G D n all:=λh h0=>by
   rcases eT with⟨_,q2,Z⟩|⟨k,q,_⟩
   ·rw[show(cnt- (i:Int)).toNat=0 by omega,j9,qR]at Z;exact⟨by have:=e2' h0;omega,Z⟩
   ·omega
  have bke:uj N.toNat sz V.toNat=true↔0<=sz/\V- N≠sz:=by unfold uj;have:=g1.1;have:=d1.1;rw[Bool.and_eq_true,decide_eq_true_eq,decide_eq_true_eq,Int.toNat_of_nonneg (by omega),Int.toNat_of_nonneg (by omega)]
  refine⟨λhlt=>⟨λh0=> ?_,λJ=>⟨λh=>absurd h J,λ_=>⟨⟨F3,V,A,e4,us⟩,rfl,rfl,rfl,rfl,rfl,λq hq=>hq.1.1.1,λq hq=>hq.2,bad J⟩⟩⟩,λhge=>⟨λh0=>⟨λhs=>⟨h64,λhn=>⟨⟨F3,V,A,2,us⟩,rfl,rfl,rfl,rfl,rfl,λq hq=>hq.1.1.1,λq hq=>hq.2,?_⟩,λhn=>⟨⟨F3,V,A,e4,us⟩,rfl,rfl,rfl,rfl,rfl,λq hq=>hq.1.1.1,λq hq=>hq.2,?_⟩⟩,λhs=>⟨⟨F3,V,A,e4,us⟩,rfl,rfl,rfl,rfl,rfl,λq hq=>hq.1.1.1,λq hq=>hq.2,?_⟩⟩,λJ=>⟨⟨F3,V,A,e4,us⟩,rfl,rfl,rfl,rfl,rfl,λq hq=>hq.1.1.1,λq hq=>hq.2,bad J⟩⟩⟩
  ·subst h0;obtain⟨q2,Z⟩:1<=cnt/\(j9 (zk S D G a.it) D false (cnt- (i:Int)).toNat ([],GV.pvs us) V.toNat A.toNat).bind (kE S a G D F3 N sz)=zW S a G D n all:=by
    rcases eT with⟨_,q2,Z⟩|⟨k,q,_⟩
    ·rw[O]at Z;exact⟨q2,Z⟩
    ·omega
   rw[zva (by omega)]at Z;unfold K_ at Z;rw[if_neg (by decide),Lj]at Z;have g4':=g4 rfl;have e2'':=e2' rfl;refine⟨⟨?ra,?rb,?rc⟩,λh=>absurd trivial h⟩;case ra|rb|rc=>
    refine⟨⟨by omega,by omega⟩,⟨S,⟨x,y,D,V,A,0⟩,a.it,G+1⟩,rfl,rfl,rfl,rfl,rfl,rfl,rfl,rfl,rfl,rfl,rfl,⟨by show(25- (G+1)).toNat<c;omega,hok,g1,⟨by show 0<=A;omega,g4'⟩,Int.le_refl _,hit,by show 1<=G+1;omega,by show G+1<=21;omega⟩,λq hq=>⟨hq.1.1.1.1,hq.1.1.1.2.2⟩,?_⟩;rintro⟨r,n',C,X⟩ ⟨h1,h2,h3,h4,h6⟩ _;have h6:V<=n':=h6;have h3:A+1<=C/\C<=2001:=h3;rw[if_pos rfl,show(21- (G+1)).toNat=(20- G).toNat by omega]at h1;have hag:=IM h1 Z;simp only[qR]at hag;have hk1:(cnt- (i:Int)).toNat- 1=(cnt- ((i+1:Nat):Int)).toNat:=(by omega);rw[hk1]at hag;refine⟨qB jw us,by omega,⟨by omega,by omega⟩,⟨F3,i+1,n',C,X,us++[r]⟩,by show((i+1:Nat):Int)=_;omega,?_⟩;simp only[true_and,and_true,eq_self];refine⟨by simp,by rw[zF];rfl,λq hq=>hq.1.1,λq hq=>JV hq.1.2 (uH hq.2),⟨⟨.inr (by omega),by omega,λ_=>by omega⟩,⟨⟨h2,by show n<=n';omega⟩,⟨by omega,by omega⟩,h4,by show((GV.pvs (us++[r])).length:Int)<=C;rw[GV.pvs_len,List.length_append];show((us.length+1:Nat):Int)<=C;omega⟩,⟨by omega,by show N<=n';omega⟩,by omega,?_⟩,by omega⟩;rw[O,dE];rcases hag with⟨w1,Y⟩|w
    ·exact .inl ⟨w1,q2,Y⟩
    ·exact .inr w
  ·obtain⟨w1,Y⟩:=good hge h0;unfold kE at Y;rw[if_pos (bke.2 ⟨hs,hn⟩)]at Y;exact nx 2 (λh=>absurd h (by decide)) (λh=>absurd h (by decide)) (yn Y.symm rfl)
  ·obtain⟨w1,Y⟩:=good hge h0;unfold kE at Y;rw[if_neg (λh=>(bke.1 h).2 hn)]at Y;exact nx e4 g4 (λ_=>w1) (xB h0 Y)
  ·obtain⟨w1,Y⟩:=good hge h0;unfold kE at Y;rw[if_neg (λh=>hs (bke.1 h).1)]at Y;exact nx e4 g4 (λ_=>w1) (xB h0 Y)
 ·exactλa6 cc _=>⟨⟨.mk 0 (mkS []) (a6,fs.length,cc) fs (none,0,0) [] 0,n1,u,e1⟩,rfl,rfl,rfl,rfl,rfl,rfl,rfl,rfl,rfl,rfl,rfl,rfl,ret a6 cc n1 u e1 c1 c0 c2 c3 c4 (by
   rcases cT with⟨q,_⟩|⟨k,q1,q2⟩
   ·exact absurd q hnz
   ·exact yn q2 q1),λq hq=>Ub hq.1.2 hq.2.1 hq.2.2⟩
end
section
variable (q:Int) (i j:SV) (u v V:Int) (h:AT) (p:List AT) (o:O6) (J:Nat) (a:Nat×Int×Int×Int×GV) (d:ze) (c:Nat×Int×Int×Int×Int×GV) (e:Nat×Nat×Int×Int×Int×GV) (t:zp) (m:vj) (I:ze) (H:Prop) (C:Nat->Option Obj) (M:Nat×Int×Int×Int×GV) (D:GV) (F:(Option Addr×Nat×Nat)×(Option Addr×Nat×Nat)×Int×Int×Int×Int) (U:Nat×Nat×Int×Int×Int×GV)
 abbrev KB:=True/\qc p i C/\AT.ok h C/\j.2.1=size o/\qfv C j.1 j.2.1 j.2.2 (q11 o)
 def uQ:=i.1=i.1/\i.2.1=i.2.1/\i.2.2=i.2.2/\H
 def KA:=AT.k h=AT.k h/\AT.nm h=AT.nm h/\(AT.al h).1=(AT.al h).1/\(AT.al h).2.1=(AT.al h).2.1/\(AT.al h).2.2=(AT.al h).2.2/\AT.it h=AT.it h/\(AT.sy h).1=(AT.sy h).1/\(AT.sy h).2.1=(AT.sy h).2.1/\(AT.sy h).2.2=(AT.sy h).2.2/\AT.hd h=AT.hd h/\AT.df h=AT.df h/\AT.sz h=AT.sz h/\(AT.f h).1=(AT.f h).1/\(AT.f h).2.1=(AT.f h).2.1/\(AT.f h).2.2=(AT.f h).2.2/\(AT.br h).1=(AT.br h).1/\(AT.br h).2.1=(AT.br h).2.1/\(AT.br h).2.2=(AT.br h).2.2/\H
 def M0:=uK a.2.2.2.2/\Zq p h q o u v a.1 a.2.1 a.2.2.1 a.2.2.2.1 (GV.ks a.2.2.2.2,GV.pvs (GV.l a.2.2.2.2))
 def vI:=(KB i j h p o C)/\GV.ok a.2.2.2.2 C
 def DV:=d.1.1=i.1/\d.1.2.1=i.2.1/\d.1.2.2=i.2.2/\d.2.1.1=j.1/\d.2.1.2.1=j.2.1/\d.2.1.2.2=j.2.2/\H
 def MX:=d.2.1.2.1=size d.2.2.1/\qfv C d.2.1.1 d.2.1.2.1 d.2.1.2.2 (q11 d.2.2.1)
 abbrev j8:=qL d.2.2.1 d.2.2.2.1 d.2.2.2.2.2
 def DS:=GV.n t.1=GV.n a.2.2.2.2/\GV.s t.1=GV.s a.2.2.2.2/\(GV.x t.1).1=(GV.x a.2.2.2.2).1/\(GV.x t.1).2.1=(GV.x a.2.2.2.2).2.1/\(GV.x t.1).2.2=(GV.x a.2.2.2.2).2.2/\(GV.y t.1).1=(GV.y a.2.2.2.2).1/\(GV.y t.1).2.1=(GV.y a.2.2.2.2).2.1/\(GV.y t.1).2.2=(GV.y a.2.2.2.2).2.2/\GV.b t.1=GV.b a.2.2.2.2/\H
 def MZ:=i.1=d.1.1/\i.2.1=d.1.2.1/\i.2.2=d.1.2.2/\j.1=d.2.1.1/\j.2.1=d.2.1.2.1/\j.2.2=d.2.1.2.2/\H
 def DR:=∃(g:zp),DS a g (MZ i j d (g.2.1=(j8 d).2.1/\g.2.2.1=d.2.2.2.2.1/\g.2.2.2=(j8 d).2.2/\j1 (wq (zk p o q) o h (toNat u) (toNat v)) o u v 0 g/\(∀r,vI i j h p o a r->GV.ok g.1 r)/\True))
 def MY:=F.2.2.2.2.2=2/\F.1.1=d.1.1/\F.1.2.1=d.1.2.1/\F.1.2.2=d.1.2.2/\F.2.1.1=d.2.1.1/\F.2.1.2.1=d.2.1.2.1/\F.2.1.2.2=d.2.1.2.2/\H
 def DY:=F.2.2.1=(j8 d).2.1/\F.2.2.2.1=d.2.2.2.2.1/\F.2.2.2.2.1=(j8 d).2.2/\True/\H
 def DX:=uK c.2.2.2.2.2/\JL p h q o u v c.1 c.2.1 c.2.2.1 c.2.2.2.1 d.2.2.2.2.1 c.2.2.2.2.1 (GV.ks c.2.2.2.2.2,GV.pvs (GV.l c.2.2.2.2.2))
 def MW:=KA h (GV.n c.2.2.2.2.2=GV.n a.2.2.2.2/\GV.s c.2.2.2.2.2=GV.s a.2.2.2.2/\(GV.x c.2.2.2.2.2).1=(GV.x a.2.2.2.2).1/\(GV.x c.2.2.2.2.2).2.1=(GV.x a.2.2.2.2).2.1/\(GV.x c.2.2.2.2.2).2.2=(GV.x a.2.2.2.2).2.2/\(GV.y c.2.2.2.2.2).1=(GV.y a.2.2.2.2).1/\(GV.y c.2.2.2.2.2).2.1=(GV.y a.2.2.2.2).2.1/\(GV.y c.2.2.2.2.2).2.2=(GV.y a.2.2.2.2).2.2/\GV.b c.2.2.2.2.2=GV.b a.2.2.2.2/\(∀g,vI i j h p o a g->vI i j h p o a g)/\(∀r,vI i j h p o a r->GV.ok c.2.2.2.2.2 r)/\(DX q u v h p o d c)/\True)
 abbrev DP:=qC d.2.2.1 d.2.2.2.1/\(∀g,vI i j h p o a g->MX d g)/\Ji ((j8 d).1<0) (∃(r:(Option Addr×Nat×Nat)×(Option Addr×Nat×Nat)×Int×Int×Int×Int),MY d (DY d (∃(w:Nat×Int×Int×Int×Int×GV),w.2.2.1=(j8 d).1/\q=q/\w.2.1=u/\i.1=r.1.1/\i.2.1=r.1.2.1/\i.2.2=r.1.2.2/\j.1=r.2.1.1/\j.2.1=r.2.1.2.1/\j.2.2=r.2.1.2.2/\w.2.2.2.1=r.2.2.1/\I.2.2.2.2.1=r.2.2.2.1/\(w.2.2.2.2.1=if r.2.2.2.2.1=0 then r.2.2.2.2.2 else r.2.2.2.2.1)/\MW q i j v V h p o a I w) r) r) (∃(S:Nat×Int×Int×Int×Int×GV),S.2.2.1=(j8 d).1/\q=q/\S.2.1=u/\MZ i j d (S.2.2.2.1=(j8 d).2.1/\I.2.2.2.2.1=d.2.2.2.2.1/\S.2.2.2.2.1=(j8 d).2.2/\MW q i j v V h p o a I S))
 abbrev wa:=(GV.x e.2.2.2.2.2).2
 abbrev wb:=(GV.y e.2.2.2.2.2).2
 def U4:=uK e.2.2.2.2.2/\VS p h q o u v e.1 d.2.2.2.2.1 c.2.1 c.2.2.1 c.2.2.2.1 e.2.1 e.2.2.1 e.2.2.2.1 e.2.2.2.2.1 (GV.ks e.2.2.2.2.2,GV.pvs (GV.l e.2.2.2.2.2))
 def yy:=((vI i j h p o a C)/\GV.ok c.2.2.2.2.2 C)/\GV.ok e.2.2.2.2.2 C
 abbrev M3:=Jb (q+1)
 def cJ:=qc m.1 m.2.1.1 C/\m.2.1.2.1.2.1=size m.2.1.2.2.1/\qfv C m.2.1.2.1.1 m.2.1.2.1.2.1 m.2.1.2.1.2.2 (q11 m.2.1.2.2.1)
 def DQ:=(v8 m<J/\kg m.1/\qC m.2.1.2.2.1 m.2.1.2.2.2.1/\(0<=m.2.1.2.2.2.2.1/\m.2.1.2.2.2.2.1<=2000)/\0<=m.2.1.2.2.2.2.2/\(0<=m.2.2.1/\m.2.2.1<(↑(length m.1):Int))/\1<=m.2.2.2/\m.2.2.2<=21)/\(∀g,yy i j h p o a c e g->cJ m g)/\H
 abbrev DU:=jB m.1 m.2.1.2.2.1 (toNat ((21:Int)- m.2.2.2)) m.2.2.1 (toNat m.2.1.2.2.2.1) (toNat m.2.1.2.2.2.2.1)
 def MV:=M3 q/\∃(g:vj),g.2.2.1=AT.it h/\g.2.2.2=q+1/\g.2.1.1.1=i.1/\g.2.1.1.2.1=i.2.1/\g.2.1.1.2.2=i.2.2/\g.2.1.2.1.1=j.1/\g.2.1.2.1.2.1=j.2.1/\g.2.1.2.1.2.2=j.2.2/\g.2.1.2.2.2.1=e.2.2.1/\g.2.1.2.2.2.2.1=e.2.2.2.1/\g.2.1.2.2.2.2.2=e.2.2.2.2.1/\DQ i j h p o J a c e g (∀(w:zp),j1 (DU g) g.2.1.2.2.1 g.2.1.2.2.2.1 (g.2.1.2.2.2.2.1+1) g.2.1.2.2.2.2.2 w->(∃K,(yy i j h p o a c e K)/\GV.ok w.1 K)->False)
 def cD:=(MV q i j h p o J a c e)/\(MV q i j h p o J a c e)/\MV q i j h p o J a c e
 abbrev uR:=kF d.2.2.1 d.2.2.2.1 d.2.2.2.2.2
 abbrev DZ:=Jb ((↑e.2.1:Int)+1)
 def DT:=(↑e.2.1:Int)=(↑U.2.1:Int)+1/\c.2.2.1=c.2.2.1/\q=q/\c.2.1=c.2.1/\c.2.2.2.1=c.2.2.2.1/\i.1=m.2.1.1.1/\i.2.1=m.2.1.1.2.1/\i.2.2=m.2.1.1.2.2/\j.1=m.2.1.2.1.1/\j.2.1=m.2.1.2.1.2.1/\j.2.2=m.2.1.2.1.2.2/\e.2.2.1=t.2.1/\e.2.2.2.1=t.2.2.1/\e.2.2.2.2.1=t.2.2.2/\H
 def cG:=DZ e/\∃(g:Nat×Nat×Int×Int×Int×GV),DT q i j c g t m (KA h (GV.n g.2.2.2.2.2=GV.n D/\GV.s g.2.2.2.2.2=GV.s D/\(GV.x g.2.2.2.2.2).1=(GV.x D).1/\(wa g).1=(GV.x D).2.1/\(wa g).2=(GV.x D).2.2/\(GV.y g.2.2.2.2.2).1=(GV.y D).1/\(wb g).1=(GV.y D).2.1/\(wb g).2=(GV.y D).2.2/\GV.b g.2.2.2.2.2=GV.b D/\(∀r,((yy i j h p o a c e r)/\GV.ok t.1 r)/\GV.ok D r->(vI i j h p o a r)/\GV.ok c.2.2.2.2.2 r)/\(∀w,((yy i j h p o a c e w)/\GV.ok t.1 w)/\GV.ok D w->GV.ok g.2.2.2.2.2 w)/\(U4 q u v h p o d c g)/\toNat c.2.1- g.2.1<toNat c.2.1- e.2.1/\True)) e
 def cE:=DZ e/\∃(g:Nat×Nat×Int×Int×Int×GV),DT q i j c g t m (KA h (GV.n g.2.2.2.2.2=GV.n e.2.2.2.2.2/\GV.s g.2.2.2.2.2=GV.s e.2.2.2.2.2/\(GV.x g.2.2.2.2.2).1=(GV.x e.2.2.2.2.2).1/\(wa g).1=(wa e).1/\(wa g).2=(wa e).2/\(GV.y g.2.2.2.2.2).1=(GV.y e.2.2.2.2.2).1/\(wb g).1=(wb e).1/\(wb g).2=(wb e).2/\GV.b g.2.2.2.2.2=GV.b e.2.2.2.2.2/\(∀r,(yy i j h p o a c e r)/\GV.ok t.1 r->(vI i j h p o a r)/\GV.ok c.2.2.2.2.2 r)/\(∀w,(yy i j h p o a c e w)/\GV.ok t.1 w->GV.ok g.2.2.2.2.2 w)/\(U4 q u v h p o d c g)/\toNat c.2.1- g.2.1<toNat c.2.1- e.2.1/\True)) e
 def pA:=Ji (t.2.2.2=0) (∃(g:GV×O6×GV),GV.n g.1=GV.n e.2.2.2.2.2/\GV.s g.1=GV.s e.2.2.2.2.2/\(GV.x g.1).1=(GV.x e.2.2.2.2.2).1/\(GV.x g.1).2.1=(wa e).1/\(GV.x g.1).2.2=(wa e).2/\(GV.y g.1).1=(GV.y e.2.2.2.2.2).1/\(GV.y g.1).2.1=(wb e).1/\(GV.y g.1).2.2=(wb e).2/\GV.b g.1=GV.b e.2.2.2.2.2/\g.2.1=(uR d).1/\GV.n g.2.2=GV.n t.1/\GV.s g.2.2=GV.s t.1/\(GV.x g.2.2).1=(GV.x t.1).1/\(GV.x g.2.2).2.1=(GV.x t.1).2.1/\(GV.x g.2.2).2.2=(GV.x t.1).2.2/\(GV.y g.2.2).1=(GV.y t.1).1/\(GV.y g.2.2).2.1=(GV.y t.1).2.1/\(GV.y g.2.2).2.2=(GV.y t.1).2.2/\GV.b g.2.2=GV.b t.1/\(length (GV.ks g.1)=length (GV.l g.1)/\length (GV.l g.1)<1000000)/\(∀r,(yy i j h p o a c e r)/\GV.ok t.1 r->GV.ok g.1 r/\GV.ok g.2.2 r)/\∀(w:GV),GV.pv w=PV.mk (GV.n g.1) (GV.s g.1) (jV g.2.1 (GV.ks g.1) (GV.pvs (GV.l g.1)) (GV.pv g.2.2)) (q9 g.2.1 (GV.ks g.1)) (GV.b g.1)->(∃K,((yy i j h p o a c e K)/\GV.ok t.1 K)/\GV.ok w K)->cG q i j u v h p o a I c e t m w) (cE q i j u v h p o a I c e t m)
 def DW:=DQ i j h p o J a c e m (∀(g:zp),j1 (DU m) m.2.1.2.2.1 m.2.1.2.2.2.1 (m.2.1.2.2.2.2.1+1) m.2.1.2.2.2.2.2 g->(∃r,(yy i j h p o a c e r)/\GV.ok g.1 r)->pA q i j u v h p o a d c e g m I)
 def cH:=M3 q/\∃(g:vj),g.2.2.1=AT.it h/\g.2.2.2=q+1/\g.2.1.1.1=d.1.1/\g.2.1.1.2.1=d.1.2.1/\g.2.1.1.2.2=d.1.2.2/\g.2.1.2.1.1=d.2.1.1/\g.2.1.2.1.2.1=d.2.1.2.1/\g.2.1.2.1.2.2=d.2.1.2.2/\g.2.1.2.2.2.1=(uR d).2.1/\g.2.1.2.2.2.2.1=d.2.2.2.2.1/\g.2.1.2.2.2.2.2=(uR d).2.2/\DW q i j u v h p o J a d c e g I
 abbrev pz:=Ji (AT.k h=12) (cD q i j h p o J a c e) (∃(z:ze),DV i j z (z.2.2.2.1=e.2.2.1/\z.2.2.2.2.1=e.2.2.2.1/\z.2.2.2.2.2=e.2.2.2.2.1/\qC z.2.2.1 z.2.2.2.1/\(∀Q,yy i j h p o a c e Q->MX z Q)/\(uR z).1=(uR z).1/\size (uR z).1<9223372036854775808/\((!qz (uR z).1)=true->∃(A:(Option Addr×Nat×Nat)×(Option Addr×Nat×Nat)×Int×Int×Int×Int),MY z (A.2.2.1=(uR z).2.1/\A.2.2.2.1=z.2.2.2.2.1/\A.2.2.2.2.1=(uR z).2.2/\True/\M3 q/\∃(B:vj),B.2.2.1=AT.it h/\B.2.2.2=q+1/\B.2.1.1.1=A.1.1/\B.2.1.1.2.1=A.1.2.1/\B.2.1.1.2.2=A.1.2.2/\B.2.1.2.1.1=A.2.1.1/\B.2.1.2.1.2.1=A.2.1.2.1/\B.2.1.2.1.2.2=A.2.1.2.2/\B.2.1.2.2.2.1=A.2.2.1/\B.2.1.2.2.2.2.1=A.2.2.2.1/\(B.2.1.2.2.2.2.2=if A.2.2.2.2.1=0 then A.2.2.2.2.2 else A.2.2.2.2.1)/\DW q i j u v h p o J a z c e B d) A)/\((!qz (uR z).1)=false->cH q i j u v h p o J a z c e d)))
 abbrev DO:=KA h (GV.n a.2.2.2.2=GV.n e.2.2.2.2.2/\GV.s a.2.2.2.2=GV.s e.2.2.2.2.2/\(GV.x a.2.2.2.2).1=(GV.x e.2.2.2.2.2).1/\(GV.x a.2.2.2.2).2.1=(wa e).1/\(GV.x a.2.2.2.2).2.2=(wa e).2/\(GV.y a.2.2.2.2).1=(GV.y e.2.2.2.2.2).1/\(GV.y a.2.2.2.2).2.1=(wb e).1/\(GV.y a.2.2.2.2).2.2=(wb e).2/\GV.b a.2.2.2.2=GV.b e.2.2.2.2.2/\(∀g,yy i j h p o M c e g->KB i j h p o g)/\(∀r,yy i j h p o M c e r->GV.ok a.2.2.2.2 r)/\(M0 q u v h p o a)/\(((2:Nat)*toNat ((2001:Int)- a.2.2.1)+if a.2.2.2.1=0 then 1 else 0)<2*toNat ((2001:Int)- M.2.2.1)+if M.2.2.2.1=0 then 1 else 0)/\True)
 def M1:=∃(g:Nat×Int×Int×Int×GV),q=q/\uQ i (uQ j (g.2.1=e.2.2.1/\g.2.2.1=e.2.2.2.1/\g.2.2.2.1=e.2.2.2.2.1/\DO q i j u v h p o g c e a))
 def cI:=Jb (e.2.2.1- c.2.2.2.1)/\((!decide (e.2.2.1- c.2.2.2.1=c.2.2.1))=true->∃(g:Nat×Int×Int×Int×GV),q=q/\uQ i (uQ j (g.2.1=e.2.2.1/\g.2.2.1=e.2.2.2.1/\g.2.2.2.1=2/\DO q i j u v h p o g c e a)))/\((!decide (e.2.2.1- c.2.2.2.1=c.2.2.1))=false->M1 q i j u v h p o a c e)
 def cC:=Ji (0<=c.2.2.1) (cI q i j u v h p o a c e) (M1 q i j u v h p o a c e)
 def AI:=Ji (e.2.2.2.2.1=0) (cC q i j u v h p o a c e) (M1 q i j u v h p o a c e)
 def py:=Ji (e.2.2.2.2.1=0) (pz q i j u v h p o J a d c e) (AI q i j u v h p o a c e)
 def px:=Ji ((↑e.2.1:Int)<c.2.1) (py q i j u v h p o J a d c e) (AI q i j u v h p o a c e)
 def pw:=(∃(g:Nat×Nat×Int×Int×Int×GV),(↑g.2.1:Int)=0/\c.2.2.1=c.2.2.1/\q=q/\c.2.1=c.2.1/\c.2.2.2.1=c.2.2.2.1/\uQ i (uQ j (g.2.2.1=c.2.2.2.1/\g.2.2.2.1=d.2.2.2.2.1/\g.2.2.2.2.1=c.2.2.2.2.1/\KA h (GV.n g.2.2.2.2.2=GV.n c.2.2.2.2.2/\GV.s g.2.2.2.2.2=GV.s c.2.2.2.2.2/\(GV.x g.2.2.2.2.2).1=(GV.x c.2.2.2.2.2).1/\(wa g).1=(GV.x c.2.2.2.2.2).2.1/\(wa g).2=(GV.x c.2.2.2.2.2).2.2/\(GV.y g.2.2.2.2.2).1=(GV.y c.2.2.2.2.2).1/\(wb g).1=(GV.y c.2.2.2.2.2).2.1/\(wb g).2=(GV.y c.2.2.2.2.2).2.2/\GV.b g.2.2.2.2.2=GV.b c.2.2.2.2.2/\(∀r,(vI i j h p o a r)/\GV.ok c.2.2.2.2.2 r->(vI i j h p o a r)/\GV.ok c.2.2.2.2.2 r)/\(∀w,(vI i j h p o a w)/\GV.ok c.2.2.2.2.2 w->GV.ok g.2.2.2.2.2 w)/\(U4 q u v h p o d c g)/\True))))/\∀(K:Nat×Nat×Int×Int×Int×GV),U4 q u v h p o d c K->(∃T,yy i j h p o a c K T)->px q i j u v h p o J a d c K
 abbrev po:=(Ji ((j8 d).1<0) (∃(g:Int),g=IntKind.wrap i64 ((0:Int)- (j8 d).1)/\Ji (g<0) (∃(r:(Option Addr×Nat×Nat)×(Option Addr×Nat×Nat)×Int×Int×Int×Int),MY d (DY d (∃(w:ze),w.1.1=r.1.1/\w.1.2.1=r.1.2.1/\w.1.2.2=r.1.2.2/\w.2.1.1=r.2.1.1/\w.2.1.2.1=r.2.1.2.1/\w.2.1.2.2=r.2.1.2.2/\w.2.2.2.1=r.2.2.1/\w.2.2.2.2.1=r.2.2.2.1/\(w.2.2.2.2.2=if r.2.2.2.2.1=0 then r.2.2.2.2.2 else r.2.2.2.2.1)/\DP q i j g u v h p o a w d) r) r) (∃(E:ze),E.1.1=d.1.1/\E.1.2.1=d.1.2.1/\E.1.2.2=d.1.2.2/\E.2.1.1=d.2.1.1/\E.2.1.2.1=d.2.1.2.1/\E.2.1.2.2=d.2.1.2.2/\E.2.2.2.1=(j8 d).2.1/\E.2.2.2.2.1=d.2.2.2.2.1/\E.2.2.2.2.2=(j8 d).2.2/\DP q i j g u v h p o a E d)) (∃(L:Nat×Int×Int×Int×Int×GV),L.2.2.1= -1/\q=q/\L.2.1=(j8 d).1/\MZ i j d (L.2.2.2.1=(j8 d).2.1/\d.2.2.2.2.1=d.2.2.2.2.1/\L.2.2.2.2.1=(j8 d).2.2/\MW q i j u v h p o a d L)))/\∀(O:Nat×Int×Int×Int×Int×GV),DX q u v h p o d O->(∃R,(vI i j h p o a R)/\GV.ok O.2.2.2.2.2 R)->pw q i j u v h p o J a d O
 def pn:=Ji ((j8 d).1=0) (DR q i j u v h p o a d) (po q i j u v h p o J a d)
 def pk:=Ji (a.2.2.2.1=0) (∃(g:ze),DV i j g (g.2.2.2.1=a.2.1/\g.2.2.2.2.1=a.2.2.1/\g.2.2.2.2.2=a.2.2.2.1/\qC g.2.2.1 g.2.2.2.1/\(∀r,vI i j h p o a r->MX g r)/\((!decide ((j8 g).2.2=0))=true->DR q i j u v h p o a g)/\((!decide ((j8 g).2.2=0))=false->pn q i j u v h p o J a g))) (∃(G:zp),DS a G (uQ i (uQ j (G.2.1=a.2.1/\G.2.2.1=a.2.2.1/\G.2.2.2=a.2.2.2.1/\j1 (wq (zk p o q) o h (toNat u) (toNat v)) o u v 0 G/\(∀N,vI i j h p o a N->GV.ok G.1 N)/\True))))
 def pj:=(∃(g:Nat×Int×Int×Int×GV),q=q/\uQ i (uQ j (g.2.1=u/\g.2.2.1=v/\g.2.2.2.1=V/\KA h (GV.n g.2.2.2.2=0/\GV.s g.2.2.2.2=mkS []/\(GV.x g.2.2.2.2).1=noA/\(GV.x g.2.2.2.2).2.1=0/\(GV.x g.2.2.2.2).2.2=0/\(GV.y g.2.2.2.2).1=noA/\(GV.y g.2.2.2.2).2.1=0/\(GV.y g.2.2.2.2).2.2=0/\GV.b g.2.2.2.2=0/\(∀r,KB i j h p o r->KB i j h p o r)/\(∀w,KB i j h p o w->GV.ok g.2.2.2.2 w)/\(M0 q u v h p o g)/\True))))/\∀(K:Nat×Int×Int×Int×GV),M0 q u v h p o K->(∃T,vI i j h p o K T)->pk q i j u v h p o J K
end
def zjm(c:Nat) (S:List AT) (x y:SV) (D:O6) (n all e:Int) (a:AT) (h:Int):qiy P (qef [(55,Zy),(57,J0),(58,W_),(59,wW)]) (qff [(31,wv.below v8 c),(24,QV)]) Tryz.f62 ((Z7 EJ).below xU (c+1)) (G1 false) ⟨S,⟨x,y,D,n,all,e⟩,a,h⟩=(xU (S,(x,y,D,n,all,e),a,h)<c+1/\kg S/\a∈S/\EJ a/\qC D n/\(0<=all/\all<=2000)/\e=0/\1<=h/\h<=20->(∃(p:Pub),KB x y a S D p)->pj h x y n all e a S D c):=by kernel_rfl
def zq1:=λc S x y D n all e a h=>Eq.trans (zjm c S x y D n all e a h) (by delta Ji Jb Jt Jf KB uQ KA M0 vI DV MX j8 DS MZ DR MY DY DX MW DP wa wb U4 yy M3 cJ DQ DU MV cD uR DZ DT cG cE pA DW cH pz DO M1 cI cC AI py px pw po pn pk pj;exact rfl)
end
end Go.Proofs.YtniogjgfomaicaaGreat.Wd
