/-
  What the functions do: contracts, and their questions answered. No condition but what its theorems ask.
-/
import Derived.Test.YtpdddmchffpcfaaU6
import Derived.Test.YtpdddmchffpcfaaProg
import Derived.Laws.BitsAllLaws
import Derived.Lib.Repeat
import Derived.WalkKit
import Derived.ProofKit
import Derived.OpenShut
import Derived.ShutString
import Derived.ChangeOld
import Derived.Lib.SmallJoins
namespace Go.Proofs.Ytpdddmchffpcfaa.Wd
open Go.Proofs.Ytpdddmchffpcfaa.Eng Go.Proofs.Ytpdddmchffpcfaa.Sen Go.RowKit
set_option linter.defProp false
set_option linter.unusedVariables false
set_option linter.unusedSimpArgs false
set_option maxRecDepth 1000000
open Go.Value (int string slice bool)
open Go.IntKind (i64 u64 u8 u32 i32)
open _root_.List (length take drop)
open _root_.ByteArray (size)
open _root_.Int (toNat)
noncomputable section
abbrev P:=Try.prog
def mixed:P.follows .mixedOrders=true:=by decide+kernel
theorem aok{calls:Nat->Option Ct} (hc:∀g C,calls g=some C->q5s P g C) {f:Nat} {fn:Func} {C:Ct} {W:C.σ->WayF} (hfn:P.funcs[f]? =some fn) (hv:∀s,qm1 P calls fn C W s) (hb:q63 P f fn=true:=by kernel_rfl) (h1:1<=C.m:=by exact Nat.le_of_ble_eq_true rfl) (hle:C.m<=C.m':=by exact Nat.le_of_ble_eq_true rfl) (hn:∀s,Nat.ble (C.args s).length fn.ntmps=true:=by exactλ_=>by kernel_rfl):q5s P f C:=qm4 mixed hc hfn hb h1 hle hn hv
theorem aokX{calls:Nat->Option Ct} (hc:∀g C,calls g=some C->q5s P g C) {rel:Nat->Option CtR} (hrel:∀g C,rel g=some C->q39 P g C) {f:Nat} {fn:Func} {C:Ct} {W:C.σ->WayF} (hfn:P.funcs[f]? =some fn) (hv:∀s,qm3 P calls rel fn C W s) (hb:q63 P f fn=true:=by kernel_rfl) (h1:1<=C.m:=by exact Nat.le_of_ble_eq_true rfl) (hle:C.m<=C.m':=by exact Nat.le_of_ble_eq_true rfl) (hn:∀s,Nat.ble (C.args s).length fn.ntmps=true:=by exactλ_=>by kernel_rfl):q5s P f C:=qlb mixed hc hrel hfn hb h1 hle hn hv
theorem aokR{calls:Nat->Option Ct} (hc:∀g C,calls g=some C->q5s P g C) {rel:Nat->Option CtR} (hrel:∀g C,rel g=some C->q39 P g C) {f:Nat} {fn:Func} {C:CtR} {W:C.σ->WayF} (hfn:P.funcs[f]? =some fn) (hv:∀s,qm2 P calls rel fn C W s) (hb:q63 P f fn=true:=by kernel_rfl) (h1:1<=C.m:=by exact Nat.le_of_ble_eq_true rfl) (hle:C.m<=C.m':=by exact Nat.le_of_ble_eq_true rfl) (hn:∀s,Nat.ble (C.args s).length fn.ntmps=true:=by exactλ_=>by kernel_rfl):q39 P f C:=qla mixed hc hrel hfn hb h1 hle hn hv
theorem sbS:(∀(p:Prop) [Decidable p],(decide p=true)=p)/\(∀(p:Prop) [Decidable p],(decide p=false)=¬p)/\(∀b:Bool,((!b)=true)=(b=false))/\(∀b:Bool,((!b)=false)=(b=true))/\(∀p,(True/\p)=p)/\(∀p,(p/\True)=p)/\(∀(α:Type) (a:α),(a=a)=True)/\(∀p:Prop,(p->p)=True)/\(∀α:Type,(α->True)=True)/\(∀p:Prop,(p->True)=True):=⟨λ_ _=>by simp,λ_ _=>by simp,by simp,by simp,by simp,by simp,by simp,by simp,by simp,by simp⟩
abbrev Jb(a:Int):Prop:=(-9223372036854775808:Int)<=a/\a<=9223372036854775807
abbrev Jt(p:Prop) [Decidable p]:Prop:=decide p=true
abbrev Jf(p:Prop) [Decidable p]:Prop:=decide p=false
abbrev Ji(p:Prop) [Decidable p] (a b:Prop):Prop:=(Jt p->a)/\(Jf p->b)
def z0n:∀g C,(λ_=>none:Nat->Option Ct) g=some C->q5s P g C:=λg C h=>by cases h
def z46:Pl noA:=trivial
def z00{α:Type} (f:α->List Value):List α->List Value
 | []=>[]
 |x::l=>f x++z00 f l
def z3k{α:Type} {f:α->List Value} {e:Nat} (hf:∀x,(f x).length=e):∀l,(z00 f l).length=l.length*e
  | []=>by simp[z00]
  | x::l=>by
    rw[z00,List.length_append,hf,z3k hf l,List.length_cons,Nat.succ_mul];omega
def z53{α:Type} {f:α->List Value} {e:Nat} (hf:∀x,(f x).length=e):∀(l:List α) (i:Nat) (hi:i<l.length) (j:Nat),j<e->(z00 f l)[i*e+j]? =(f l[i])[j]?
  | x::l,0,_,j,hj=>by
    show(f x++z00 f l)[0*e+j]? =_
    rw[Nat.zero_mul,Nat.zero_add,List.getElem?_append_left (by rw[hf];exact hj)];rfl
  | x::l,i+1,hi,j,hj=>by
    show(f x++z00 f l)[(i+1)*e+j]? =_
    have:(i+1)*e=i*e+e:=Nat.succ_mul i e
    rw[List.getElem?_append_right (by rw[hf];omega),show(i+1)*e+j- (f x).length=i*e+j by rw[hf];omega]
    exact z53 hf l i (by simpa using hi) j hj
def zdd(x:Addr) (h:x.spot=none) (i j:Nat):(x.add i).add j=x.add (i+j):=by
 obtain⟨b,o,s⟩:=x
 simp only at h
 subst h
 unfold Addr.add
 by_cases hi:i=0
 ·subst hi;simp
 ·by_cases hj:j=0
  ·subst hj;simp[hi]
  ·rw[if_neg hi,if_neg hj,if_neg (by omega)]
   simp only[Nat.add_assoc]
def z41{α:Type} {f:α->List Value} {e:Nat} (hf:∀x,(f x).length=e) (he:0<e) {p:Pub} {a:Option Addr} {n c:Nat} {l:List α} (h:qim p a n c (z00 f l)) {i:Nat} (hi:i<l.length):a≠noA/\q3q p (adr a (i*e)) (f l[i]):=by
 rcases h.2 with h|⟨x,rfl,h1,h2⟩
 ·have:=congrArg List.length h.1
  rw[z3k hf,List.length_nil]at this
  have:=Nat.mul_pos (show 0<l.length by omega) he
  omega
 ·refine⟨by simp,λj v hj=> ?_⟩
  have hje:j<e:=by have:=(List.getElem?_eq_some_iff.mp hj).1;rw[hf]at this;exact this
  show q6s p ((x.add (i*e)).add j)=some v
  rw[zdd x h1]
  exact h2 _ v (by rw[z53 hf l i hi j hje];exact hj)
def z4d{p:Pub} {x:Addr} {vs:List Value} (h:q3q p x vs) (hs:x.spot=none) (k:Nat) {v:Value} (hv:vs[k]? =some v):q3q p (x.add k) [v]:=λj u hj=>by
  cases j with
  | zero=>
    simp at hj;subst hj
    rw[zdd x hs]
    exact h k v hv
  |succ j=>simp at hj
def za0{s:ByteArray} {j:Nat} (h:j<s.size):bat s j=s[j].toNat:=by
 unfold bat
 rw[getElem?_pos s j h];rfl
section
abbrev svV(x:SV):Value:= .slice x.1 x.2.1 x.2.2
abbrev svA(x:SV):AV:= .sv (.slice x.1 x.2.1 x.2.2)
def txV(s:ByteArray):List Value:=[.string s]
def inV(i:Int):List Value:=[.int .i64 i]
def slP{α:Type} (f:α->List Value) (x:SV) (l:List α) (p:Pub):Prop:=x.2.1=l.length/\qim p x.1 x.2.1 x.2.2 (z00 f l)
variable {α:Type}
def z04{f:α->List Value} {x:SV} {l:List α} {p q:Pub} (h:Pub.le p q) (e:slP f x l p):slP f x l q:=⟨e.1,q5g h e.2⟩
def z06{f:α->List Value} {e:Nat} (hf:∀x,(f x).length=e) (he:0<e) {p:Pub} {x:SV} {l:List α} (h:slP f x l p) {i:Nat} (hi:i<l.length):x.1≠noA/\q3q p (adr x.1 (i*e)) (f l[i]):=z41 hf he h.2 hi
def z07{f:α->List Value} {p:Pub}:slP f (none,0,0) [] p:=⟨rfl,Nat.le_refl _, .inl ⟨rfl,z46⟩⟩
inductive GJ where
 |mk (k n:Int) (s:ByteArray) (y:SV) (l:List GJ) (x:SV) (nm:List ByteArray)
def GJ.k:GJ->Int| .mk k _ _ _ _ _ _=>k
def GJ.n:GJ->Int| .mk _ n _ _ _ _ _=>n
def GJ.s:GJ->ByteArray| .mk _ _ s _ _ _ _=>s
def GJ.y:GJ->SV| .mk _ _ _ y _ _ _=>y
def GJ.x:GJ->SV| .mk _ _ _ _ _ x _=>x
def GJ.cells(g:GJ):List Value:=[.int .i64 g.k, .int .i64 g.n, .string g.s,svV g.y,svV g.x]
mutual
def GJ.ok:GJ->Pub->Prop
 | .mk k n s y l x nm,p=>slP GJ.cells y l p/\slP txV x nm p/\GJ.oks l p
def GJ.oks:List GJ->Pub->Prop
 | [],_=>True
 |g::l,p=>GJ.ok g p/\GJ.oks l p
end
mutual
def GJ.ok_mono:∀{g:GJ} {p q:Pub},Pub.le p q->g.ok p->g.ok q
  | .mk k n s y l x nm,p,q,h,e=>by
    unfold GJ.ok at e⊢
    exact⟨z04 h e.1,z04 h e.2.1,GJ.oks_mono h e.2.2⟩
def GJ.oks_mono:∀{l:List GJ} {p q:Pub},Pub.le p q->GJ.oks l p->GJ.oks l q
  | [],p,q,h,e=>by unfold GJ.oks;trivial
  | g::l,p,q,h,e=>by
    unfold GJ.oks at e⊢
    exact⟨GJ.ok_mono h e.1,GJ.oks_mono h e.2⟩
end
structure AF where
 nm:ByteArray
 al:SV
 als:List ByteArray
 ty:Int
 hd:Bool
 df:GJ
def AF.cells(f:AF):List Value:=[.string f.nm,svV f.al, .int .i64 f.ty, .bool f.hd, .int .i64 f.df.k, .int .i64 f.df.n, .string f.df.s,svV f.df.y,svV f.df.x]
def AF.av(f:AF):AV:= .agg [.sv (.string f.nm),svA f.al, .sv (.int .i64 f.ty), .sv (.bool f.hd), .sv (.int .i64 f.df.k), .sv (.int .i64 f.df.n), .sv (.string f.df.s),svA f.df.y,svA f.df.x]
def AF.ok(f:AF) (p:Pub):Prop:=slP txV f.al f.als p/\f.df.ok p
structure AT where
 k:Int
 nm:ByteArray
 al:SV
 als:List ByteArray
 it:Int
 sy:SV
 sys:List ByteArray
 hd:Bool
 df:ByteArray
 sz:Int
 f:SV
 fs:List AF
 br:SV
 brs:List Int
def AT.cells(e:AT):List Value:=[.int .i64 e.k, .string e.nm,svV e.al, .int .i64 e.it,svV e.sy, .bool e.hd, .string e.df, .int .i64 e.sz,svV e.f,svV e.br]
def AT.av(e:AT):AV:= .agg [.sv (.int .i64 e.k), .sv (.string e.nm),svA e.al, .sv (.int .i64 e.it),svA e.sy, .sv (.bool e.hd), .sv (.string e.df), .sv (.int .i64 e.sz),svA e.f,svA e.br]
def AT.ok(e:AT) (p:Pub):Prop:=slP txV e.al e.als p/\slP txV e.sy e.sys p/\slP AF.cells e.f e.fs p/\slP inV e.br e.brs p/\∀f∈e.fs,f.ok p
def AT.ok_mono{e:AT} {p q:Pub} (h:Pub.le p q) (g:e.ok p):e.ok q:=⟨z04 h g.1,z04 h g.2.1,z04 h g.2.2.1,z04 h g.2.2.2.1,λf hf=>⟨z04 h (g.2.2.2.2 f hf).1,GJ.ok_mono h (g.2.2.2.2 f hf).2⟩⟩
def z03(S:List AT) (x:SV) (p:Pub):Prop:=slP AT.cells x S p/\∀e∈S,e.ok p
def z0g{S:List AT} {x:SV} {p q:Pub} (h:Pub.le p q) (g:z03 S x p):z03 S x q:=⟨z04 h g.1,λe he=>AT.ok_mono h (g.2 e he)⟩
def z23(e:AT):e.cells.length=10:=rfl
def z2w(f:AF):f.cells.length=9:=rfl
def z11(i:Int):(inV i).length=1:=rfl
end
def byV(b:Int):List Value:=[.int .u8 b]
def byM(x:SV) (L:List Int):PF:=⟨true,slP byV x L,λ_ _ h e=>z04 h e⟩
mutual
def GJ.wf:GJ->Prop
 | .mk k n s y l x nm=>s.size<1000/\l.length<1000/\nm.length<=l.length/\(∀t∈nm,t.size<1000)/\(-9223372036854775808<=n/\n<9223372036854775808)/\(k=6->nm.length=l.length)/\GJ.wfs l
def GJ.wfs:List GJ->Prop
 | []=>True
 |g::l=>GJ.wf g/\GJ.wfs l
end
def gM(g:GJ):PF:=⟨true,g.ok,λ_ _ h e=>GJ.ok_mono h e⟩
def zJ:GJ:= .mk 0 0 (mkS []) (none,0,0) [] (none,0,0) []
def z7j(n:Nat) (a:AT):Prop:=(1<=a.k/\a.k<=14)/\(a.k=12\/a.k=13->0<=a.it/\a.it<n)/\(∀b∈a.brs,0<=b/\b<n)/\(a.k=14->a.brs≠[])/\(∀f∈a.fs,(0<=f.ty/\f.ty<n)/\f.df.wf)/\(a.k=10->a.sys≠[])/\(a.k=11->0<=a.sz/\a.sz<=5000)/\(a.fs.length<=30/\a.brs.length<=30/\a.sys.length<=30)
def zcg:zJ.wf:=by
 unfold zJ GJ.wf GJ.wfs
 exact⟨by decide,by decide,by decide,λt h=>by simp at h,⟨by decide,by decide⟩,λ_=>rfl,trivial⟩
def zcf(p:Pub):zJ.ok p:=by
 unfold zJ GJ.ok GJ.oks;exact⟨z07,z07,trivial⟩
abbrev scA(x:SV):AV:= .agg [svA x]
def ctP(σ:Type) (args:σ->List AV) (pre:σ->Prop) (mem:σ->PF) (r:σ->AV):Ct where
 σ:=σ
 args:=args
 h:=λ_=>[]
 m:=1
 pre:=pre
 mem:=mem
 r:=r
 h':=λ_=>[]
 m':=1
 g:=λ_=>none
def z1m(S:List AT):Prop:=S.length<=60/\∀a∈S,z7j S.length a
def z05(l:List Int) (t:Int):Int:=if t<0\/l.length<=t then -1 else l.getD t.toNat 0
def lbP(l:List Int) (brs:List Int):Nat->Int
  |0=> -1
  | i+1=>
    let b:=lbP l brs i
    let r:=z05 l (brs.getD i 0)
    if r≠ -1/\(b= -1\/r<z05 l (brs.getD b.toNat 0))then i else b
def lbF(l:List Int) (a:AT):Int:=lbP l a.brs a.brs.length
def z1b(l:List Int) (fs:List AF):Nat->Option Int
  |0=>some 0
  | i +1=>match z1b l fs i with
    |none=>none
    | some m=>match fs[i]? with
      |none=>none
      |some f=>if z05 l f.ty= -1 then none else some (max m (z05 l f.ty))
def rkF(l:List Int) (a:AT):Int:=
 if a.k=9 then(match z1b l a.fs a.fs.length with
  |none=> -1
  |some m=>m+1)else
 if a.k=14 then(if lbF l a≠ -1 then z05 l (a.brs.getD (lbF l a).toNat 0)+1 else -1)else
 if a.k<1\/14<a.k then -1 else 0
def z1e(l:List Int) (n:Nat):Prop:=l.length<=1000/\∀r∈l, -1<=r/\r<=n
def rlO(l:List Int):List (Nat×AO):=[(1, .row 3 0 (z00 inV l))]
def cRk(σ:Type) (args:σ->List AV) (h:σ->List (Nat×AO)) (pre:σ->Prop) (mem:σ->PF) (r:σ->AV):Ct where
 σ:=σ
 args:=args
 h:=h
 m:=2
 pre:=pre
 mem:=mem
 r:=r
 h':=h
 m':=2
 g:=λ_=>none
def zdg(k:Nat) (l:List AV):Bool:=match l[k]? with
 |some (.msl _ _ _)=>true
 |_=>false
def zc5:Ct:=cRk (List Int×Int) (λ⟨l,t⟩=>[.msl 1 l.length 1, .sv (.int .i64 t)]) (λ⟨l,t⟩=>rlO l) (λ⟨l,t⟩=>z1e l 1000000) (λ_=>{}) λ⟨l,t⟩=> .sv (.int .i64 (z05 l t))
def inM(y:SV) (l:List Int):PF:=⟨true,λp=>slP inV y l p,λ_ _ h e=>z04 h e⟩
def zc6:Ct:=cRk (SV×List Int×Int) (λ⟨y,l,t⟩=>[svA y, .sv (.int .i64 t)]) (λ_=>[]) (λ⟨y,l,t⟩=>z1e l 1000000) (λ⟨y,l,t⟩=>inM y l) λ⟨y,l,t⟩=> .sv (.int .i64 (z05 l t))
def cAt:Ct:=Ct.or zc5 zc6 (zdg 0)
def aM(a:AT):PF:=⟨true,λp=>a.ok p,λ_ _ h e=>AT.ok_mono h e⟩
def aiM(a:AT) (y:SV) (l:List Int):PF:=⟨true,λp=>a.ok p/\slP inV y l p,λ_ _ h e=>⟨AT.ok_mono h e.1,z04 h e.2⟩⟩
def zbm:Ct:=cRk (AT×List Int) (λ⟨a,l⟩=>[a.av, .msl 1 l.length 1]) (λ⟨a,l⟩=>rlO l) (λ⟨a,l⟩=>z1e l 1000000/\a.brs.length<=1000) (λ⟨a,l⟩=>aM a) λ⟨a,l⟩=> .sv (.int .i64 (lbF l a))
def zbn:Ct:=cRk (AT×SV×List Int) (λ⟨a,y,l⟩=>[a.av,svA y]) (λ_=>[]) (λ⟨a,y,l⟩=>z1e l 1000000/\a.brs.length<=1000) (λ⟨a,y,l⟩=>aiM a y l) λ⟨a,y,l⟩=> .sv (.int .i64 (lbF l a))
def cLb:Ct:=Ct.or zbm zbn (zdg 1)
def zde(a:AT) (l:List Int):LT:={σ:=Nat,pre:=λi=>i<=a.brs.length,t:=λi=>[(12, .sv (.int .i64 (i:Nat))),(5, .sv (.int .i64 (lbP l a.brs i)))],h:=λ_=>[],more:=0,μ:=λi=>a.brs.length- i,keep:=[1,2,10,11]}
def zdk:zbm.σ->WayF:=λ⟨a,l⟩=>{ann:=λ_ _ _=>some (zde a l)}
def zdl:zbn.σ->WayF:=λ⟨a,y,l⟩=>{ann:=λ_ _ _=>some (zde a l)}
def z5k:Ct:=cRk (AT×List Int) (λ⟨a,l⟩=>[a.av, .msl 1 l.length 1]) (λ⟨a,l⟩=>rlO l) (λ⟨a,l⟩=>z1e l 1000000/\a.brs.length<=1000/\a.fs.length<=1000) (λ⟨a,l⟩=>aM a) λ⟨a,l⟩=> .sv (.int .i64 (rkF l a))
def zan:z5k.σ->WayF:=λ⟨a,l⟩=>{ann:=λ_ _ _=>some {σ:=Nat×Int,pre:=λ⟨i,m⟩=>i<=a.fs.length/\z1b l a.fs i=some m,t:=λ⟨i,m⟩=>[(17, .sv (.int .i64 (i:Nat))),(5, .sv (.int .i64 m))],h:=λ_=>[],more:=0,μ:=λ⟨i,m⟩=>a.fs.length- i,keep:=[1,2,15,16]}}
def told(S:List AT) (l:List Int) (t:Nat):Bool:=match S[t]? with
 |some a=>decide (l.getD t 0= -1)&&decide (rkF l a≠ -1)
 |none=>false
def rkS(S:List AT) (l:List Int) (t:Nat):Int:=match S[t]? with
 |some a=>rkF l a
 |none=> -1
def esF(S:List AT) (l:List Int):Nat->List MapEntry
 |0=>[]
 |i+1=>if told S l i=true then esF S l i++[⟨.int .i64 (i:Nat), .int .i64 (rkS S l i),(esF S l i).length⟩]else esF S l i
def z2f(l:List Int):Nat:=(l.filter λr=>decide (r= -1)).length
def rkR(S:List AT) (l:List Int):Prop:=l.length=S.length/\z1e l (S.length- z2f l)/\∀(t:Nat) (a:AT),S[t]? =some a->l.getD t 0≠ -1->0<=l.getD t 0/\(1<=a.k/\a.k<=14)/\(a.k=9->∀f∈a.fs,z05 l f.ty≠ -1/\z05 l f.ty<l.getD t 0)/\(a.k=14->∃b∈a.brs,z05 l b≠ -1/\z05 l b<l.getD t 0)
def rkE(S:List AT) (l:List Int):Prop:=rkR S l/\∀(t:Nat) (a:AT),S[t]? =some a->l.getD t 0= -1->rkF l a= -1
def z73(S:List AT) (l:List Int) (seen:List Nat) (l':List Int):Prop:=l'.length=S.length/\∀t,t<S.length->(l'.getD t 0=l.getD t 0/\∀e∈esF S l S.length,e.key= .int .i64 (t:Nat)->e.born∉seen)\/(l'.getD t 0=rkS S l t/\told S l t=true)
def z1c(es:List MapEntry) (seen:List Nat):Nat:=(es.filter λe=>decide (e.born∉seen)).length
def zad(t:T AV) (k:Nat):Option Nat:=match t.get k with
 |some (.msl id _ _)=>some id
 |_=>none
def zdf(t:T AV) (k:Nat):Option Nat:=match t.get k with
 |some (.map id)=>some id
 |_=>none
def zgd(t:T AV) (k:Nat):Option Nat:=match t.get k with
 |some (.ptr id _)=>some id
 |_=>none
def scM(S:List AT) (x:SV):PF:=⟨true,λp=>z03 S x p,λ_ _ h e=>z0g h e⟩
def unI(v:Value):Int:=match v with
 | .int _ n=>n
 |_=>0
def zdh(h:T AO) (id:Option Nat):Option (Nat×List Value):=match id with
  | some i=>match h.get i with
    |some (.row _ _ vs)=>some (i,vs)
    |_=>none
  |none=>none
def z30:CtR where
 σ:=List AT×SV
 args:=λ⟨S,x⟩=>[scA x]
 h:=λ_=>[]
 m:=1
 pre:=λ⟨S,x⟩=>z1m S
 mem:=λ⟨S,x⟩=>scM S x
 β:=λ_=>List Int×SV
 post:=λ⟨S,x⟩ ⟨l,y⟩=>rkE S l
 pm:=λ_ ⟨l,y⟩=>inM y l
 r:=λ_ ⟨l,y⟩=>svA y
 h':=λ_ _=>[]
 m':=1
def z78:z30.σ->WayF:=λ⟨S,x⟩=>{
  pubE:=[2]
  ann :=λid tt hh=>match id with
    | 0=>match zad tt 3 with
      |some rb=>some {σ:=Nat×List Int,pre:=λ⟨i,l⟩=>i<=S.length/\l.length=S.length/\∀j,j<i->l.getD j 0= -1,t:=λ⟨i,l⟩=>[(17, .sv (.int .i64 (i:Nat)))],h:=λ⟨i,l⟩=>[(rb, .row 3 0 (z00 inV l))],more:=0,μ:=λ⟨i,l⟩=>S.length- i,keep:=[1,3,16]}
      |none=>none
    | 2=>match zad tt 3 with
      |some rb=>some {σ:=List Int,pre:=λl=>rkR S l,t:=λ_=>[],h:=λl=>[(rb, .row 3 0 (z00 inV l))],more:=0,μ:=λl=>z2f l,keep:=[1,3]}
      |none=>none
    | 4=>match zdf tt 5,zdh hh (zad tt 3)with
      |some mb,some (rb,vs)=>some {σ:=Nat,pre:=λi=>i<=S.length,t:=λi=>[(28, .sv (.int .i64 (i:Nat)))],h:=λi=>[(mb, .mrow (esF S (vs.map unI) i) (esF S (vs.map unI) i).length)],more:=0,μ:=λi=>S.length- i,keep:=[1,3,5,26,27]}
      |_,_=>none
    | 6=>match zdf tt 5,zdh hh (zad tt 3),zgd tt 54 with
      |some mb,some (rb,vs),some ib=>some {σ:=List Nat×List Int,pre:=λ⟨seen,l'⟩=>z73 S (vs.map unI) seen l',t:=λ_=>[],h:=λ⟨seen,l'⟩=>[(ib, .iter mb (esF S (vs.map unI) S.length).length seen (esF S (vs.map unI) S.length).length),(rb, .row 3 0 (z00 inV l'))],more:=0,μ:=λ⟨seen,l'⟩=>z1c (esF S (vs.map unI) S.length) seen,keep:=[1,3,5,54]}
      |_,_,_=>none
    |_=>none}
def boV(b:Bool):List Value:=[.bool b]
def boM(y:SV) (l:List Bool):PF:=⟨true,λp=>slP boV y l p,λ_ _ h e=>z04 h e⟩
def hasB(l:List Int) (bs:List Bool) (n:Nat):Prop:=∀t,t<n->bs.getD t false=decide (l.getD t 0≠ -1)
def zbk:CtR where
 σ:=List AT×SV
 args:=λ⟨S,x⟩=>[scA x]
 h:=λ_=>[]
 m:=1
 pre:=λ⟨S,x⟩=>z1m S
 mem:=λ⟨S,x⟩=>scM S x
 β:=λ_=>List Bool×SV
 post:=λ⟨S,x⟩ ⟨bs,y⟩=>bs.length=S.length/\∃l,rkE S l/\hasB l bs S.length
 pm:=λ_ ⟨bs,y⟩=>boM y bs
 r:=λ_ ⟨bs,y⟩=>svA y
 h':=λ_ _=>[]
 m':=1
def zdi:zbk.σ->WayF:=λ⟨S,x⟩=>{
 pubE:=[2]
 ann :=λid tt hh=>match zad tt 3 with
   |some rb=>some {σ:=Nat×List Int×SV×List Bool,pre:=λ⟨i,l,y,bs⟩=>i<=S.length/\rkE S l/\bs.length=S.length/\hasB l bs i,mem:=λ⟨i,l,y,bs⟩=>inM y l,t:=λ⟨i,l,y,bs⟩=>[(13, .sv (.int .i64 (i:Nat))),(11,svA y)],h:=λ⟨i,l,y,bs⟩=>[(rb, .row 4 0 (z00 boV bs))],more:=0,μ:=λ⟨i,l,y,bs⟩=>S.length- i,keep:=[1,3,12]}
   |none=>none}
def isB(S:List AT) (t:Int):Bool:=decide (0<=t)&&decide (t<S.length)
def z3q:Ct:=ctP (List AT×SV×Int) (λ⟨S,x,t⟩=>[scA x, .sv (.int .i64 t)]) (λ⟨S,x,t⟩=>S.length<=60) (λ⟨S,x,t⟩=>scM S x) λ⟨S,x,t⟩=> .sv (.bool (isB S t))
def z2h(a b:Int):Bool:=
 if a=3 then decide (b=4)|| (decide (b=5)||decide (b=6))else
 if a=4 then decide (b=5)||decide (b=6)else
 if a=5 then decide (b=6)else
 if a=8 then decide (b=7)else false
def zca:Ct:=ctP (Int×Int) (λ⟨a,b⟩=>[.sv (.int .i64 a), .sv (.int .i64 b)]) (λ_=>True) (λ_=>{}) λ⟨a,b⟩=> .sv (.bool (z2h a b))
def z10(s:ByteArray) (c:Nat):Nat->Int
 |0=> -1
 |n+1=>if bat s n=c then n else z10 s c n
def zc7:Ct:=ctP ByteArray (λs=>[.sv (.string s), .int .u8 46]) (λs=>s.size<1000000) (λ_=>{}) λs=> .sv (.int .i64 (z10 s 46 s.size))
def zdm:ByteArray->WayF:=λs=>{
 ann:=λ_ _ _=>some {σ:=Nat,pre:=λi=>i<=s.size/\z10 s 46 i=z10 s 46 s.size,t:=λi=>[(5, .sv (.int .i64 ((i:Int)- 1)))],h:=λ_=>[],more:=0,μ:=λi=>i,keep:=[0,1]}}
def zc8:Ct:=ctP ByteArray (λs=>[.sv (.string s), .str [46]]) (λs=>s.size<1000000) (λ_=>{}) λs=> .sv (.int .i64 (z10 s 46 s.size))
def shB(s:ByteArray):ByteArray:=s.extract (z10 s 46 s.size+1).toNat s.size
def z4a:Ct:=ctP ByteArray (λs=>[.sv (.string s)]) (λs=>s.size<1000000) (λ_=>{}) λs=> .sv (.string (shB s))
def zag(s:ByteArray):List (Nat×AO):=[(1, .cells 9 (some 0) false [.sv (.string s)])]
def cNm(σ:Type) (args:σ->List AV) (s:σ->ByteArray) (pre:σ->Prop) (mem:σ->PF) (r:σ->AV):Ct where
 σ:=σ
 args:=args
 h:=λa=>zag (s a)
 m:=2
 pre:=pre
 mem:=mem
 r:=r
 h':=λa=>zag (s a)
 m':=2
 g:=λ_=>none
def zc9:Ct:=cNm (AF×ByteArray) (λ⟨f,s⟩=>[f.av, .ptr 1 0]) (λ⟨f,s⟩=>s) (λ_=>True) (λ_=>{}) λ⟨f,s⟩=> .sv (.bool (decide (f.nm=s)))
def ixN(s:ByteArray):List AF->Nat->Int
 | [],_=> -1
 |f::l,i=>if f.nm=s then i else ixN s l (i+1)
def zcb(x:SV) (l:List AF):PF:=⟨true,λp=>slP AF.cells x l p,λ_ _ h e=>z04 h e⟩
def zbl:Ct:=cNm (SV×List AF×ByteArray) (λ⟨x,l,s⟩=>[svA x, .fn 103 [.ptr 1 0]]) (λ⟨x,l,s⟩=>s) (λ⟨x,l,s⟩=>l.length<=1000) (λ⟨x,l,s⟩=>zcb x l) λ⟨x,l,s⟩=> .sv (.int .i64 (ixN s l 0))
def zdj:zbl.σ->WayF:=λ⟨x,l,s⟩=>{
 ann:=λ_ _ _=>some {σ:=Nat,pre:=λi=>i<=l.length/\ixN s (l.drop i) i=ixN s l 0,t:=λi=>[(8, .sv (.int .i64 (i:Nat)))],h:=λ_=>[],more:=0,μ:=λi=>l.length- i,keep:=[0,1,6,7]}}
def z48:Ct:=ctP (AT×ByteArray) (λ⟨a,s⟩=>[a.av, .sv (.string s)]) (λ⟨a,s⟩=>a.fs.length<=1000) (λ⟨a,s⟩=>aM a) λ⟨a,s⟩=> .sv (.int .i64 (ixN s a.fs 0))
def afM(a:AT) (f:AF):PF:=⟨true,λp=>a.ok p/\f.ok p,λ_ _ h e=>⟨AT.ok_mono h e.1,z04 h e.2.1,GJ.ok_mono h e.2.2⟩⟩
def z2x:Ct:=ctP (AT×AF) (λ⟨a,f⟩=>[a.av,f.av]) (λ⟨a,f⟩=>a.fs.length<=1000/\f.als=[]) (λ⟨a,f⟩=>afM a f) λ⟨a,f⟩=> .tup [.sv (.int .i64 (if 0<=ixN f.nm a.fs 0 then ixN f.nm a.fs 0 else 0)), .sv (.bool (decide (0<=ixN f.nm a.fs 0)))]
def z75:z2x.σ->WayF:=λ⟨a,f⟩=>{
 ann:=λ_ _ _=>some {σ:=Unit,t:=λ_=>[(20, .sv (.int .i64 0))],h:=λ_=>[],more:=0,μ:=λ_=>0,keep:=[0,1,2,3,18,19]}}
def cIf:Ct:=cNm (SV×ByteArray) (λ⟨x,s⟩=>[svA x, .fn 64 [.ptr 1 0]]) (λ⟨x,s⟩=>s) (λ⟨x,s⟩=>x.2.1=0) (λ_=>{}) λ⟨x,s⟩=> .sv (.int .i64 (-1))
def wIf:cIf.σ->WayF:=λ⟨x,s⟩=>{
 ann:=λ_ _ _=>some {σ:=Unit,t:=λ_=>[(8, .sv (.int .i64 0))],h:=λ_=>[],more:=0,μ:=λ_=>0,keep:=[0,1,6,7]}}
def cCf:Ct:=cNm (SV×ByteArray) (λ⟨x,s⟩=>[svA x, .fn 64 [.ptr 1 0]]) (λ⟨x,s⟩=>s) (λ⟨x,s⟩=>x.2.1=0) (λ_=>{}) λ⟨x,s⟩=> .sv (.bool false)
def aaM(a b:AT):PF:=⟨true,λp=>a.ok p/\b.ok p,λ_ _ h e=>⟨AT.ok_mono h e.1,AT.ok_mono h e.2⟩⟩
def z9r(a b:AT):Bool:=decide (shB b.nm=shB a.nm)
def z2j:Ct:=ctP (AT×AT) (λ⟨a,b⟩=>[a.av,b.av]) (λ⟨a,b⟩=>(a.nm.size<1000000/\b.nm.size<1000000)/\b.als=[]) (λ⟨a,b⟩=>aaM a b) λ⟨a,b⟩=> .sv (.bool (z9r a b))
def flat(S:List AT):Prop:=z1m S/\∀a∈S,a.als=[]/\a.nm.size<1000000/\∀f∈a.fs,f.als=[]
def mtB(a b:AT):Bool:=
 if a.k≠b.k then z2h a.k b.k else
 if a.k=14 then false else
 if a.k=11 then decide (a.sz=b.sz)&&z9r a b else
 if a.k=9\/a.k=10 then z9r a b else true
def mtS(S T:List AT) (t u:Int):Bool:=match S[t.toNat]?,T[u.toNat]? with
 |some a,some b=>isB S t&&isB T u&&mtB a b
 |_,_=>false
def stM(S:List AT) (x:SV) (T:List AT) (y:SV):PF:=⟨true,λp=>z03 S x p/\z03 T y p,λ_ _ h e=>⟨z0g h e.1,z0g h e.2⟩⟩
def z2z:Ct:=ctP (List AT×SV×List AT×SV×Int×Int) (λ⟨S,x,T,y,t,u⟩=>[scA x,scA y, .sv (.int .i64 t), .sv (.int .i64 u)]) (λ⟨S,x,T,y,t,u⟩=>flat S/\flat T) (λ⟨S,x,T,y,t,u⟩=>stM S x T y) λ⟨S,x,T,y,t,u⟩=> .sv (.bool (mtS S T t u))
def z7q(S:List AT) (x:SV) (t:Int):qm1 P (λ_=>none) Try.f25 z3q (λ_=>{}) ⟨S,x,t⟩=(List.length S<=(60:Nat)->(∃(p:Nat->Option Obj),True/\z03 S x p)->(decide ((0:Int)<=t)=true->isB S t=decide (t<(↑(Prod.fst (Prod.snd x)):Int))/\True)/\(decide ((0:Int)<=t)=false->isB S t=false/\True)):=by kernel_rfl
def zao(a b:Int):qm1 P (λ_=>none) Try.f36 zca (λ_=>{}) ⟨a,b⟩=(True->(decide (a=(3:Int))=true->(decide (b=(4:Int))=true->z2h a b=true/\True)/\(decide (b=(4:Int))=false->(decide (b=(5:Int))=true->z2h a b=true/\True)/\(decide (b=(5:Int))=false->z2h a b=decide (b=(6:Int))/\True)))/\(decide (a=(3:Int))=false->(decide (a=(4:Int))=true->(decide (b=(5:Int))=true->z2h a b=true/\True)/\(decide (b=(5:Int))=false->z2h a b=decide (b=(6:Int))/\True))/\(decide (a=(4:Int))=false->(decide (a=(5:Int))=true->z2h a b=decide (b=(6:Int))/\True)/\(decide (a=(5:Int))=false->(decide (a=(8:Int))=true->z2h a b=decide (b=(7:Int))/\True)/\(decide (a=(8:Int))=false->z2h a b=false/\True))))):=by kernel_rfl
section
variable (x0:ByteArray) (x1:Nat)
 abbrev zbp:=x1<=size x0/\z10 x0 46 x1=z10 x0 46 (size x0)
 def zdq:=Jb ((↑x1:Int)- 1- 1)/\∃(i0:Nat),x0=x0/\(↑i0:Int)- 1=(↑x1:Int)- 1- 1/\(zbp x0 i0)/\i0<x1/\True
 def zdp:=(0<=(↑x1:Int)- 1/\(↑x1:Int)- 1<(↑(size x0):Int))/\Ji ((↑(bat x0 (toNat ((↑x1:Int)- 1))):Int)=46) (z10 x0 46 (size x0)=(↑x1:Int)- 1/\True) (zdq x0 x1)
 def zdo:=Ji (0<=(↑x1:Int)- 1) (zdp x0 x1) (z10 x0 46 (size x0)= -1/\True)
 def zdn:=Jb ((↑(size x0):Int)- 1)/\(∃(i0:Nat),x0=x0/\(↑i0:Int)- 1=(↑(size x0):Int)- 1/\(zbp x0 i0)/\True)/\∀(i1:Nat),zbp x0 i1->zdo x0 i1
end
def z7y(s:ByteArray):qm1 P (λ_=>none) Try.f100 zc7 (zdm) s=(size s<1000000->zdn s):=by kernel_rfl
def za9:=λs=>Eq.trans (z7y s) (by delta Ji Jb Jt Jf zbp zdq zdp zdo zdn;exact rfl)
def zab(s:ByteArray):qm1 P (qh3 [(100,zc7)]) Try.f90 zc8 (λ_=>{}) s=(ByteArray.size s<(1000000:Nat)->∃(s_1:ByteArray),s_1=s/\ByteArray.size s_1<(1000000:Nat)/\z10 s (46:Nat) (ByteArray.size s)=z10 s_1 (46:Nat) (ByteArray.size s_1)/\True):=by kernel_rfl
def z69(s:ByteArray):qm1 P (qh3 [(90,zc8)]) Try.f63 z4a (λ_=>{}) s=(size s<(1000000:Nat)->∃(s_1:ByteArray),s_1=s/\size s_1<(1000000:Nat)/\((-9223372036854775808:Int)<=z10 s_1 (46:Nat) (size s_1)+(1:Int)/\z10 s_1 (46:Nat) (size s_1)+(1:Int)<=(9223372036854775807:Int))/\((0:Int)<=z10 s_1 (46:Nat) (size s_1)+(1:Int)/\z10 s_1 (46:Nat) (size s_1)+(1:Int)<=(↑(size s):Int))/\shB s=ByteArray.extract s (toNat (z10 s_1 (46:Nat) (size s_1)+(1:Int))) (size s)/\True):=by kernel_rfl
def zae(f:AF) (s:ByteArray):qm1 P (λ_=>none) Try.f103 zc9 (λ_=>{}) ⟨f,s⟩=(True->decide (AF.nm f=s)=decide (AF.nm f=s)/\s=s/\True):=by kernel_rfl
section
variable (x0:SV) (x1:ByteArray) (x2:List AF) (x3:Nat) (x4:AF×ByteArray) (x5:Prop)
 abbrev zaq:=x0.1=x0.1/\x0.2.1=x0.2.1/\x0.2.2=x0.2.2/\x5
 abbrev z8a:=(↑x0.2.1:Int)
 def zch:=(∀i0,True/\slP AF.cells x0 x2 i0->True/\slP AF.cells x0 x2 i0)/\(x3<=length x2/\ixN x1 (drop x3 x2) x3=ixN x1 x2 0)/\x5
 def zdu:=Jb ((↑x3:Int)+1)/\∃(i0:Nat),zaq x0 ((z8a x0)=(z8a x0)/\(↑i0:Int)=(↑x3:Int)+1/\zaq x0 (x1=x4.2/\zch x0 x1 x2 i0 (length x2- i0<length x2- x3/\True)))
 def zdt:=(0<=(↑x3:Int)/\(↑x3:Int)<(z8a x0))/\x0.1≠noA/\∃i0,∃i1,∃(i2:Nat),∃(i3:Nat),∃(i4:Int),∃(i5:Bool),∃(i6:Int),∃(i7:Int),∃i8,∃i9,∃(i10:Nat),∃(i11:Nat),∃i12,∃(i13:Nat),∃(i14:Nat),(∀i15,True/\slP AF.cells x0 x2 i15->q3q i15 (adr x0.1 (toNat (↑x3:Int)*9)) [string i0,slice i1 i2 i3,int i64 i4,bool i5,int i64 i6,int i64 i7,string i8,slice i9 i10 i11,slice i12 i13 i14])/\∃(i16:AF×ByteArray),AF.nm i16.1=i0/\(AF.al i16.1).1=i1/\(AF.al i16.1).2.1=i2/\(AF.al i16.1).2.2=i3/\AF.ty i16.1=i4/\AF.hd i16.1=i5/\GJ.k (AF.df i16.1)=i6/\GJ.n (AF.df i16.1)=i7/\GJ.s (AF.df i16.1)=i8/\(GJ.y (AF.df i16.1)).1=i9/\(GJ.y (AF.df i16.1)).2.1=i10/\(GJ.y (AF.df i16.1)).2.2=i11/\(GJ.x (AF.df i16.1)).1=i12/\(GJ.x (AF.df i16.1)).2.1=i13/\(GJ.x (AF.df i16.1)).2.2=i14/\i16.2=x1/\True/\Ji (AF.nm i16.1=i16.2) (ixN x1 x2 (0:Nat)=(↑x3:Int)/\x1=i16.2/\True) (zdu x0 x1 x2 x3 i16)
 def zds:=Ji ((↑x3:Int)<(z8a x0)) (zdt x0 x1 x2 x3) (ixN x1 x2 (0:Nat)= -1/\x1=x1/\True)
 def zdr:=(∃(i0:Nat),zaq x0 ((z8a x0)=(z8a x0)/\(↑i0:Int)=0/\zaq x0 (x1=x1/\zch x0 x1 x2 i0 True)))/\∀(i2:Nat),i2<=length x2/\ixN x1 (drop i2 x2) i2=ixN x1 x2 0->zds x0 x1 x2 i2
end
def z7r(x:SV) (l:List AF) (s:ByteArray):qm1 P (qh3 [(103,zc9)]) Try.f102 zbl (zdj) ⟨x,l,s⟩=(length l<=1000->(∃(p:Pub),True/\slP AF.cells x l p)->zdr x s l):=by kernel_rfl
def za4:=λx l s=>Eq.trans (z7r x l s) (by delta Ji Jb Jt Jf zaq z8a zch zdu zdt zds zdr;exact rfl)
def z3x(a:AT) (s:ByteArray):qm1 P (qh3 [(102,zbl)]) Try.f91 z48 (λ_=>{}) ⟨a,s⟩=(length (AT.fs a)<=(1000:Nat)->(∃(p:Nat->Option Obj),True/\AT.ok a p)->∃(s_1:(Option Addr×Nat×Nat)×List AF×ByteArray),Prod.fst s_1.1=Prod.fst (AT.f a)/\Prod.fst (Prod.snd s_1.1)=Prod.fst (Prod.snd (AT.f a))/\Prod.snd (Prod.snd s_1.1)=Prod.snd (Prod.snd (AT.f a))/\Prod.snd s_1.2=s/\length (Prod.fst s_1.2)<=(1000:Nat)/\(∀(p:Nat->Option Obj),True/\AT.ok a p->slP AF.cells s_1.1 s_1.2.1 p)/\ixN s (AT.fs a) (0:Nat)=ixN s_1.2.2 s_1.2.1 (0:Nat)/\True):=by kernel_rfl
section
variable (x0:AT) (x1:AF) (x2:Prop) (x3:AT×ByteArray) (x4:Nat->Option Obj)
 abbrev z2d:=True/\AT.ok x0 x4/\AF.ok x1 x4
 def zci:=AT.k x3.1=AT.k x0/\AT.nm x3.1=AT.nm x0/\(AT.al x3.1).1=(AT.al x0).1/\(AT.al x3.1).2.1=(AT.al x0).2.1/\(AT.al x3.1).2.2=(AT.al x0).2.2/\AT.it x3.1=AT.it x0/\(AT.sy x3.1).1=(AT.sy x0).1/\(AT.sy x3.1).2.1=(AT.sy x0).2.1/\(AT.sy x3.1).2.2=(AT.sy x0).2.2/\AT.hd x3.1=AT.hd x0/\AT.df x3.1=AT.df x0/\AT.sz x3.1=AT.sz x0/\(AT.f x3.1).1=(AT.f x0).1/\(AT.f x3.1).2.1=(AT.f x0).2.1/\(AT.f x3.1).2.2=(AT.f x0).2.2/\(AT.br x3.1).1=(AT.br x0).1/\(AT.br x3.1).2.1=(AT.br x0).2.1/\(AT.br x3.1).2.2=(AT.br x0).2.2/\x2
 abbrev z8b:=if(0:Int)<=ixN (AF.nm x1) (AT.fs x0) 0 then ixN (AF.nm x1) (AT.fs x0) 0 else 0
 def zdy:=(z8b x0 x1)=ixN x3.2 (AT.fs x3.1) 0/\Jt (0<=ixN (AF.nm x1) (AT.fs x0) 0)/\True
 def zcj:=length (AT.fs x3.1)<=1000/\(∀i0,z2d x0 x1 i0->AT.ok x3.1 i0)/\(Jt (0<=ixN x3.2 (AT.fs x3.1) 0)->zdy x0 x1 x3)/\x2
 def zbq:=(AF.al x1).1=(AF.al x1).1/\(AF.al x1).2.1=(AF.al x1).2.1/\(AF.al x1).2.2=(AF.al x1).2.2/\x2
 def zar:=AT.k x0=AT.k x0/\AT.nm x0=AT.nm x0/\(AT.al x0).1=(AT.al x0).1/\(AT.al x0).2.1=(AT.al x0).2.1/\(AT.al x0).2.2=(AT.al x0).2.2/\AT.it x0=AT.it x0/\(AT.sy x0).1=(AT.sy x0).1/\(AT.sy x0).2.1=(AT.sy x0).2.1/\(AT.sy x0).2.2=(AT.sy x0).2.2/\AT.hd x0=AT.hd x0/\AT.df x0=AT.df x0/\AT.sz x0=AT.sz x0/\(AT.f x0).1=(AT.f x0).1/\(AT.f x0).2.1=(AT.f x0).2.1/\(AT.f x0).2.2=(AT.f x0).2.2/\(AT.br x0).1=(AT.br x0).1/\(AT.br x0).2.1=(AT.br x0).2.1/\(AT.br x0).2.2=(AT.br x0).2.2/\AF.nm x1=AF.nm x1/\zbq x1 (AF.ty x1=AF.ty x1/\AF.hd x1=AF.hd x1/\GJ.k (AF.df x1)=GJ.k (AF.df x1)/\GJ.n (AF.df x1)=GJ.n (AF.df x1)/\GJ.s (AF.df x1)=GJ.s (AF.df x1)/\(GJ.y (AF.df x1)).1=(GJ.y (AF.df x1)).1/\(GJ.y (AF.df x1)).2.1=(GJ.y (AF.df x1)).2.1/\(GJ.y (AF.df x1)).2.2=(GJ.y (AF.df x1)).2.2/\(GJ.x (AF.df x1)).1=(GJ.x (AF.df x1)).1/\(GJ.x (AF.df x1)).2.1=(GJ.x (AF.df x1)).2.1/\(GJ.x (AF.df x1)).2.2=(GJ.x (AF.df x1)).2.2/\x2)
 abbrev z2s:=(↑(AF.al x1).2.1:Int)
 def zdz:=((-9223372036854775808:Int)<=0+1/\(0:Int)+1<=9223372036854775807)/\∃(i0:Unit),zar x0 x1 ((z2s x1)=(z2s x1)/\(0:Int)=0+1/\zbq x1 (zar x0 x1 ((∀i1,z2d x0 x1 i1->z2d x0 x1 i1)/\True/\(0:Nat)<0/\True)))
 def zdx:=((0:Int)<=0/\0<(z2s x1))/\(AF.al x1).1≠noA/\∃i0,(∀i1,z2d x0 x1 i1->q3q i1 (adr (AF.al x1).1 ((0:Nat)*1)) [string i0])/\∃(i2:AT×ByteArray),zci x0 (i2.2=i0/\zcj x0 x1 ((Jf (0<=ixN i2.2 (AT.fs i2.1) 0)->zdz x0 x1)) i2) i2
 def ze0:=(z8b x0 x1)=0/\Jf (0<=ixN (AF.nm x1) (AT.fs x0) 0)/\True
 def zdw:=Ji (0<(z2s x1)) (zdx x0 x1) (ze0 x0 x1)
 def zdv:=(∃(i0:Unit),zar x0 x1 ((z2s x1)=(z2s x1)/\(0:Int)=0/\zbq x1 (zar x0 x1 ((∀i1,z2d x0 x1 i1->z2d x0 x1 i1)/\True/\True))))/\∀(i2:Unit),True->zdw x0 x1
end
def z2l(a:AT) (f:AF):qm1 P (qh3 [(91,z48)]) Try.f67 z2x (z75) ⟨a,f⟩=(length (AT.fs a)<=1000/\AF.als f=[]->(∃(p:Pub),z2d a f p)->∃(s:AT×ByteArray),zci a (s.2=AF.nm f/\zcj a f ((Jf (0<=ixN s.2 (AT.fs s.1) 0)->zdv a f)) s) s):=by kernel_rfl
def z3u:=λa f=>Eq.trans (z2l a f) (by delta Ji Jt Jf z2d zci z8b zdy zcj zbq zar z2s zdz zdx ze0 zdw zdv;exact rfl)
section
variable (x0:SV) (x1:ByteArray) (x2:Prop)
 abbrev zck:=x0.1=x0.1/\x0.2.1=x0.2.1/\x0.2.2=x0.2.2/\x2
 abbrev zas:=(↑x0.2.1:Int)
 def ze3:=((0:Int)<=0/\0<(zas x0))/\x0.1≠noA/\∃i0,(∀i1,True->q3q i1 (adr x0.1 ((0:Nat)*1)) [string i0])/\False
 def ze2:=Ji (0<(zas x0)) (ze3 x0) ((-1:Int)= -1/\x1=x1/\True)
 def ze1:=(∃(i0:Unit),zck x0 ((zas x0)=(zas x0)/\(0:Int)=0/\zck x0 (x1=x1/\True/\True)))/\∀(i1:Unit),True->ze2 x0 x1
end
def z5u(x:SV) (s:ByteArray):qm1 P (λ_=>none) Try.f65 cIf (wIf) ⟨x,s⟩=(x.2.1=0->ze1 x s):=by kernel_rfl
def z7n:=λx s=>Eq.trans (z5u x s) (by delta Ji Jt Jf zck zas ze3 ze2 ze1;exact rfl)
def z7d(x:SV) (s:ByteArray):qm1 P (qh3 [(65,cIf)]) Try.f40 cCf (λ_=>{}) ⟨x,s⟩=(Prod.fst (Prod.snd x)=(0:Nat)->∃(s_1:(Option Addr×Nat×Nat)×ByteArray),Prod.fst s_1.1=Prod.fst x/\Prod.fst (Prod.snd s_1.1)=Prod.fst (Prod.snd x)/\Prod.snd (Prod.snd s_1.1)=Prod.snd (Prod.snd x)/\Prod.snd s_1=s/\Prod.fst (Prod.snd (Prod.fst s_1))=(0:Nat)/\false=decide ((0:Int)<=(-1:Int))/\s=Prod.snd s_1/\True):=by kernel_rfl
section
variable (x0 x1:ByteArray) (x2 x3:AT)
 abbrev z8c:=decide (shB x0=shB x1)=decide (shB x0=shB x1)
 def zbr:=AV.sv (string (shB x0))=AV.sv (string (shB x0))
 def zcl:=zbr x0/\z9r x2 x3=true/\True
 def ze5:=z8c x0 x1/\z8c x0 x1/\z8c x0 x1/\Ji (shB x0=shB x1) (zcl x1 x2 x3) (zbr x1/\False)
 def ze4:=z8c x0 x1/\z8c x0 x1/\z8c x0 x1/\∃(i0:(Option Addr×Nat×Nat)×ByteArray),i0.1.1=(AT.al x2).1/\i0.1.2.1=(AT.al x2).2.1/\i0.1.2.2=(AT.al x2).2.2/\i0.2=shB x1/\i0.1.2.1=0/\Ji (shB x0=shB x1) (zcl x1 x3 x2) (zbr x1/\z9r x3 x2=false/\True)
end
def z3s(a b:AT):qm1 P (qh3 [(63,z4a),(40,cCf)]) Try.f37 z2j (λ_=>{}) ⟨a,b⟩=((size (AT.nm a)<1000000/\size (AT.nm b)<1000000)/\AT.als b=[]->(∃(p:Pub),True/\AT.ok a p/\AT.ok b p)->∃(s:ByteArray),s=AT.nm a/\size s<1000000/\∃(s_1:ByteArray),s_1=AT.nm b/\size s_1<1000000/\Ji (shB s_1=shB s) (ze5 s_1 s a b) (ze4 s_1 s b a)):=by kernel_rfl
def z4b:=λa b=>Eq.trans (z3s a b) (by delta Ji Jt Jf z8c zbr zcl ze5 ze4;exact rfl)
section
variable (x0:Int) (x1:SV) (x2 x3:List AT) (x4:SV) (x5 x6 x7 x8:Int) (x9:ByteArray) (x10:Option Addr) (x11 x12:Nat) (x13:Int) (x14:Option Addr) (x15 x16:Nat) (x17:Bool) (x18:ByteArray) (x19:Option Addr) (x20 x21:Nat) (x22:Option Addr) (x23 x24:Nat) (x25:Int) (x26:ByteArray) (x27:Option Addr) (x28 x29:Nat) (x30:Int) (x31:Option Addr) (x32 x33:Nat) (x34:Bool) (x35:ByteArray) (x36:Option Addr) (x37 x38:Nat) (x39:Option Addr) (x40 x41:Nat) (x42:Int) (x43:Nat->Option Obj) (x44:List AT×(Option Addr×Nat×Nat)×Int) (x45:Prop)
 abbrev zco:=x44.2.1.1=x1.1/\x44.2.1.2.1=x1.2.1/\x44.2.1.2.2=x1.2.2/\x44.2.2=x0/\length x44.1<=60/\x45
 def zcp:=(∀i0,True/\z03 x2 x1 i0/\z03 x3 x4 i0->z03 x44.1 x44.2.1 i0)/\((!isB x44.1 x44.2.2)=true->mtS x2 x3 x0 x5=false/\True)/\x45
 abbrev zbs:=q3q x43 (adr x1.1 (toNat x0*10)) [int i64 x5,string x9,slice x10 x11 x12,int i64 x6,slice x14 x15 x16,bool x17,string x18,int i64 x7,slice x19 x20 x21,slice x22 x23 x24]
 def zcn:=∃(i0:AT×AT),AT.k i0.1=x0/\AT.nm i0.1=x9/\(AT.al i0.1).1=x10/\(AT.al i0.1).2.1=x11/\(AT.al i0.1).2.2=x12/\AT.it i0.1=x5/\(AT.sy i0.1).1=x14/\(AT.sy i0.1).2.1=x15/\(AT.sy i0.1).2.2=x16/\AT.hd i0.1=x17/\AT.df i0.1=x18/\AT.sz i0.1=x6/\(AT.f i0.1).1=x19/\(AT.f i0.1).2.1=x20/\(AT.f i0.1).2.2=x21/\(AT.br i0.1).1=x22/\(AT.br i0.1).2.1=x23/\(AT.br i0.1).2.2=x24/\AT.k i0.2=x7/\AT.nm i0.2=x26/\(AT.al i0.2).1=x27/\(AT.al i0.2).2.1=x28/\(AT.al i0.2).2.2=x29/\AT.it i0.2=x8/\(AT.sy i0.2).1=x31/\(AT.sy i0.2).2.1=x32/\(AT.sy i0.2).2.2=x33/\AT.hd i0.2=x34/\AT.df i0.2=x35/\AT.sz i0.2=x13/\(AT.f i0.2).1=x36/\(AT.f i0.2).2.1=x37/\(AT.f i0.2).2.2=x38/\(AT.br i0.2).1=x39/\(AT.br i0.2).2.1=x40/\(AT.br i0.2).2.2=x41/\((size (AT.nm i0.1)<1000000/\size (AT.nm i0.2)<1000000)/\AT.als i0.2=[])/\(∀i1,True/\z03 x2 x1 i1/\z03 x3 x4 i1->AT.ok i0.1 i1/\AT.ok i0.2 i1)/\mtS x2 x3 x25 x30=z9r i0.1 i0.2/\True
 def ze9:=Ji (x0=x5) (zcn x6 x1 x2 x3 x4 x7 x0 x8 x13 x9 x10 x11 x12 x5 x14 x15 x16 x17 x18 x19 x20 x21 x22 x23 x24 x25 x26 x27 x28 x29 x30 x31 x32 x33 x34 x35 x36 x37 x38 x39 x40 x41) (mtS x2 x3 x25 x30=false/\True)
 def zea:=Ji (1<=x0) (mtS x2 x3 x5 x6=decide (x0<=14)/\True) (mtS x2 x3 x5 x6=false/\True)
 def zcm:=Ji (x0=x42) (zcn x0 x1 x2 x3 x4 x5 x6 x7 x8 x9 x10 x11 x12 x13 x14 x15 x16 x17 x18 x19 x20 x21 x22 x23 x24 x25 x26 x27 x28 x29 x30 x31 x32 x33 x34 x35 x36 x37 x38 x39 x40 x41) (zea x0 x2 x3 x25 x30)
 def ze8:=Ji (x0=11) (ze9 x5 x1 x2 x3 x4 x6 x0 x7 x8 x9 x10 x11 x12 x13 x14 x15 x16 x17 x18 x19 x20 x21 x22 x23 x24 x25 x26 x27 x28 x29 x30 x31 x32 x33 x34 x35 x36 x37 x38 x39 x40 x41) (Ji (x0=9) (zcm x0 x1 x2 x3 x4 x7 x5 x8 x13 x9 x10 x11 x12 x6 x14 x15 x16 x17 x18 x19 x20 x21 x22 x23 x24 x25 x26 x27 x28 x29 x30 x31 x32 x33 x34 x35 x36 x37 x38 x39 x40 x41 9) (zcm x0 x1 x2 x3 x4 x7 x5 x8 x13 x9 x10 x11 x12 x6 x14 x15 x16 x17 x18 x19 x20 x21 x22 x23 x24 x25 x26 x27 x28 x29 x30 x31 x32 x33 x34 x35 x36 x37 x38 x39 x40 x41 10))
 def ze7:=Ji (x0=14) (mtS x2 x3 x5 x6=false/\True) (ze8 x0 x1 x2 x3 x4 x7 x8 x13 x25 x9 x10 x11 x12 x30 x14 x15 x16 x17 x18 x19 x20 x21 x22 x23 x24 x5 x26 x27 x28 x29 x6 x31 x32 x33 x34 x35 x36 x37 x38 x39 x40 x41)
 def ze6:=(0<=x0/\x0<(↑x1.2.1:Int))/\x1.1≠noA/\∃(i0:Int),∃i1,∃i2,∃(i3:Nat),∃(i4:Nat),∃(i5:Int),∃i6,∃(i7:Nat),∃(i8:Nat),∃(i9:Bool),∃i10,∃(i11:Int),∃i12,∃(i13:Nat),∃(i14:Nat),∃i15,∃(i16:Nat),∃(i17:Nat),(∀i18,True/\z03 x2 x1 i18/\z03 x3 x4 i18->zbs x0 x1 i0 i5 i11 i1 i2 i3 i4 i6 i7 i8 i9 i10 i12 i13 i14 i15 i16 i17 i18)/\(0<=x5/\x5<(↑x4.2.1:Int))/\x4.1≠noA/\∃(i19:Int),∃i20,∃i21,∃(i22:Nat),∃(i23:Nat),∃(i24:Int),∃i25,∃(i26:Nat),∃(i27:Nat),∃(i28:Bool),∃i29,∃(i30:Int),∃i31,∃(i32:Nat),∃(i33:Nat),∃i34,∃(i35:Nat),∃(i36:Nat),(∀i37,True/\z03 x2 x1 i37/\z03 x3 x4 i37->zbs x5 x4 i19 i24 i30 i20 i21 i22 i23 i25 i26 i27 i28 i29 i31 i32 i33 i34 i35 i36 i37)/\AV.sv (slice x4.1 x4.2.1 x4.2.2)=AV.sv (slice x4.1 x4.2.1 x4.2.2)/\∃(i38:Int),∃i39,∃i40,∃(i41:Nat),∃(i42:Nat),∃(i43:Int),∃i44,∃(i45:Nat),∃(i46:Nat),∃(i47:Bool),∃i48,∃(i49:Int),∃i50,∃(i51:Nat),∃(i52:Nat),∃i53,∃(i54:Nat),∃(i55:Nat),(∀i56,True/\z03 x2 x1 i56/\z03 x3 x4 i56->zbs x5 x4 i38 i43 i49 i39 i40 i41 i42 i44 i45 i46 i47 i48 i50 i51 i52 i53 i54 i55 i56)/\AV.agg [AV.sv (int i64 i38),AV.sv (string i39),AV.sv (slice i40 i41 i42),AV.sv (int i64 i43),AV.sv (slice i44 i45 i46),AV.sv (bool i47),AV.sv (string i48),AV.sv (int i64 i49),AV.sv (slice i50 i51 i52),AV.sv (slice i53 i54 i55)]=AV.agg [AV.sv (int i64 i19),AV.sv (string i20),AV.sv (slice i21 i22 i23),AV.sv (int i64 i24),AV.sv (slice i25 i26 i27),AV.sv (bool i28),AV.sv (string i29),AV.sv (int i64 i30),AV.sv (slice i31 i32 i33),AV.sv (slice i34 i35 i36)]/\((!decide (i0=i19))=true->∃(i57:Int×Int),i57.1=i0/\i57.2=i19/\True/\mtS x2 x3 x0 x5=z2h i57.1 i57.2/\True)/\((!decide (i0=i19))=false->ze7 i0 x1 x2 x3 x4 x0 x5 i11 i30 i1 i2 i3 i4 i5 i6 i7 i8 i9 i10 i12 i13 i14 i15 i16 i17 i19 i20 i21 i22 i23 i24 i25 i26 i27 i28 i29 i31 i32 i33 i34 i35 i36)
end
def z4n(S:List AT) (x:SV) (T:List AT) (y:SV) (t u:Int):qm1 P (qh3 [(25,z3q),(36,zca),(37,z2j)]) Try.f24 z2z (λ_=>{}) ⟨S,x,T,y,t,u⟩=(flat S/\flat T->(∃(p:Pub),True/\z03 S x p/\z03 T y p)->∃(s:List AT×(Option Addr×Nat×Nat)×Int),zco t x s (zcp t x S T y u s (((!isB s.1 s.2.2)=false->∃(s:List AT×(Option Addr×Nat×Nat)×Int),zco u y s (zcp t x S T y u s (((!isB s.1 s.2.2)=false->ze6 t x S T y u))))))):=by kernel_rfl
def z60:=λS x T y t u=>Eq.trans (z4n S x T y t u) (by delta Ji Jt Jf zco zcp zbs zcn ze9 zea zcm ze8 ze7 ze6;exact rfl)
def z1n:q5s P 25 z3q:=by
 refine qm4 mixed z0n (W:=λ_=>{}) Try.func25 (by kernel_rfl) (by decide) (by decide) (λs=>by kernel_rfl) λ⟨S,(x:SV),t⟩=>(z7q S x t).mpr ?_
 rintro hS ⟨p,_,hx⟩
 have hxl:x.2.1=S.length:=hx.1.1
 simp only[hxl]
 simp only[sbS,Int.toNat_natCast,exists_const]
 refine⟨λh=>by unfold isB;rw[decide_eq_true h,Bool.true_and],λh=>by unfold isB;rw[decide_eq_false h,Bool.false_and]⟩
def zap:q5s P 36 zca:=by
 refine qm4 mixed z0n (W:=λ_=>{}) Try.func36 (by kernel_rfl) (by decide) (by decide) (λs=>by kernel_rfl) λ⟨(a:Int),(b:Int)⟩=>(zao a b).mpr ?_
 intro _
 simp only[sbS,Int.toNat_natCast,exists_const]
 refine⟨λh=> ?_,λh=>⟨λh4=> ?_,λh4=>⟨λh5=> ?_,λh5=>⟨λh8=> ?_,λh8=> ?_⟩⟩⟩⟩
 ·subst h
  refine⟨λhb=>by subst hb;rfl,λhb=>⟨λhc=>by subst hc;rfl,λhc=> ?_⟩⟩
  unfold z2h;rw[if_pos rfl,decide_eq_false hb,decide_eq_false hc,Bool.false_or,Bool.false_or]
 ·subst h4
  refine⟨λhb=>by subst hb;rfl,λhb=> ?_⟩
  unfold z2h;rw[if_neg h,if_pos rfl,decide_eq_false hb,Bool.false_or]
 ·subst h5
  unfold z2h;rw[if_neg h,if_neg h4,if_pos rfl]
 ·subst h8
  unfold z2h;rw[if_neg h,if_neg h4,if_neg h5,if_pos rfl]
 ·unfold z2h;rw[if_neg h,if_neg h4,if_neg h5,if_neg h8]
def z4m(s:ByteArray) (c:Nat):∀n, -1<=z10 s c n/\z10 s c n<n
  |0=>⟨by unfold z10;omega,by unfold z10;omega⟩
  | n+1=>by
    have ih:=z4m s c n
    unfold z10
    by_cases h:bat s n=c
    · rw[if_pos h];omega
    · rw[if_neg h];omega
def zaa:q5s P 100 zc7:=by
 refine qm4 mixed z0n (W:=zdm) Try.func100 (by kernel_rfl) (by decide) (by decide) (λs=>by kernel_rfl) λ(s:ByteArray)=>(za9 s).mpr ?_
 intro hs
 simp only[sbS,Int.toNat_natCast,exists_const]
 refine⟨⟨by omega,by omega⟩,⟨s.size,rfl,Nat.le_refl _,rfl⟩,?_⟩
 rintro i ⟨hi,he⟩
 refine⟨λh0=> ?_,λh0=> ?_⟩
 ·obtain⟨j,rfl⟩:∃j,i=j+1:=⟨i- 1,by omega⟩
  have e1:(((j+1:Nat):Int)- 1).toNat=j:=by omega
  rw[e1]
  have hl:z10 s 46 (j+1)=if bat s j=46 then(j:Int)else z10 s 46 j:=rfl
  refine⟨⟨by omega,by omega⟩,λhb=> ?_,λhb=>⟨⟨by omega,by omega⟩,j,by omega,⟨by omega,?_⟩,by omega⟩⟩
  ·rw[←he,hl,if_pos (by omega)];omega
  ·rw[←he,hl,if_neg (by omega)]
 ·obtain rfl:i=0:=by omega
  rw[←he];rfl
def zac:q5s P 90 zc8:=by
 refine qm4 mixed (qef (qij zaa qlr)) (W:=λ_=>{}) Try.func90 (by kernel_rfl) (by decide) (by decide) (λs=>by kernel_rfl) λ(s:ByteArray)=>(zab s).mpr ?_
 intro hs
 exact⟨s,rfl,hs,rfl,trivial⟩
def z6a:q5s P 63 z4a:=by
 refine qm4 mixed (qef (qij zac qlr)) (W:=λ_=>{}) Try.func63 (by kernel_rfl) (by decide) (by decide) (λs=>by kernel_rfl) λ(s:ByteArray)=>(z69 s).mpr ?_
 intro hs
 have:=z4m s 46 s.size
 exact⟨s,rfl,hs,⟨by omega,by omega⟩,⟨by omega,by omega⟩,rfl,trivial⟩
def zaf:q5s P 103 zc9:=by
 refine qm4 mixed z0n (W:=λ_=>{}) Try.func103 (by kernel_rfl) (by decide) (by decide) (λs=>by kernel_rfl) λ⟨(f:AF),(s:ByteArray)⟩=>(zae f s).mpr ?_
 simp only[sbS,Int.toNat_natCast,exists_const]
def z37{s:ByteArray} {l:List AF} {i:Nat} (h:i<l.length):ixN s (l.drop i) i=if l[i].nm=s then(i:Int)else ixN s (l.drop (i+1)) (i+1):=by
 rw[List.drop_eq_getElem_cons h,ixN]
def z70{s:ByteArray}:∀(l:List AF) (i:Nat), -1<=ixN s l i/\ixN s l i<i+l.length
  | [],i=>⟨by unfold ixN;omega,by unfold ixN;omega⟩
  | f::l,i=>by
    have ih:=z70 (s:=s) l (i+1)
    unfold ixN
    rw[List.length_cons]
    by_cases h:f.nm=s
    · rw[if_pos h];omega
    · rw[if_neg h];omega
def za5:q5s P 102 zbl:=by
 refine qm4 mixed (qef (qij zaf qlr)) (W:=zdj) Try.func102 (by kernel_rfl) (by decide) (by decide) (λs=>by kernel_rfl) λ⟨(x:SV),l,(s:ByteArray)⟩=>(za4 x l s).mpr ?_
 rintro hl ⟨p,_,hx⟩
 have hxl:x.2.1=l.length:=hx.1
 simp only[hxl]
 simp only[sbS,Int.toNat_natCast,exists_const]
 refine⟨⟨0,rfl,Nat.zero_le _,rfl⟩,?_⟩
 rintro i ⟨hi,he⟩
 refine⟨λhlt=> ?_,λhge=> ?_⟩
 ·have hi1:i<l.length:=by omega
  have B:=λ(q:Pub) (hq:slP AF.cells x l q)=>z06 z2w (by decide) hq hi1
  have hd:=z37 (s:=s) hi1
  refine⟨⟨by omega,by omega⟩,(B p hx).1,l[i].nm,l[i].al.1,l[i].al.2.1,l[i].al.2.2,l[i].ty,l[i].hd,l[i].df.k,l[i].df.n,l[i].df.s,l[i].df.y.1,l[i].df.y.2.1,l[i].df.y.2.2,l[i].df.x.1,l[i].df.x.2.1,l[i].df.x.2.2,λq hq=>(B q hq).2,(l[i],s),rfl,rfl,rfl,rfl,rfl,rfl,rfl,rfl,rfl,rfl,rfl,rfl,rfl,rfl,rfl,rfl,λhn=>⟨?_,rfl⟩,λhn=>⟨⟨by omega,by omega⟩,i+1,by omega,rfl,⟨by omega,?_⟩,by omega⟩⟩
  ·rw[←he,hd,if_pos hn]
  ·rw[←he,hd,if_neg hn]
 ·obtain rfl:i=l.length:=by omega
  rw[←he,List.drop_length];rfl
def z3y:q5s P 91 z48:=by
 refine qm4 mixed (qef (qij za5 qlr)) (W:=λ_=>{}) Try.func91 (by kernel_rfl) (by decide) (by decide) (λs=>by kernel_rfl) λ⟨(a:AT),(s:ByteArray)⟩=>(z3x a s).mpr ?_
 rintro ha -
 exact⟨(a.f,a.fs,s),rfl,rfl,rfl,rfl,ha,λp hp=>hp.2.2.2.1,rfl,trivial⟩
def z3v:q5s P 67 z2x:=by
 refine qm4 mixed (qef (qij z3y qlr)) (W:=z75) Try.func67 (by kernel_rfl) (by decide) (by decide) (λs=>by kernel_rfl) λ⟨(a:AT),(f:AF)⟩=>(z3u a f).mpr ?_
 rintro⟨ha,hal⟩ ⟨p,_,hp1,hp2⟩
 have h0:f.al.2.1=0:=by rw[hp2.1.1,hal];rfl
 simp only[h0]
 simp only[sbS,Int.toNat_natCast,exists_const]
 refine⟨(a,f.nm),rfl,rfl,rfl,rfl,rfl,rfl,rfl,rfl,rfl,rfl,rfl,rfl,rfl,rfl,rfl,rfl,rfl,rfl,rfl,ha,λq hq=>hq.1,λh=>⟨if_pos h,h⟩,λh _ _=>⟨λhc=>absurd hc (by omega),λ_=>⟨if_neg h,h⟩⟩⟩
def z7o:q5s P 65 cIf:=by
 refine qm4 mixed z0n (W:=wIf) Try.func65 (by kernel_rfl) (by decide) (by decide) (λs=>by kernel_rfl) λ⟨(x:SV),(s:ByteArray)⟩=>(z7n x s).mpr ?_
 intro h0
 have h0:x.2.1=0:=h0
 simp only[h0]
 simp only[sbS,Int.toNat_natCast,exists_const]
 exactλ_ _ hc=>absurd hc (by omega)
def z7e:q5s P 40 cCf:=by
 refine qm4 mixed (qef (qij z7o qlr)) (W:=λ_=>{}) Try.func40 (by kernel_rfl) (by decide) (by decide) (λs=>by kernel_rfl) λ⟨(x:SV),(s:ByteArray)⟩=>(z7d x s).mpr ?_
 intro h0
 exact⟨(x,s),rfl,rfl,rfl,rfl,h0,rfl,rfl,trivial⟩
def z4c:q5s P 37 z2j:=by
 refine qm4 mixed (qef (qij z6a (qij z7e qlr))) (W:=λ_=>{}) Try.func37 (by kernel_rfl) (by decide) (by decide) (λs=>by kernel_rfl) λ⟨(a:AT),(b:AT)⟩=>(z4b a b).mpr ?_
 rintro⟨⟨ha,hb⟩,hal⟩ ⟨p,_,hp1,hp2⟩
 have h0:b.al.2.1=0:=by rw[hp2.1.1,hal];rfl
 refine⟨a.nm,rfl,ha,b.nm,rfl,hb,λh=>⟨rfl,rfl,rfl,λ_=>⟨rfl,h,trivial⟩,λh2=>absurd (h.symm.trans h2) (by decide)⟩,λh=>⟨rfl,rfl,rfl,(b.al,shB a.nm),rfl,rfl,rfl,rfl,h0,λh2=>absurd (h2.symm.trans h) (by decide),λ_=>⟨rfl,h,trivial⟩⟩⟩
def z3g{S T:List AT} {i j:Nat} (hi:i<S.length) (hj:j<T.length):mtS S T i j=mtB S[i] T[j]:=by
 have e1:isB S i=true:=by unfold isB;rw[decide_eq_true (by omega),decide_eq_true (by omega)];rfl
 have e2:isB T j=true:=by unfold isB;rw[decide_eq_true (by omega),decide_eq_true (by omega)];rfl
 unfold mtS
 rw[Int.toNat_natCast,Int.toNat_natCast,List.getElem?_eq_getElem hi,List.getElem?_eq_getElem hj]
 simp only[e1,e2,Bool.true_and]
def z4o{S T:List AT} {t u:Int} (h:isB S t=false\/isB T u=false):mtS S T t u=false:=by
 unfold mtS
 split
 ·rcases h with h|h<;>simp[h]
 ·rfl
def z0q{S:List AT} {t:Int} (h:isB S t=true):∃i:Nat,t=i/\i<S.length:=by
 unfold isB at h
 simp only[Bool.and_eq_true,decide_eq_true_eq]at h
 exact⟨t.toNat,by omega,by omega⟩
def z3f:q5s P 24 z2z:=by
 refine qm4 mixed (qef (qij z1n (qij zap (qij z4c qlr)))) (W:=λ_=>{}) Try.func24 (by kernel_rfl) (by decide) (by decide) (λs=>by kernel_rfl) λ⟨S,(x:SV),T,(y:SV),t,u⟩=>(z60 S x T y t u).mpr ?_
 rintro⟨hS,hT⟩ ⟨p,_,hx,hy⟩
 have hxl:x.2.1=S.length:=hx.1.1
 have hyl:y.2.1=T.length:=hy.1.1
 refine⟨(S,x,t),rfl,rfl,rfl,rfl,hS.1.1,λq hq=>hq.2.1,λh=>⟨z4o (.inl (by simpa using h)),trivial⟩,λh=> ?_⟩
 obtain⟨i,rfl,hi⟩:=z0q (S:=S) (t:=t) (by simpa using h)
 refine⟨(T,y,u),rfl,rfl,rfl,rfl,hT.1.1,λq hq=>hq.2.2,λh=>⟨z4o (.inr (by simpa using h)),trivial⟩,λh=> ?_⟩
 obtain⟨j,rfl,hj⟩:=z0q (S:=T) (t:=u) (by simpa using h)
 have hmt:=z3g (S:=S) (T:=T) hi hj
 have A:=λ(q:Pub) (hq:z03 S x q)=>z06 z23 (by decide) hq.1 hi
 have B:=λ(q:Pub) (hq:z03 T y q)=>z06 z23 (by decide) hq.1 hj
 have mA:=List.getElem_mem hi
 have mB:=List.getElem_mem hj
 obtain⟨a1,a2,a3⟩:=hS.2 _ mA
 obtain⟨b1,b2,b3⟩:=hT.2 _ mB
 have gA:=(hS.1.2 _ mA).1
 generalize hsa:S[i]=a at*
 generalize hsb:T[j]=b at*
 have C:=λ(q:Pub) (hq:True/\z03 S x q/\z03 T y q)=>(⟨hsa ▸ hq.2.1.2 _ (List.getElem_mem hi),hsb ▸ hq.2.2.2 _ (List.getElem_mem hj)⟩:a.ok q/\b.ok q)
 simp only[sbS,Int.toNat_natCast,exists_const]
 refine⟨⟨by omega,by omega⟩,(A p hx).1,a.k,a.nm,a.al.1,a.al.2.1,a.al.2.2,a.it,a.sy.1,a.sy.2.1,a.sy.2.2,a.hd,a.df,a.sz,a.f.1,a.f.2.1,a.f.2.2,a.br.1,a.br.2.1,a.br.2.2,λq hq=>(A q hq.1).2,⟨by omega,by omega⟩,(B p hy).1,b.k,b.nm,b.al.1,b.al.2.1,b.al.2.2,b.it,b.sy.1,b.sy.2.1,b.sy.2.2,b.hd,b.df,b.sz,b.f.1,b.f.2.1,b.f.2.2,b.br.1,b.br.2.1,b.br.2.2,λq hq=>(B q hq.2).2,b.k,b.nm,b.al.1,b.al.2.1,b.al.2.2,b.it,b.sy.1,b.sy.2.1,b.sy.2.2,b.hd,b.df,b.sz,b.f.1,b.f.2.1,b.f.2.2,b.br.1,b.br.2.1,b.br.2.2,λq hq=>(B q hq.2).2,?_⟩
 rw[hmt]
 unfold mtB
 refine⟨rfl,λh=>⟨(a.k,b.k),rfl,rfl,by rw[if_pos h]⟩,λhk=> ?_⟩
 rw[if_neg (λh=>h hk)]
 refine⟨λh=>by rw[if_pos h],λh14=> ?_⟩
 rw[if_neg h14]
 refine⟨λh=> ?_,λh11=> ?_⟩
 ·rw[if_pos h]
  exact⟨λhz=>⟨(a,b),rfl,rfl,rfl,rfl,rfl,rfl,rfl,rfl,rfl,rfl,rfl,rfl,rfl,rfl,rfl,rfl,rfl,rfl,rfl,rfl,rfl,rfl,rfl,rfl,rfl,rfl,rfl,rfl,rfl,rfl,rfl,rfl,rfl,rfl,rfl,rfl,⟨⟨a2,b2⟩,b1⟩,λq hq=>C q ⟨trivial,hq⟩,by rw[decide_eq_true hz,Bool.true_and]⟩,λhz=>by rw[decide_eq_false hz,Bool.false_and]⟩
 ·rw [if_neg h11]
  refine⟨λh=> ?_,λh9=> ?_⟩
  ·rw[if_pos (Or.inl h)]
   exact⟨λ_=>⟨(a,b),rfl,rfl,rfl,rfl,rfl,rfl,rfl,rfl,rfl,rfl,rfl,rfl,rfl,rfl,rfl,rfl,rfl,rfl,rfl,rfl,rfl,rfl,rfl,rfl,rfl,rfl,rfl,rfl,rfl,rfl,rfl,rfl,rfl,rfl,rfl,rfl,⟨⟨a2,b2⟩,b1⟩,λq hq=>C q ⟨trivial,hq⟩,rfl⟩,λhn=>absurd h hn⟩
  ·refine⟨λh=> ?_,λh10=> ?_⟩
   ·rw[if_pos (Or.inr h)]
    exact⟨(a,b),rfl,rfl,rfl,rfl,rfl,rfl,rfl,rfl,rfl,rfl,rfl,rfl,rfl,rfl,rfl,rfl,rfl,rfl,rfl,rfl,rfl,rfl,rfl,rfl,rfl,rfl,rfl,rfl,rfl,rfl,rfl,rfl,rfl,rfl,rfl,rfl,⟨⟨a2,b2⟩,b1⟩,λq hq=>C q ⟨trivial,hq⟩,rfl⟩
   ·rw[if_neg (λh=>h.elim h9 h10)]
    exact⟨λ_=>(decide_eq_true gA.2).symm,λhn=>absurd gA.1 hn⟩
abbrev PR:=Int×Int
def prV(p:PR):List Value:=[.int .i64 p.1, .int .i64 p.2]
def pkV(p:PR):Value:= .agg ⟨[.int .i64 p.1, .int .i64 p.2]⟩
def mtI(ms:List MapEntry) (c B:Nat):Prop:=(∀e∈ms,(∃p,e.key=pkV p)/\(∃v:Int,e.val= .int .i64 v/\1<=v/\v<=B)/\e.born<c)/\(ms.map (·.born)).Nodup
def z0w(ms:List MapEntry) (c B:Nat) (M:List PR):Prop:=mtI ms c B/\∀q,qma (pkV q) ms=true↔q∈M
def inH(bs:List Bool) (t:Int):Bool:=decide (0<=t)&&(decide (t<bs.length)&&bs.getD t.toNat false)
def mtL(bs:List Bool) (M L:List PR) (p:PR):List PR:=if inH bs p.1=true/\p∉M then L++[p]else L
def mts(bs:List Bool):List PR->List PR×List PR->List PR×List PR
 | [],s=>s
 |p::ps,s=>mts bs ps (mtL bs s.1 s.1 p,mtL bs s.1 s.2 p)
def rlI(i j k:Nat) (x y z:SV) (L:List PR) (ms:List MapEntry) (c:Nat):List (Nat×AO):=[(i, .cells 78 (some 0) false [svA x,svA y,svA z, .map k, .usl j 0 L.length 2]),(j, .row 81 0 (z00 prV L)),(k, .mrow ms c)]
structure Rl where
 S:List AT
 x:SV
 T:List AT
 y:SV
 bs:List Bool
 z:SV
 M:List PR
 L:List PR
 ms:List MapEntry
 c:Nat
 B:Nat
def Rl.o(r:Rl):List (Nat×AO):=rlI 1 2 3 r.x r.y r.z r.L r.ms r.c
def fl9(S:List AT):Prop:=flat S/\∀a∈S,a.k<=9
def Rl.pre(r:Rl):Prop:=((fl9 r.S/\fl9 r.T)/\r.bs.length=r.S.length)/\z0w r.ms r.c r.B r.M/\r.B<1000000/\r.L.length<1000000
def Rl.pm(r:Rl):PF:=⟨true,λp=>(z03 r.S r.x p/\z03 r.T r.y p)/\slP boV r.z r.bs p,λ_ _ h e=>⟨⟨z0g h e.1.1,z0g h e.1.2⟩,z04 h e.2⟩⟩
def z3r:CtR where
 σ:=Rl×PR
 args:=λ⟨r,p⟩=>[.ptr 1 0, .sv (.int .i64 p.1), .sv (.int .i64 p.2)]
 h:=λ⟨r,p⟩=>r.o
 m:=4
 pre:=λ⟨r,p⟩=>r.pre
 mem:=λ⟨r,p⟩=>r.pm
 β:=λ_=>List PR×List MapEntry×Nat
 post:=λ⟨r,p⟩ ⟨L',ms',c'⟩=>L'=mtL r.bs r.M r.L p/\z0w ms' c' (r.B+1) (mtL r.bs r.M r.M p)
 pm:=λ_ _=>{}
 r:=λ_ _=>q0v
 h':=λ⟨r,p⟩ ⟨L',ms',c'⟩=>rlI 1 4 3 r.x r.y r.z L' ms' c'
 m':=5
def zal:z3r.σ->WayF:=λ_=>{}
def z0c(a:AT):List AF->List PR
 | []=>[]
 |f::l=>if 0<=ixN f.nm a.fs 0 then(((a.fs[(ixN f.nm a.fs 0).toNat]?).map AF.ty).getD 0,f.ty)::z0c a l else z0c a l
def fOK(a:AT) (f:AF):Prop:=0<=ixN f.nm a.fs 0\/f.hd=true
def z3i(r:Rl) (a b:AT) (n:Nat) (M' L':List PR):Prop:=(∀f∈b.fs.take n,fOK a f)/\(M',L')=mts r.bs (z0c a (b.fs.take n)) (r.M,r.L)
def z31:CtR where
 σ:=Rl×AT×AT
 args:=λ⟨r,a,b⟩=>[.ptr 1 0,a.av,b.av]
 h:=λ⟨r,a,b⟩=>r.o
 m:=4
 pre:=λ⟨r,a,b⟩=>r.pre/\(a∈r.S/\b∈r.T)/\r.L.length<900000/\r.B<900000
 mem:=λ⟨r,a,b⟩=>⟨true,λp=>r.pm.ok p/\a.ok p/\b.ok p,λ_ _ h e=>⟨r.pm.mono _ _ h e.1,AT.ok_mono h e.2.1,AT.ok_mono h e.2.2⟩⟩
 β:=λ_=>Bool×List PR×List PR×List MapEntry×Nat
 post:=λ⟨r,a,b⟩ ⟨v,M',L',ms',c'⟩=>(v=false->∃f∈b.fs,¬fOK a f)/\(v=true->z3i r a b b.fs.length M' L')/\z0w ms' c' (r.B+30) M'
 pm:=λ_ _=>{}
 r:=λ_ ⟨v,M',L',ms',c'⟩=> .sv (.bool v)
 h':=λ⟨r,a,b⟩ ⟨v,M',L',ms',c'⟩=>rlI 1 4 3 r.x r.y r.z L' ms' c'
 m':=5
def z2c:z31.σ->WayF:=λ⟨r,a,b⟩=>{
 spl:=λk=>match k with
  |8=>some 9
  |_=>none
 ann:=λ_ _ _=>some {σ:=Nat×List PR×List PR×List MapEntry×Nat,pre:=λ⟨i,M',L',ms',c'⟩=>i<=b.fs.length/\z3i r a b i M' L'/\z0w ms' c' (r.B+i) M'/\L'.length<=r.L.length+i,t:=λ⟨i,M',L',ms',c'⟩=>[(14, .sv (.int .i64 (i:Nat)))],h:=λ⟨i,M',L',ms',c'⟩=>rlI 1 40 3 r.x r.y r.z L' ms' c',more:=60,μ:=λ⟨i,M',L',ms',c'⟩=>b.fs.length- i,keep:=[0,4,5,12,13],del:=[2]}}
def z1d(S T:List AT) (p:PR):Prop:=isB T p.2=true/\mtS S T p.1 p.2=true/\∀a b,S[p.1.toNat]? =some a->T[p.2.toNat]? =some b->a.k=9->∀f∈b.fs,fOK a f
def z2g(S T:List AT) (p:PR):List PR:=match S[p.1.toNat]?,T[p.2.toNat]? with
 |some a,some b=>if a.k=9 then z0c a b.fs else []
 |_,_=>[]
def z2y:CtR where
 σ:=Rl×PR
 args:=λ⟨r,p⟩=>[.ptr 1 0, .sv (.int .i64 p.1), .sv (.int .i64 p.2)]
 h:=λ⟨r,p⟩=>r.o
 m:=4
 pre:=λ⟨r,p⟩=>r.pre/\(0<=p.1/\p.1<r.S.length)/\r.L.length<900000/\r.B<900000
 mem:=λ⟨r,p⟩=>r.pm
 β:=λ_=>Bool×List PR×List PR×List MapEntry×Nat
 post:=λ⟨r,p⟩ ⟨v,M',L',ms',c'⟩=>(v=false->¬z1d r.S r.T p)/\(v=true->z1d r.S r.T p/\(M',L')=mts r.bs (z2g r.S r.T p) (r.M,r.L))/\z0w ms' c' (r.B+30) M'
 pm:=λ_ _=>{}
 r:=λ_ ⟨v,M',L',ms',c'⟩=> .sv (.bool v)
 h':=λ⟨r,p⟩ ⟨v,M',L',ms',c'⟩=>rlI 1 4 3 r.x r.y r.z L' ms' c'
 m':=5
def z76:z2y.σ->WayF:=λ_=>{}
inductive rcQ(S T:List AT) (bs:List Bool) (p:PR):PR->Prop
 |root (h:inH bs p.1=true):rcQ S T bs p p
 |step {q q'} (h:rcQ S T bs p q) (hs:q'∈z2g S T q) (hi:inH bs q'.1=true):rcQ S T bs p q'
abbrev CkS:=List AT×SV×List AT×SV×Int×Int
def z24:CtR where
 σ:=CkS
 args:=λ⟨S,x,T,y,t,u⟩=>[scA x,scA y, .sv (.int .i64 t), .sv (.int .i64 u)]
 h:=λ_=>[]
 m:=1
 pre:=λ⟨S,x,T,y,t,u⟩=>fl9 S/\fl9 T/\isB S t=true/\isB T u=true
 mem:=λ⟨S,x,T,y,t,u⟩=>stM S x T y
 β:=λ_=>Bool
 post:=λ⟨S,x,T,y,t,u⟩ v=>∃bs l,bs.length=S.length/\rkE S l/\hasB l bs S.length/\(v=true↔∀q,rcQ S T bs (t,u) q->z1d S T q)
 pm:=λ_ _=>{}
 r:=λ_ v=> .sv (.bool v)
 h':=λ_ _=>[]
 m':=1
def ckI(S T:List AT) (t u:Int) (bs:List Bool) (D L:List PR) (ms:List MapEntry) (c:Nat):Prop:=
 (bs.length=S.length/\∃l,rkE S l/\hasB l bs S.length)/\z0w ms c (30*D.length+1) (D++L)/\(D++L).Nodup/\
 (∀q∈D++L,((0<=q.1/\q.1<S.length)/\0<=q.2/\q.2<T.length)/\rcQ S T bs (t,u) q)/\
 (∀q∈D,z1d S T q/\∀q'∈z2g S T q,inH bs q'.1=true->q'∈D++L)/\(inH bs t=true->(t,u)∈D++L)
def z74:z24.σ->WayF:=λ⟨S,x,T,y,t,u⟩=>{
 spl:=λk=>match k with
  |3=>some 3
  |_=>none
 flo:=λk=>match k with
  |3=>some (3,[0])
  |_=>none
 flu:=λk=>match k with
  |3=>[(3,[1]),(3,[4])]
  |_=>[]
 cut:=λk _ _=>match k with
  |4=>some {σ:=List Bool×SV,pre:=λ⟨bs,z⟩=>bs.length=S.length/\∃l,rkE S l/\hasB l bs S.length,mem:=λ⟨bs,z⟩=>boM z bs,t:=λ_=>[(9, .ptr 40 0)],h:=λ⟨bs,z⟩=>[(40, .cells 78 (some 0) false [svA x,svA y,svA z, .map 41, .nsl]),(41, .map [] 0)],more:=60,μ:=λ_=>0,keep:=[2,3]}
  |_=>none
 ann:=λ_ _ _=>some {σ:=List Bool×SV×List PR×List PR×List MapEntry×Nat,pre:=λ⟨bs,z,D,L,ms,c⟩=>ckI S T t u bs D L ms c,mem:=λ⟨bs,z,D,L,ms,c⟩=>boM z bs,t:=λ_=>[(9, .ptr 40 0)],h:=λ⟨bs,z,D,L,ms,c⟩=>rlI 40 41 42 x y z L ms c,more:=60,μ:=λ⟨bs,z,D,L,ms,c⟩=>S.length*T.length- D.length,keep:=[]}}
section
variable (x0:PR) (x1:Rl) (x2:Prop) (x3:List PR×List MapEntry×Nat) (x4:Int) (x5:Nat->Option Obj) (x6 x7:Int)
 abbrev z6i:=True/\(z03 (Rl.S x1) (Rl.x x1) x5/\z03 (Rl.T x1) (Rl.y x1) x5)/\slP boV (Rl.z x1) (Rl.bs x1) x5
 def zbt:=(Rl.x x1).1=(Rl.x x1).1/\(Rl.x x1).2.1=(Rl.x x1).2.1/\(Rl.x x1).2.2=(Rl.x x1).2.2/\(Rl.y x1).1=(Rl.y x1).1/\(Rl.y x1).2.1=(Rl.y x1).2.1/\(Rl.y x1).2.2=(Rl.y x1).2.2/\(Rl.z x1).1=(Rl.z x1).1/\(Rl.z x1).2.1=(Rl.z x1).2.1/\(Rl.z x1).2.2=(Rl.z x1).2.2/\x2
 def zbu:=(x3.1=mtL (Rl.bs x1) (Rl.M x1) (Rl.L x1) x0/\z0w x3.2.1 x3.2.2 (Rl.B x1+1) (mtL (Rl.bs x1) (Rl.M x1) (Rl.M x1) x0))/\True
 def z8d:=∃(i0:List PR×List MapEntry×Nat),zbt x1 (length i0.1=length (Rl.L x1)/\i0.2.1=Rl.ms x1/\i0.2.2=Rl.c x1/\z00 prV i0.1=z00 prV (Rl.L x1)/\zbu x0 x1 i0)
 abbrev z57:=TypeDesc.array 2 3
 abbrev z5g:=Value.agg (Array.mk [int i64 x0.1,int i64 x0.2])
 def z9u:=kOK (z57) (z5g x0)/\(∀(i0:MapEntry),i0∈Rl.ms x1->kOK (z57) (MapEntry.key i0))/\x2
 def zat:=qkk (z5g x0) (Rl.ms x1) (int i64 0)=int i64 x4
 abbrev z8g:=Jb (x4+1)
 abbrev z6j:=q28 (z5g x0) (int i64 x4) (Rl.ms x1) (Rl.c x1)
 def zcq:=zat x0 x1 x4/\qcm (↑(q8z (z5g x0) (Rl.ms x1) (Rl.c x1)):Int) (z6j x0 x1 x4)/\kOK (z57) (z5g x0)/\(∀(i0:MapEntry),i0∈q28 (z5g x0) (int i64 x4) (Rl.ms x1) (Rl.c x1)->kOK (z57) (MapEntry.key i0))/\x2
 def z8f:=qkk (z5g x0) (z6j x0 x1 x4) (int i64 0)=int i64 x6/\AV.sv (int i64 x6)=AV.sv (int i64 x7)/\x2
 def z8e:=x3.2.1=qkl (↑(q8z (z5g x0) (Rl.ms x1) (Rl.c x1)):Int) (int i64 (x4+1)) (z6j x0 x1 x6)/\x3.2.2=qew (z5g x0) (Rl.ms x1) (Rl.c x1)/\x2
 def zed:=length (Rl.L x1)*2<=length (z00 prV (Rl.L x1))/\(length (Rl.L x1)+nat_lit 1)*16<=140737488355328/\z9u x0 x1 (∃(i1:Int),zat x0 x1 i1/\z8g i1/\z9u x0 x1 (∃(i3:Int),zcq x0 x1 (∃(i5:Int),z8f x0 x1 (∃(i6:List PR×List MapEntry×Nat),zbt x1 (length i6.1=length (Rl.L x1)+nat_lit 1/\z8e x0 x1 (z00 prV i6.1=take (length (Rl.L x1)*2) (z00 prV (Rl.L x1))++[int i64 x0.1,int i64 x0.2]/\zbu x0 x1 i6) i6 i1 i3)) i3 i5 i1) i3))
 def zee:=z9u x0 x1 (∃(i1:Int),zat x0 x1 i1/\z8g i1/\z9u x0 x1 (∃(i3:Int),zcq x0 x1 (∃(i5:Int),z8f x0 x1 (∃(i6:List PR×List MapEntry×Nat),zbt x1 (length i6.1=length (Rl.L x1)/\z8e x0 x1 (z00 prV i6.1=z00 prV (Rl.L x1)/\zbu x0 x1 i6) i6 i1 i3)) i3 i5 i1) i3))
 def zec:=z9u x0 x1 (∃(i1:Int),zat x0 x1 i1/\Ji (i1=0) (zed x0 x1) (zee x0 x1))
 def zeb:=(0<=x0.1/\x0.1<(↑(Rl.z x1).2.1:Int))/\(Rl.z x1).1≠noA/\∃(i0:Bool),(∀i1,z6i x1 i1->q3q i1 (adr (Rl.z x1).1 (toNat x0.1*1)) [bool i0])/\((!i0)=true->z8d x0 x1)/\((!i0)=false->zec x0 x1)
end
def z61(r:Rl) (p:PR):qm2 P (qh3 [(25,z3q)]) (λ_=>none) Try.f26 z3r (zal) ⟨r,p⟩=(Rl.pre r->(∃(p:Pub),z6i r p)->∃(s:List AT×(Option Addr×Nat×Nat)×Int),s.2.1.1=(Rl.x r).1/\s.2.1.2.1=(Rl.x r).2.1/\s.2.1.2.2=(Rl.x r).2.2/\s.2.2=p.1/\length s.1<=60/\(∀(p:Pub),z6i r p->z03 s.1 s.2.1 p)/\((!isB s.1 s.2.2)=true->z8d p r)/\((!isB s.1 s.2.2)=false->zeb p r)):=by kernel_rfl
def z7z:=λr p=>Eq.trans (z61 r p) (by delta Ji Jb Jt Jf z6i zbt zbu z8d z57 z5g z9u zat z8g z6j zcq z8f z8e zed zee zec zeb;exact rfl)
section
variable (x0:AT×AF) (x1:AT) (x2:Rl) (x3:AT) (x4:Int) (x5:Nat×List PR×List PR×List MapEntry×Nat) (x6:Prop) (x7:Rl×PR) (x8:List PR×List MapEntry×Nat) (x9:Nat->Option Obj) (x10:Bool) (x11:Bool×List PR×List PR×List MapEntry×Nat) (x12:Nat×List PR×List PR×List MapEntry×Nat)
 abbrev z5h:=True/\((z03 (Rl.S x2) (Rl.x x2) x9/\z03 (Rl.T x2) (Rl.y x2) x9)/\slP boV (Rl.z x2) (Rl.bs x2) x9)/\AT.ok x1 x9/\AT.ok x3 x9
 abbrev z42:=(↑(AT.f x1).2.1:Int)
 def z8i:=(AT.f x1).1=(AT.f x1).1/\(AT.f x1).2.1=(AT.f x1).2.1/\(AT.f x1).2.2=(AT.f x1).2.2/\x6
 def z6l:=(z42 x1)=(z42 x1)/\z8i x1 x6
 def zbv:=(Rl.x x2).1=(Rl.x x2).1/\(Rl.x x2).2.1=(Rl.x x2).2.1/\(Rl.x x2).2.2=(Rl.x x2).2.2/\(Rl.y x2).1=(Rl.y x2).1/\(Rl.y x2).2.1=(Rl.y x2).2.1/\(Rl.y x2).2.2=(Rl.y x2).2.2/\(Rl.z x2).1=(Rl.z x2).1/\(Rl.z x2).2.1=(Rl.z x2).2.1/\(Rl.z x2).2.2=(Rl.z x2).2.2/\x6
 def z8m:=AT.k x1=AT.k x1/\AT.nm x1=AT.nm x1/\(AT.al x1).1=(AT.al x1).1/\(AT.al x1).2.1=(AT.al x1).2.1/\(AT.al x1).2.2=(AT.al x1).2.2/\AT.it x1=AT.it x1/\(AT.sy x1).1=(AT.sy x1).1/\(AT.sy x1).2.1=(AT.sy x1).2.1/\(AT.sy x1).2.2=(AT.sy x1).2.2/\AT.hd x1=AT.hd x1/\AT.df x1=AT.df x1/\AT.sz x1=AT.sz x1/\z8i x1 ((AT.br x1).1=(AT.br x1).1/\(AT.br x1).2.1=(AT.br x1).2.1/\(AT.br x1).2.2=(AT.br x1).2.2/\x6)
 def z6k:=x5.1<=length (AT.fs x1)/\z3i x2 x3 x1 x5.1 x5.2.1 x5.2.2.1/\z0w x5.2.2.2.1 x5.2.2.2.2 (Rl.B x2+x5.1) x5.2.1/\length x5.2.2.1<=length (Rl.L x2)+x5.1
 abbrev z6m:=0<=ixN (AF.nm x0.2) (AT.fs x0.1) 0
 def z8h:=zbv x2 (length x11.2.2.1=length x5.2.2.1/\x11.2.2.2.1=x5.2.2.2.1/\x11.2.2.2.2=x5.2.2.2.2/\z00 prV x11.2.2.1=z00 prV x5.2.2.1/\((x11.1=false->∃(i0:AF),i0∈AT.fs x1/\¬fOK x3 i0)/\(x11.1=true->z3i x2 x3 x1 (length (AT.fs x1)) x11.2.1 x11.2.2.1)/\z0w x11.2.2.2.1 x11.2.2.2.2 (Rl.B x2+30) x11.2.1)/\True)
 abbrev z8k:=if(0:Int)<=ixN (AF.nm x0.2) (AT.fs x0.1) 0 then ixN (AF.nm x0.2) (AT.fs x0.1) 0 else 0
 def zav:=(z03 (Rl.S x7.1) (Rl.x x7.1) x9/\z03 (Rl.T x7.1) (Rl.y x7.1) x9)/\slP boV (Rl.z x7.1) (Rl.bs x7.1) x9
 abbrev z8l:=Jb ((↑x5.1:Int)+1)
 def z8j:=(∀i0,z5h x1 x2 x3 i0->z5h x1 x2 x3 i0)/\(z6k x3 x2 x1 x5)/\length (AT.fs x3)- x5.1<length (AT.fs x3)- x12.1/\True
 def zek:=z8l x5/\∃(i0:Nat×List PR×List PR×List MapEntry×Nat),z6l x1 ((↑i0.1:Int)=(↑x5.1:Int)+1/\(Rl.x x2).1=(Rl.x x7.1).1/\(Rl.x x2).2.1=(Rl.x x7.1).2.1/\(Rl.x x2).2.2=(Rl.x x7.1).2.2/\(Rl.y x2).1=(Rl.y x7.1).1/\(Rl.y x2).2.1=(Rl.y x7.1).2.1/\(Rl.y x2).2.2=(Rl.y x7.1).2.2/\(Rl.z x2).1=(Rl.z x7.1).1/\(Rl.z x2).2.1=(Rl.z x7.1).2.1/\(Rl.z x2).2.2=(Rl.z x7.1).2.2/\length i0.2.2.1=length x8.1/\i0.2.2.2.1=x8.2.1/\i0.2.2.2.2=x8.2.2/\z8m x1 (z8m x3 (z00 prV i0.2.2.1=z00 prV x8.1/\z8j x3 x2 x1 i0 x5)))
 abbrev zeg:=((0<=if(0:Int)<=ixN (AF.nm x0.2) (AT.fs x0.1) 0 then ixN (AF.nm x0.2) (AT.fs x0.1) 0 else 0)/\(z8k x0)<(z42 x1))/\(AT.f x1).1≠noA/\∃(i0:Int),(∀i1,z5h x1 x2 x3 i1->q3q i1 (Addr.add (adr (AT.f x1).1 (toNat (z8k x0)*9)) 2) [int i64 i0])/\∃(i2:Rl×PR),i2.2.1=i0/\i2.2.2=x4/\(Rl.x i2.1).1=(Rl.x x2).1/\(Rl.x i2.1).2.1=(Rl.x x2).2.1/\(Rl.x i2.1).2.2=(Rl.x x2).2.2/\(Rl.y i2.1).1=(Rl.y x2).1/\(Rl.y i2.1).2.1=(Rl.y x2).2.1/\(Rl.y i2.1).2.2=(Rl.y x2).2.2/\(Rl.z i2.1).1=(Rl.z x2).1/\(Rl.z i2.1).2.1=(Rl.z x2).2.1/\(Rl.z i2.1).2.2=(Rl.z x2).2.2/\length (Rl.L i2.1)=length x5.2.2.1/\Rl.ms i2.1=x5.2.2.2.1/\Rl.c i2.1=x5.2.2.2.2/\z00 prV (Rl.L i2.1)=z00 prV x5.2.2.1/\Rl.pre i2.1/\(∀i3,z5h x1 x2 x3 i3->zav i2 i3)/\∀(i4:List PR×List MapEntry×Nat),i4.1=mtL (Rl.bs i2.1) (Rl.M i2.1) (Rl.L i2.1) i2.2/\z0w i4.2.1 i4.2.2 (Rl.B i2.1+1) (mtL (Rl.bs i2.1) (Rl.M i2.1) (Rl.M i2.1) i2.2)->zek x3 x2 x1 x5 i2 i4
 def zej:=z8l x5/\∃(i0:Nat×List PR×List PR×List MapEntry×Nat),z6l x1 ((↑i0.1:Int)=(↑x5.1:Int)+1/\zbv x2 (length i0.2.2.1=length x5.2.2.1/\i0.2.2.2.1=x5.2.2.2.1/\i0.2.2.2.2=x5.2.2.2.2/\z8m x1 (z8m x3 (z00 prV i0.2.2.1=z00 prV x5.2.2.1/\z8j x3 x2 x1 i0 x5))))
 abbrev zcr:=Ji (z6m x0) (zeg x0 x1 x2 x3 x4 x5) (zej x3 x2 x1 x5)
 def zau:=((!x10)=true->∃(i0:Bool×List PR×List PR×List MapEntry×Nat),i0.1=false/\z8h x1 x2 x3 x5 i0)/\((!x10)=false->zcr x0 x3 x2 x1 x4 x5)
 def zei:=(0<=(↑x5.1:Int)/\(↑x5.1:Int)<(z42 x1))/\(AT.f x1).1≠noA/\∃i0,∃i1,∃(i2:Nat),∃(i3:Nat),∃(i4:Int),∃(i5:Bool),∃(i6:Int),∃(i7:Int),∃i8,∃i9,∃(i10:Nat),∃(i11:Nat),∃i12,∃(i13:Nat),∃(i14:Nat),(∀i15,z5h x3 x2 x1 i15->q3q i15 (adr (AT.f x1).1 (toNat (↑x5.1:Int)*9)) [string i0,slice i1 i2 i3,int i64 i4,bool i5,int i64 i6,int i64 i7,string i8,slice i9 i10 i11,slice i12 i13 i14])/\∃(i16:AT×AF),AT.k i16.1=AT.k x3/\AT.nm i16.1=AT.nm x3/\(AT.al i16.1).1=(AT.al x3).1/\(AT.al i16.1).2.1=(AT.al x3).2.1/\(AT.al i16.1).2.2=(AT.al x3).2.2/\AT.it i16.1=AT.it x3/\(AT.sy i16.1).1=(AT.sy x3).1/\(AT.sy i16.1).2.1=(AT.sy x3).2.1/\(AT.sy i16.1).2.2=(AT.sy x3).2.2/\AT.hd i16.1=AT.hd x3/\AT.df i16.1=AT.df x3/\AT.sz i16.1=AT.sz x3/\(AT.f i16.1).1=(AT.f x3).1/\(AT.f i16.1).2.1=(AT.f x3).2.1/\(AT.f i16.1).2.2=(AT.f x3).2.2/\(AT.br i16.1).1=(AT.br x3).1/\(AT.br i16.1).2.1=(AT.br x3).2.1/\(AT.br i16.1).2.2=(AT.br x3).2.2/\AF.nm i16.2=i0/\(AF.al i16.2).1=i1/\(AF.al i16.2).2.1=i2/\(AF.al i16.2).2.2=i3/\AF.ty i16.2=i4/\AF.hd i16.2=i5/\GJ.k (AF.df i16.2)=i6/\GJ.n (AF.df i16.2)=i7/\GJ.s (AF.df i16.2)=i8/\(GJ.y (AF.df i16.2)).1=i9/\(GJ.y (AF.df i16.2)).2.1=i10/\(GJ.y (AF.df i16.2)).2.2=i11/\(GJ.x (AF.df i16.2)).1=i12/\(GJ.x (AF.df i16.2)).2.1=i13/\(GJ.x (AF.df i16.2)).2.2=i14/\(length (AT.fs i16.1)<=1000/\AF.als i16.2=[])/\(∀i17,z5h x3 x2 x1 i17->AT.ok i16.1 i17/\AF.ok i16.2 i17)/\((!decide (z6m i16))=true->zau i16 x1 x2 x3 i4 x5 i5)/\((!decide (z6m i16))=false->zcr i16 x3 x2 x1 i4 x5)
 def zeh:=Ji ((↑x5.1:Int)<(z42 x1)) (zei x1 x2 x3 x5) (∃(i20:Bool×List PR×List PR×List MapEntry×Nat),i20.1=true/\z8h x1 x2 x3 x5 i20)
 def zef:=(∃(i0:Nat×List PR×List PR×List MapEntry×Nat),z6l x1 ((↑i0.1:Int)=0/\zbv x2 (length i0.2.2.1=length (Rl.L x2)/\i0.2.2.2.1=Rl.ms x2/\i0.2.2.2.2=Rl.c x2/\z8m x1 (z8m x3 (z00 prV i0.2.2.1=z00 prV (Rl.L x2)/\(∀i1,z5h x3 x2 x1 i1->z5h x3 x2 x1 i1)/\(z6k x1 x2 x3 i0)/\True)))))/\∀(i2:Nat×List PR×List PR×List MapEntry×Nat),z6k x1 x2 x3 i2->zeh x1 x2 x3 i2
end
def z29(r:Rl) (a b:AT):qm2 P (qh3 [(67,z2x)]) (qi7 [(26,z3r)]) Try.f43 z31 (z2c) ⟨r,a,b⟩=(Rl.pre r/\(a∈Rl.S r/\b∈Rl.T r)/\length (Rl.L r)<900000/\Rl.B r<900000->(∃(p:Pub),z5h a r b p)->zef b r a):=by kernel_rfl
def z2q:=λr a b=>Eq.trans (z29 r a b) (by delta Ji Jb Jt Jf z5h z42 z8i z6l zbv z8m z6k z6m z8h z8k zav z8l z8j zek zeg zej zcr zau zei zeh zef;exact rfl)
section
variable (x0 x1 x2:Int) (x3:Rl) (x4:PR) (x5:Bool) (x6:ByteArray) (x7:Option Addr) (x8 x9:Nat) (x10:Option Addr) (x11 x12:Nat) (x13:Bool) (x14:ByteArray) (x15:Int) (x16:Option Addr) (x17 x18:Nat) (x19:Option Addr) (x20 x21:Nat) (x22:Int) (x23:ByteArray) (x24:Option Addr) (x25 x26:Nat) (x27:Option Addr) (x28 x29:Nat) (x30:ByteArray) (x31:Int) (x32:Option Addr) (x33 x34:Nat) (x35:Option Addr) (x36 x37:Nat) (x38:Int) (x39:Bool×List PR×List PR×List MapEntry×Nat) (x40:Nat->Option Obj) (x41:Rl×AT×AT) (x42:Rl×PR)
 abbrev z79:=True/\(z03 (Rl.S x3) (Rl.x x3) x40/\z03 (Rl.T x3) (Rl.y x3) x40)/\slP boV (Rl.z x3) (Rl.bs x3) x40
 def zaw:=z1d (Rl.S x3) (Rl.T x3) x4/\(x39.2.1,x39.2.2.1)=mts (Rl.bs x3) (z2g (Rl.S x3) (Rl.T x3) x4) (Rl.M x3,Rl.L x3)
 def zbw:=((x39.1=false->¬z1d (Rl.S x3) (Rl.T x3) x4)/\(x39.1=true->zaw x3 x4 x39)/\z0w x39.2.2.2.1 x39.2.2.2.2 (Rl.B x3+30) x39.2.1)/\True
 def zaz:=(Rl.x x3).1=(Rl.x x3).1/\(Rl.x x3).2.1=(Rl.x x3).2.1/\(Rl.x x3).2.2=(Rl.x x3).2.2/\(Rl.y x3).1=(Rl.y x3).1/\(Rl.y x3).2.1=(Rl.y x3).2.1/\(Rl.y x3).2.2=(Rl.y x3).2.2/\(Rl.z x3).1=(Rl.z x3).1/\(Rl.z x3).2.1=(Rl.z x3).2.1/\(Rl.z x3).2.2=(Rl.z x3).2.2/\length x39.2.2.1=length (Rl.L x3)/\x39.2.2.2.1=Rl.ms x3/\x39.2.2.2.2=Rl.c x3/\z00 prV x39.2.2.1=z00 prV (Rl.L x3)/\zbw x3 x4 x39
 def zct:=(∀i0,z79 x3 i0->q3q i0 (adr (Rl.y x3).1 (toNat x4.2*10)) [int i64 x0,string x6,slice x7 x8 x9,int i64 x1,slice x10 x11 x12,bool x5,string x14,int i64 x2,slice x16 x17 x18,slice x19 x20 x21])
 abbrev z8n:=slice (Rl.y x3).1 (Rl.y x3).2.1 (Rl.y x3).2.2
 def zay:=(z03 (Rl.S x42.1) (Rl.x x42.1) x40/\z03 (Rl.T x42.1) (Rl.y x42.1) x40)/\slP boV (Rl.z x42.1) (Rl.bs x42.1) x40
 def zax:=(x5=true->∃(i0:Bool×List PR×List PR×List MapEntry×Nat),i0.1=true/\zaz x3 x4 i0)/\(x5=false->False)
 def zep:=((z03 (Rl.S x41.1) (Rl.x x41.1) x40/\z03 (Rl.T x41.1) (Rl.y x41.1) x40)/\slP boV (Rl.z x41.1) (Rl.bs x41.1) x40)/\AT.ok x41.2.1 x40/\AT.ok x41.2.2 x40
 def zen:=Ji (x0=9) (∃(i0:Rl×AT×AT),AT.k i0.2.1=x0/\AT.nm i0.2.1=x6/\(AT.al i0.2.1).1=x7/\(AT.al i0.2.1).2.1=x8/\(AT.al i0.2.1).2.2=x9/\AT.it i0.2.1=x1/\(AT.sy i0.2.1).1=x10/\(AT.sy i0.2.1).2.1=x11/\(AT.sy i0.2.1).2.2=x12/\AT.hd i0.2.1=x5/\AT.df i0.2.1=x14/\AT.sz i0.2.1=x2/\(AT.f i0.2.1).1=x16/\(AT.f i0.2.1).2.1=x17/\(AT.f i0.2.1).2.2=x18/\(AT.br i0.2.1).1=x19/\(AT.br i0.2.1).2.1=x20/\(AT.br i0.2.1).2.2=x21/\AT.k i0.2.2=x15/\AT.nm i0.2.2=x23/\(AT.al i0.2.2).1=x24/\(AT.al i0.2.2).2.1=x25/\(AT.al i0.2.2).2.2=x26/\AT.it i0.2.2=x22/\(AT.sy i0.2.2).1=x27/\(AT.sy i0.2.2).2.1=x28/\(AT.sy i0.2.2).2.2=x29/\AT.hd i0.2.2=x13/\AT.df i0.2.2=x30/\AT.sz i0.2.2=x31/\(AT.f i0.2.2).1=x32/\(AT.f i0.2.2).2.1=x33/\(AT.f i0.2.2).2.2=x34/\(AT.br i0.2.2).1=x35/\(AT.br i0.2.2).2.1=x36/\(AT.br i0.2.2).2.2=x37/\(Rl.x i0.1).1=(Rl.x x3).1/\(Rl.x i0.1).2.1=(Rl.x x3).2.1/\(Rl.x i0.1).2.2=(Rl.x x3).2.2/\(Rl.y i0.1).1=(Rl.y x3).1/\(Rl.y i0.1).2.1=(Rl.y x3).2.1/\(Rl.y i0.1).2.2=(Rl.y x3).2.2/\(Rl.z i0.1).1=(Rl.z x3).1/\(Rl.z i0.1).2.1=(Rl.z x3).2.1/\(Rl.z i0.1).2.2=(Rl.z x3).2.2/\length (Rl.L i0.1)=length (Rl.L x3)/\Rl.ms i0.1=Rl.ms x3/\Rl.c i0.1=Rl.c x3/\z00 prV (Rl.L i0.1)=z00 prV (Rl.L x3)/\(Rl.pre i0.1/\(i0.2.1∈Rl.S i0.1/\i0.2.2∈Rl.T i0.1)/\length (Rl.L i0.1)<900000/\Rl.B i0.1<900000)/\(∀i1,z79 x3 i1->zep i1 i0)/\∀(i2:Bool×List PR×List PR×List MapEntry×Nat),(i2.1=false->∃(i3:AF),i3∈AT.fs i0.2.2/\¬fOK i0.2.1 i3)/\(i2.1=true->z3i i0.1 i0.2.1 i0.2.2 (length (AT.fs i0.2.2)) i2.2.1 i2.2.2.1)/\z0w i2.2.2.2.1 i2.2.2.2.2 (Rl.B i0.1+30) i2.2.1->∃(i4:Bool×List PR×List PR×List MapEntry×Nat),i4.1=i2.1/\(Rl.x x3).1=(Rl.x i0.1).1/\(Rl.x x3).2.1=(Rl.x i0.1).2.1/\(Rl.x x3).2.2=(Rl.x i0.1).2.2/\(Rl.y x3).1=(Rl.y i0.1).1/\(Rl.y x3).2.1=(Rl.y i0.1).2.1/\(Rl.y x3).2.2=(Rl.y i0.1).2.2/\(Rl.z x3).1=(Rl.z i0.1).1/\(Rl.z x3).2.1=(Rl.z i0.1).2.1/\(Rl.z x3).2.2=(Rl.z i0.1).2.2/\length i4.2.2.1=length i2.2.2.1/\i4.2.2.2.1=i2.2.2.2.1/\i4.2.2.2.2=i2.2.2.2.2/\z00 prV i4.2.2.1=z00 prV i2.2.2.1/\zbw x3 x4 i4) (∃(i5:Bool×List PR×List PR×List MapEntry×Nat),i5.1=true/\zaz x3 x4 i5)
 def zem:=Ji (x0=10) (zax x3 x4 x5) (zen x0 x1 x2 x3 x4 x13 x6 x7 x8 x9 x10 x11 x12 x5 x14 x15 x16 x17 x18 x19 x20 x21 x22 x23 x24 x25 x26 x27 x28 x29 x30 x31 x32 x33 x34 x35 x36 x37)
 def zcs:=Ji (x0=x38) (∃(i0:Rl×PR),i0.2.1=x1/\i0.2.2=x2/\(Rl.x i0.1).1=(Rl.x x3).1/\(Rl.x i0.1).2.1=(Rl.x x3).2.1/\(Rl.x i0.1).2.2=(Rl.x x3).2.2/\(Rl.y i0.1).1=(Rl.y x3).1/\(Rl.y i0.1).2.1=(Rl.y x3).2.1/\(Rl.y i0.1).2.2=(Rl.y x3).2.2/\(Rl.z i0.1).1=(Rl.z x3).1/\(Rl.z i0.1).2.1=(Rl.z x3).2.1/\(Rl.z i0.1).2.2=(Rl.z x3).2.2/\length (Rl.L i0.1)=length (Rl.L x3)/\Rl.ms i0.1=Rl.ms x3/\Rl.c i0.1=Rl.c x3/\z00 prV (Rl.L i0.1)=z00 prV (Rl.L x3)/\Rl.pre i0.1/\(∀i1,z79 x3 i1->zay i1 i0)/\∀(i2:List PR×List MapEntry×Nat),i2.1=mtL (Rl.bs i0.1) (Rl.M i0.1) (Rl.L i0.1) i0.2/\z0w i2.2.1 i2.2.2 (Rl.B i0.1+1) (mtL (Rl.bs i0.1) (Rl.M i0.1) (Rl.M i0.1) i0.2)->∃(i3:Bool×List PR×List PR×List MapEntry×Nat),i3.1=true/\(Rl.x x3).1=(Rl.x i0.1).1/\(Rl.x x3).2.1=(Rl.x i0.1).2.1/\(Rl.x x3).2.2=(Rl.x i0.1).2.2/\(Rl.y x3).1=(Rl.y i0.1).1/\(Rl.y x3).2.1=(Rl.y i0.1).2.1/\(Rl.y x3).2.2=(Rl.y i0.1).2.2/\(Rl.z x3).1=(Rl.z i0.1).1/\(Rl.z x3).2.1=(Rl.z i0.1).2.1/\(Rl.z x3).2.2=(Rl.z i0.1).2.2/\length i3.2.2.1=length i2.1/\i3.2.2.2.1=i2.2.1/\i3.2.2.2.2=i2.2.2/\z00 prV i3.2.2.1=z00 prV i2.1/\zbw x3 x4 i3) (zem x0 x1 x15 x3 x4 x5 x6 x7 x8 x9 x10 x11 x12 x13 x14 x22 x16 x17 x18 x19 x20 x21 x2 x23 x24 x25 x26 x27 x28 x29 x30 x31 x32 x33 x34 x35 x36 x37)
 def zeo:=Ji (x0=14) (False) (∃(i0:List AT×(Option Addr×Nat×Nat)×List AT×(Option Addr×Nat×Nat)×Int×Int),i0.2.1.1=(Rl.x x3).1/\i0.2.1.2.1=(Rl.x x3).2.1/\i0.2.1.2.2=(Rl.x x3).2.2/\i0.2.2.2.1.1=(Rl.y x3).1/\i0.2.2.2.1.2.1=(Rl.y x3).2.1/\i0.2.2.2.1.2.2=(Rl.y x3).2.2/\i0.2.2.2.2.1=x4.1/\i0.2.2.2.2.2=x4.2/\(flat i0.1/\flat i0.2.2.1)/\(∀i1,z79 x3 i1->z03 i0.1 i0.2.1 i1/\z03 i0.2.2.1 i0.2.2.2.1 i1)/\((!mtS i0.1 i0.2.2.1 i0.2.2.2.2.1 i0.2.2.2.2.2)=true->∃(i2:Bool×List PR×List PR×List MapEntry×Nat),i2.1=false/\zaz x3 x4 i2)/\((!mtS i0.1 i0.2.2.1 i0.2.2.2.2.1 i0.2.2.2.2.2)=false->Ji (x1=12) (zcs x1 x2 x15 x3 x4 x5 x6 x7 x8 x9 x10 x11 x12 x13 x14 x22 x16 x17 x18 x19 x20 x21 x0 x23 x24 x25 x26 x27 x28 x29 x30 x31 x32 x33 x34 x35 x36 x37 12) (zcs x1 x2 x15 x3 x4 x5 x6 x7 x8 x9 x10 x11 x12 x13 x14 x22 x16 x17 x18 x19 x20 x21 x0 x23 x24 x25 x26 x27 x28 x29 x30 x31 x32 x33 x34 x35 x36 x37 13)))
 def zel:=(0<=x4.1/\x4.1<(↑(Rl.x x3).2.1:Int))/\(Rl.x x3).1≠noA/\∃(i0:Int),∃i1,∃i2,∃(i3:Nat),∃(i4:Nat),∃(i5:Int),∃i6,∃(i7:Nat),∃(i8:Nat),∃(i9:Bool),∃i10,∃(i11:Int),∃i12,∃(i13:Nat),∃(i14:Nat),∃i15,∃(i16:Nat),∃(i17:Nat),(∀i18,z79 x3 i18->q3q i18 (adr (Rl.x x3).1 (toNat x4.1*10)) [int i64 i0,string i1,slice i2 i3 i4,int i64 i5,slice i6 i7 i8,bool i9,string i10,int i64 i11,slice i12 i13 i14,slice i15 i16 i17])/\(0<=x4.2/\x4.2<(↑(Rl.y x3).2.1:Int))/\(Rl.y x3).1≠noA/\∃(i19:Int),∃i20,∃i21,∃(i22:Nat),∃(i23:Nat),∃(i24:Int),∃i25,∃(i26:Nat),∃(i27:Nat),∃(i28:Bool),∃i29,∃(i30:Int),∃i31,∃(i32:Nat),∃(i33:Nat),∃i34,∃(i35:Nat),∃(i36:Nat),zct i19 i24 i30 x3 x4 i28 i20 i21 i22 i23 i25 i26 i27 i29 i31 i32 i33 i34 i35 i36/\AV.sv (z8n x3)=AV.sv (z8n x3)/\∃(i38:Int),∃i39,∃i40,∃(i41:Nat),∃(i42:Nat),∃(i43:Int),∃i44,∃(i45:Nat),∃(i46:Nat),∃(i47:Bool),∃i48,∃(i49:Int),∃i50,∃(i51:Nat),∃(i52:Nat),∃i53,∃(i54:Nat),∃(i55:Nat),zct i38 i43 i49 x3 x4 i47 i39 i40 i41 i42 i44 i45 i46 i48 i50 i51 i52 i53 i54 i55/\AV.agg [AV.sv (int i64 i38),AV.sv (string i39),AV.sv (slice i40 i41 i42),AV.sv (int i64 i43),AV.sv (slice i44 i45 i46),AV.sv (bool i47),AV.sv (string i48),AV.sv (int i64 i49),AV.sv (slice i50 i51 i52),AV.sv (slice i53 i54 i55)]=AV.agg [AV.sv (int i64 i19),AV.sv (string i20),AV.sv (slice i21 i22 i23),AV.sv (int i64 i24),AV.sv (slice i25 i26 i27),AV.sv (bool i28),AV.sv (string i29),AV.sv (int i64 i30),AV.sv (slice i31 i32 i33),AV.sv (slice i34 i35 i36)]/\Ji (i0=14) (False) (zeo i19 i0 i5 x3 x4 i28 i1 i2 i3 i4 i6 i7 i8 i9 i10 i24 i12 i13 i14 i15 i16 i17 i11 i20 i21 i22 i23 i25 i26 i27 i29 i30 i31 i32 i33 i34 i35 i36)
end
def z4i(r:Rl) (p:PR):qm2 P (qh3 [(25,z3q),(24,z2z)]) (qi7 [(26,z3r),(43,z31)]) Try.f27 z2y (z76) ⟨r,p⟩=(Rl.pre r/\(0<=p.1/\p.1<(↑(length (Rl.S r)):Int))/\length (Rl.L r)<900000/\Rl.B r<900000->(∃(p:Pub),z79 r p)->∃(s:List AT×(Option Addr×Nat×Nat)×Int),s.2.1.1=(Rl.y r).1/\s.2.1.2.1=(Rl.y r).2.1/\s.2.1.2.2=(Rl.y r).2.2/\s.2.2=p.2/\length s.1<=60/\(∀(p:Pub),z79 r p->z03 s.1 s.2.1 p)/\((!isB s.1 s.2.2)=true->∃(b:Bool×List PR×List PR×List MapEntry×Nat),b.1=false/\zaz r p b)/\((!isB s.1 s.2.2)=false->zel r p)):=by kernel_rfl
def z5s:=λr p=>Eq.trans (z4i r p) (by delta Ji Jt Jf z79 zaw zbw zaz zct z8n zay zax zep zen zem zcs zeo zel;exact rfl)
section
variable (x0:SV) (x1 x2:List AT) (x3:SV) (x4 x5:Int) (x6:List PR×List MapEntry×Nat) (x7:Rl×PR) (x8:List Bool×Option Addr×Nat×Nat) (x9:List Bool×(Option Addr×Nat×Nat)×List PR×List PR×List MapEntry×Nat) (x10:Bool×List PR×List PR×List MapEntry×Nat) (x11:Bool) (x12:Prop) (x13:Nat->Option Obj) (x14:List AT×(Option Addr×Nat×Nat)×Int)
 abbrev z8p:=x14.2.1.1=x0.1/\x14.2.1.2.1=x0.2.1/\x14.2.1.2.2=x0.2.2/\x14.2.2=x4/\length x14.1<=60/\x12
 def zbx:=(∃(i0:List Bool),∃(i1:List Int),length i0=length x1/\rkE x1 i1/\hasB i1 i0 (length x1)/\(x11=true↔∀(i2:PR),rcQ x1 x2 i0 (x4,x5) i2->z1d x1 x2 i2))/\True
 def z8s:=(∀i0,True/\z03 x1 x0 i0/\z03 x2 x3 i0->z03 x14.1 x14.2.1 i0)/\((!isB x14.1 x14.2.2)=true->∃(i1:Bool),i1=false/\zbx x1 x2 x4 x5 i1)/\x12
 def z3n:=(True/\z03 x1 x0 x13/\z03 x2 x3 x13)/\slP boV x8.2 x8.1 x13
 def z8q:=x0.1=x0.1/\x0.2.1=x0.2.1/\x0.2.2=x0.2.2/\x12
 def z8r:=length x8.1=length x1/\∃(i0:List Int),rkE x1 i0/\hasB i0 x8.1 (length x1)
 def z6n:=∃(i0:List AT×Option Addr×Nat×Nat),i0.2.1=x0.1/\i0.2.2.1=x0.2.1/\i0.2.2.2=x0.2.2/\z1m i0.1/\(∀i1,True/\z03 x1 x0 i1/\z03 x2 x3 i1->z03 i0.1 i0.2 i1)/\∀(i2:List Bool×Option Addr×Nat×Nat),(length i2.1=length i0.1/\∃(i3:List Int),rkE i0.1 i3/\hasB i3 i2.1 (length i0.1))->(∃i4,z3n x0 x1 x2 x3 i2 i4)->∃(i5:List Bool×Option Addr×Nat×Nat),x4=x4/\x5=x5/\z8q x0 (z8q x3 (i5.2.1=i2.2.1/\i5.2.2.1=i2.2.2.1/\i5.2.2.2=i2.2.2.2/\(∀i6,z3n x0 x1 x2 x3 i2 i6->True/\z03 x1 x0 i6/\z03 x2 x3 i6)/\(∀i7,z3n x0 x1 x2 x3 i2 i7->slP boV i5.2 i5.1 i7)/\(z8r x1 i5)/\True))
 def zcv:=x7.2.1=x4/\x7.2.2=x5/\(Rl.x x7.1).1=x0.1/\(Rl.x x7.1).2.1=x0.2.1/\(Rl.x x7.1).2.2=x0.2.2/\(Rl.y x7.1).1=x3.1/\(Rl.y x7.1).2.1=x3.2.1/\(Rl.y x7.1).2.2=x3.2.2/\x12
 def z8o:=(z03 (Rl.S x7.1) (Rl.x x7.1) x13/\z03 (Rl.T x7.1) (Rl.y x7.1) x13)/\slP boV (Rl.z x7.1) (Rl.bs x7.1) x13
 def zcu:=x0.1=(Rl.x x7.1).1/\x0.2.1=(Rl.x x7.1).2.1/\x0.2.2=(Rl.x x7.1).2.2/\x3.1=(Rl.y x7.1).1/\x3.2.1=(Rl.y x7.1).2.1/\x3.2.2=(Rl.y x7.1).2.2/\x9.2.1.1=(Rl.z x7.1).1/\x9.2.1.2.1=(Rl.z x7.1).2.1/\x9.2.1.2.2=(Rl.z x7.1).2.2/\x12
 abbrev z8t:=0<(↑(length x9.2.2.2.1):Int)
 def zb0:=z1d (Rl.S x7.1) (Rl.T x7.1) x7.2/\(x10.2.1,x10.2.2.1)=mts (Rl.bs x7.1) (z2g (Rl.S x7.1) (Rl.T x7.1) x7.2) (Rl.M x7.1,Rl.L x7.1)
 def zeu:=((!x10.1)=true->∃(i0:Bool),i0=false/\zbx x1 x2 x4 x5 i0)/\((!x10.1)=false->∃(i4:List Bool×(Option Addr×Nat×Nat)×List PR×List PR×List MapEntry×Nat),z00 prV i4.2.2.2.1=z00 prV x10.2.2.1/\zcu x0 x3 x7 i4 (length i4.2.2.2.1=length x10.2.2.1/\i4.2.2.2.2.1=x10.2.2.2.1/\i4.2.2.2.2.2=x10.2.2.2.2/\(∀i5,(z3n x0 x1 x2 x3 x8 i5)/\slP boV x9.2.1 x9.1 i5->z3n x0 x1 x2 x3 x8 i5)/\(∀i6,(z3n x0 x1 x2 x3 x8 i6)/\slP boV x9.2.1 x9.1 i6->slP boV i4.2.1 i4.1 i6)/\ckI x1 x2 x4 x5 i4.1 i4.2.2.1 i4.2.2.2.1 i4.2.2.2.2.1 i4.2.2.2.2.2/\length x1*length x2- length i4.2.2.1<length x1*length x2- length x9.2.2.1/\True))
 def zet:=((0:Int)<=0/\z8t x9)/\∃(i0:Int),∃(i1:Int),(∀(i2:Nat) (i3:Value),[int i64 i0,int i64 i1][i2]? =some i3->(z00 prV x9.2.2.2.1)[nat_lit 0+0*nat_lit 2+i2]? =some i3)/\((0:Int)<=1/\1<=(↑(length x9.2.2.2.1):Int))/\length x9.2.2.2.1*nat_lit 2<=length (z00 prV x9.2.2.2.1)/\∃(i4:Rl×PR),zcv x0 x3 i0 i1 i4 ((Rl.z i4.1).1=x9.2.1.1/\(Rl.z i4.1).2.1=x9.2.1.2.1/\(Rl.z i4.1).2.2=x9.2.1.2.2/\length (Rl.L i4.1)=length x9.2.2.2.1- nat_lit 1/\Rl.ms i4.1=x9.2.2.2.2.1/\Rl.c i4.1=x9.2.2.2.2.2/\z00 prV (Rl.L i4.1)=drop (nat_lit 1*nat_lit 2) (z00 prV x9.2.2.2.1)/\(Rl.pre i4.1/\(0<=i4.2.1/\i4.2.1<(↑(length (Rl.S i4.1)):Int))/\length (Rl.L i4.1)<900000/\Rl.B i4.1<900000)/\(∀i5,(z3n x0 x1 x2 x3 x8 i5)/\slP boV x9.2.1 x9.1 i5->z8o i4 i5)/\∀(i6:Bool×List PR×List PR×List MapEntry×Nat),(i6.1=false->¬z1d (Rl.S i4.1) (Rl.T i4.1) i4.2)/\(i6.1=true->zb0 i4 i6)/\z0w i6.2.2.2.1 i6.2.2.2.2 (Rl.B i4.1+30) i6.2.1->zeu x0 x1 x2 x3 x4 x5 i4 x8 x9 i6)
 def zes:=Ji (z8t x9) (zet x0 x1 x2 x3 x4 x5 x8 x9) (∃(i14:Bool),i14=true/\zbx x1 x2 x4 x5 i14)
 def zer:=(∃(i0:List Bool×(Option Addr×Nat×Nat)×List PR×List PR×List MapEntry×Nat),z00 prV i0.2.2.2.1=z00 prV x6.1/\zcu x0 x3 x7 i0 (length i0.2.2.2.1=length x6.1/\i0.2.2.2.2.1=x6.2.1/\i0.2.2.2.2.2=x6.2.2/\(∀i1,z3n x0 x1 x2 x3 x8 i1->z3n x0 x1 x2 x3 x8 i1)/\(∀i2,z3n x0 x1 x2 x3 x8 i2->slP boV i0.2.1 i0.1 i2)/\ckI x1 x2 x4 x5 i0.1 i0.2.2.1 i0.2.2.2.1 i0.2.2.2.2.1 i0.2.2.2.2.2/\True))/\∀(i3:List Bool×(Option Addr×Nat×Nat)×List PR×List PR×List MapEntry×Nat),ckI x1 x2 x4 x5 i3.1 i3.2.2.1 i3.2.2.2.1 i3.2.2.2.2.1 i3.2.2.2.2.2->(∃i4,(z3n x0 x1 x2 x3 x8 i4)/\slP boV i3.2.1 i3.1 i4)->zes x0 x1 x2 x3 x4 x5 x8 i3
 def zeq:=((((z6n x0 x1 x2 x3 x4 x5)/\z6n x0 x1 x2 x3 x4 x5)/\(z6n x0 x1 x2 x3 x4 x5)/\z6n x0 x1 x2 x3 x4 x5)/\((z6n x0 x1 x2 x3 x4 x5)/\z6n x0 x1 x2 x3 x4 x5)/\(z6n x0 x1 x2 x3 x4 x5)/\z6n x0 x1 x2 x3 x4 x5)/\∀(i72:List Bool×Option Addr×Nat×Nat),(z8r x1 i72)->(∃i74,z3n x0 x1 x2 x3 i72 i74)->∃(i75:Rl×PR),zcv x0 x3 x5 x4 i75 ((Rl.z i75.1).1=i72.2.1/\(Rl.z i75.1).2.1=i72.2.2.1/\(Rl.z i75.1).2.2=i72.2.2.2/\length (Rl.L i75.1)=0/\Rl.ms i75.1=[]/\Rl.c i75.1=nat_lit 0/\Rl.pre i75.1/\(∀i76,z3n x0 x1 x2 x3 i72 i76->z8o i75 i76)/\∀(i77:List PR×List MapEntry×Nat),i77.1=mtL (Rl.bs i75.1) (Rl.M i75.1) (Rl.L i75.1) i75.2/\z0w i77.2.1 i77.2.2 (Rl.B i75.1+1) (mtL (Rl.bs i75.1) (Rl.M i75.1) (Rl.M i75.1) i75.2)->zer x0 x1 x2 x3 x5 x4 i77 i75 i72)
end
def z4e(S:List AT) (x:SV) (T:List AT) (y:SV) (t u:Int):qm2 P (qh3 [(25,z3q)]) (qi7 [(8,zbk),(26,z3r),(27,z2y)]) Try.f13 z24 (z74) ⟨S,x,T,y,t,u⟩=(fl9 S/\fl9 T/\isB S t=true/\isB T u=true->(∃(p:Pub),True/\z03 S x p/\z03 T y p)->∃(s:List AT×(Option Addr×Nat×Nat)×Int),z8p x t (z8s x S T y t u (((!isB s.1 s.2.2)=false->∃(s:List AT×(Option Addr×Nat×Nat)×Int),z8p y u (z8s x S T y t u (((!isB s.1 s.2.2)=false->zeq x S T y u t)) s) s)) s) s):=by kernel_rfl
def z5l:=λS x T y t u=>Eq.trans (z4e S x T y t u) (by delta Ji Jt Jf z8p zbx z8s z3n z8q z8r z6n zcv z8o zcu z8t zb0 zeu zet zes zer zeq;exact rfl)
section
def z1p(p q:PR):q3f (pkV p) (pkV q)=decide (p=q):=by
 obtain⟨a,b⟩:=p
 obtain⟨c,d⟩:=q
 show(decide (a=c)&&decide (b=d))=_
 rw[Bool.eq_iff_iff]
 simp[Prod.mk.injEq]
def z26(k:Value):∀(ms:List MapEntry) (i:Nat),(q1f k ms i).isSome=(ms.map (·.key)).any (q3f k)
  | [],i=>rfl
  | e::ms,i=>by
    rw[q1f,List.map_cons,List.any_cons]
    cases h:q3f k e.key with
    |true=>rfl
    |false=>rw[Bool.false_or];exact z26 k ms (i+1)
def z3d(k:Value) (ms:List MapEntry):qma k ms=(ms.map (·.key)).any (q3f k):=by
 rw[←z26 k ms 0]
 unfold qma
 cases q1f k ms 0<;>rfl
variable {ms:List MapEntry} {M:List PR}
def z82{c B:Nat} (h:z0w ms c B M) (p:PR):∃n:Int,qkk (pkV p) ms (.int .i64 0)= .int .i64 n/\0<=n/\n<=B/\(n=0↔p∉M):=by
  have h2:=h.2 p
  unfold qma at h2
  unfold qkk
  cases hm:q1f (pkV p) ms 0 with
  | none=>
    rw[hm]at h2
    refine⟨0,rfl,by omega,by omega,⟨λ_ hp=> ?_,λ_=>rfl⟩⟩
    have:=h2.2 hp
    cases this
  | some q=>
    obtain⟨j,v⟩:=q
    rw[hm]at h2
    obtain⟨_,e,he,hv⟩:=q7s hm
    obtain⟨_,⟨n,hn,h3,h4⟩,_⟩:=h.1.1 e (List.mem_of_getElem? he)
    refine⟨n,by rw[←hv,hn],by omega,by omega,⟨λh0=>by omega,λhp=>absurd (h2.1 rfl) hp⟩⟩
def z80{i:Nat} {f:MapEntry->MapEntry} {e:MapEntry} (h:e∈ms.modify i f):e∈ms\/∃e0,ms[i]? =some e0/\e=f e0:=by
  obtain⟨j,hj⟩:=List.mem_iff_getElem?.1 h
  rw[List.getElem?_modify]at hj
  cases hm:ms[j]? with
  |none=>rw[hm]at hj;cases hj
  | some e0=>
    rw[hm]at hj
    by_cases hij:i=j
    · subst hij
      have hj:(if i=i then f e0 else e0)=e:=by simpa using hj
      rw[if_pos rfl]at hj
      exact .inr ⟨e0,hm,hj.symm⟩
    · have hj:(if i=j then f e0 else e0)=e:=by simpa using hj
      rw[if_neg hij]at hj
      subst hj
      exact .inl (List.mem_of_getElem? hm)
def z39{c B:Nat} (h:z0w ms c B M) (p:PR) (v:Value):(q28 (pkV p) v ms c).map (·.key)=if p∈M then ms.map (·.key)else ms.map (·.key)++[pkV p]:=by
  have h2:=h.2 p
  unfold qma at h2
  unfold q28
  cases hm:q1f (pkV p) ms 0 with
  | none=>
    rw[hm]at h2
    rw[if_neg (λhp=>by have:=h2.2 hp;cases this)]
    simp
  | some q=>
    obtain⟨j,v2⟩:=q
    rw[hm]at h2
    rw[if_pos (h2.1 rfl)]
    obtain⟨_,e,he,hs⟩:=q43 hm
    rw[Nat.sub_zero]at he
    obtain⟨⟨q,hq⟩,_⟩:=h.1.1 e (List.mem_of_getElem? he)
    rw[hq,z1p,decide_eq_true_eq]at hs
    subst hs
    apply List.ext_getElem?
    intro m
    simp only[List.getElem?_map,List.getElem?_modify]
    by_cases hjm:j=m
    · subst hjm;simp[he,hq]
    · simp[hjm]
def z81{c B:Nat} (h:z0w ms c B M) (p:PR) {n:Int} (h1:1<=n) (h2:n<=B+1):z0w (q28 (pkV p) (.int .i64 n) ms c) (qew (pkV p) ms c) (B+1) (if p∈M then M else M++[p]):=by
  have hc:c<=qew (pkV p) ms c:=by unfold qew;split<;>omega
  refine⟨⟨λe he=> ?_,?_⟩,λq=> ?_⟩
  · have old:∀e∈ms,(∃p,e.key=pkV p)/\(∃v:Int,e.val= .int .i64 v/\1<=v/\v<=(B+1:Nat))/\e.born<qew (pkV p) ms c:=λe he=>by
      obtain⟨g1,⟨v,g2,g3,g4⟩,g5⟩:=h.1.1 e he
      exact⟨g1,⟨v,g2,g3,by omega⟩,by omega⟩
    unfold q28 at he
    cases hm:q1f (pkV p) ms 0 with
    | none=>
      rw[hm]at he
      rcases List.mem_append.1 he with he|he
      · exact old e he
      · rw[List.mem_singleton.1 he]
        refine⟨⟨p,rfl⟩,⟨n,rfl,h1,by omega⟩,?_⟩
        unfold qew
        rw[hm]
        exact Nat.lt_succ_self c
    | some q=>
      obtain⟨j,v2⟩:=q
      rw[hm]at he
      rcases z80 he with he|⟨e0,he0,rfl⟩
      · exact old e he
      · exact⟨⟨p,rfl⟩,⟨n,rfl,h1,by omega⟩,(old e0 (List.mem_of_getElem? he0)).2.2⟩
  · obtain⟨_,_,_,h3⟩:=qc1 (k:=pkV p) (v0:= .int .i64 n) (ms:=ms) (c:=c)
    rw[h3]
    split
    · exact h.1.2
    · rw[List.nodup_append]
      refine⟨h.1.2,by simp,λa ha b hb=> ?_⟩
      rw[List.mem_singleton.1 hb]
      obtain⟨e,he,rfl⟩:=List.mem_map.1 ha
      have:=(h.1.1 e he).2.2
      omega
  · rw[z3d,z39 h]
    have hq:=h.2 q
    rw[z3d]at hq
    by_cases hp:p∈M
    · rw[if_pos hp,if_pos hp];exact hq
    · rw[if_neg hp,if_neg hp,List.any_append,Bool.or_eq_true,hq,List.mem_append,List.mem_singleton]
      simp[z1p]
def z0x{c B B':Nat} (h:z0w ms c B M) (hb:B<=B'):z0w ms c B' M:=
 ⟨⟨λe he=>by
  obtain⟨g1,⟨v,g2,g3,g4⟩,g5⟩:=h.1.1 e he
  exact⟨g1,⟨v,g2,g3,by omega⟩,g5⟩,h.1.2⟩,h.2⟩
def z3e{c:Nat} (p:PR) (v z:Value):qkk (pkV p) (q28 (pkV p) v ms c) z=v:=by
  have kk:q3f (pkV p) (pkV p)=true:=by rw[z1p];simp
  have app:∀(ms:List MapEntry) (i:Nat) (e:MapEntry),e.key=pkV p->q1f (pkV p) ms i=none->q1f (pkV p) (ms++[e]) i=some (i+ms.length,e.val):=λms=>by
    induction ms with
    |nil=>intro i e he _;rw[List.nil_append,q1f,he,kk];rfl
    | cons a ms ih=>
      intro i e he hn
      rw[q1f]at hn
      rw[List.cons_append,q1f]
      cases hs:q3f (pkV p) a.key with
      |true=>rw[hs]at hn;cases hn
      | false=>
        rw[hs]at hn
        simp only at hn⊢
        rw[ih (i+1) e he hn,List.length_cons]
        congr 2;omega
  have mod:∀(ms:List MapEntry) (i j:Nat) (v2:Value),q1f (pkV p) ms i=some (j,v2)->q1f (pkV p) (ms.modify (j- i) λe=>{e with key:=pkV p,val:=v}) i=some (j,v):=λms=>by
    induction ms with
    |nil=>intro i j v2 h;cases h
    | cons a ms ih=>
      intro i j v2 h
      rw[q1f]at h
      cases hs:q3f (pkV p) a.key with
      | true=>
        rw[hs]at h
        cases h
        rw[Nat.sub_self,List.modify_zero_cons,q1f,kk]
      | false=>
        rw[hs]at h
        simp only at h
        have hle:=(q7s h).1
        have hji:j- i=(j- (i+1))+1:=by omega
        rw[hji,List.modify_succ_cons,q1f,hs]
        exact ih (i+1) j v2 h
  unfold qkk q28
  cases hm:q1f (pkV p) ms 0 with
  |none=>simp only;rw[app ms 0 _ rfl hm]
  | some q=>
    obtain⟨j,v2⟩:=q
    simp only
    have:=mod ms 0 j v2 hm
    rw[Nat.sub_zero]at this
    rw[this]
def z17(l:List PR):(z00 prV l).length=l.length*2:=by
 induction l with
 |nil=>rfl
 |cons a l ih=>rw[z00,List.length_append,ih,List.length_cons];show 2+_=_;omega
def z52(l:List PR) (p:PR):z00 prV (l++[p])=z00 prV l++prV p:=by
 induction l with
 |nil=>rfl
 |cons a l ih=>rw[List.cons_append,z00,ih,z00,List.append_assoc]
def z0m(p:PR) (el:TypeId):kOK (.array 2 el) (pkV p):=trivial
def z7p{S:List AT} {bs:List Bool} {t:Int} (hl:bs.length=S.length) (h:isB S t=false):inH bs t=false:=by
  unfold isB at h
  unfold inH
  cases hh:decide (0<=t)with
  |false=>rfl
  | true=>
    rw[hh,Bool.true_and,decide_eq_false_iff_not]at h
    rw[Bool.true_and,decide_eq_false (by omega)];rfl
def z2m:q39 P 26 z3r:=by
 refine qla mixed (qef (qij z1n qlr)) (λg C h=>by cases h) (W:=zal) Try.func26 (by kernel_rfl) (by decide) (by decide) (λs=>by kernel_rfl) λ⟨(r:Rl),(p:PR)⟩=>(z7z r p).mpr ?_
 rintro⟨⟨⟨hS,hT⟩,hbl⟩,hM,hB,hL⟩ ⟨p0,_,⟨hx,hy⟩,hz⟩
 have hzl:r.z.2.1=r.bs.length:=hz.1
 have h60:=hS.1.1.1
 have stay:inH r.bs p.1=false->r.L=mtL r.bs r.M r.L p/\z0w r.ms r.c (r.B+1) (mtL r.bs r.M r.M p):=λh=>by
  have e:∀L,mtL r.bs r.M L p=L:=λL=>by unfold mtL;rw[if_neg];rintro⟨h1,_⟩;rw[h]at h1;cases h1
  rw[e,e]
  exact⟨rfl,z0x hM (Nat.le_succ _)⟩
 simp only[sbS,Int.toNat_natCast,exists_const]
 refine⟨(r.S,r.x,p.1),rfl,rfl,rfl,rfl,h60,λq hq=>hq.1.1,λh=>⟨(r.L,r.ms,r.c),rfl,rfl,rfl,rfl,stay (z7p hbl h)⟩,λh=> ?_⟩
 obtain⟨i,hi,hi2⟩:=z0q (S:=r.S) (t:=p.1) h
 have hib:i<r.bs.length:=by omega
 have B:=λ(q:Pub) (hq:slP boV r.z r.bs q)=>z06 (f:=boV) (e:=1) (λb=>rfl) (by decide) hq hib
 have hin:inH r.bs p.1=r.bs[i]:=by
  unfold inH
  rw[hi,decide_eq_true (by omega),decide_eq_true (by omega),Int.toNat_natCast,List.getD_eq_getElem?_getD,List.getElem?_eq_getElem hib]
  rfl
 have e0:p.1.toNat=i:=by omega
 rw[e0]
 refine⟨⟨by omega,by omega⟩,(B p0 hz).1,r.bs[i],λq hq=>(B q hq.2).2,λhb=>⟨(r.L,r.ms,r.c),rfl,rfl,rfl,rfl,stay (hin.trans hb)⟩,λhb=> ?_⟩
 obtain⟨n,hn,n0,nB,n1⟩:=z82 hM p
 have hks:∀e∈r.ms,kOK (.array 2 3) e.key:=λe he=>by
  obtain⟨⟨q,hq⟩,_⟩:=hM.1.1 e he
  rw[hq];exact z0m q _
 have hin1:inH r.bs p.1=true:=hin.trans hb
 have hM':=z81 hM p (n:=n+1) (by omega) (by omega)
 have hbb:∀e∈r.ms,e.born<r.c:=λe he=>(hM.1.1 e he).2.2
 have hks2:∀e∈q28 (pkV p) (.int .i64 n) r.ms r.c,kOK (.array 2 3) e.key:=λe he=>by
  have:e.key∈(q28 (pkV p) (.int .i64 n) r.ms r.c).map (·.key):=List.mem_map_of_mem he
  rw[z39 hM]at this
  have pr:∀k∈r.ms.map (·.key),kOK (.array 2 3) k:=λk hk=>by
   obtain⟨e',he',rfl⟩:=List.mem_map.1 hk
   exact hks e' he'
  split at this
  ·exact pr _ this
  ·rcases List.mem_append.1 this with h|h
   ·exact pr _ h
   ·rw[List.mem_singleton.1 h];exact z0m p _
 have hmst:=qln (k:=pkV p) (v0:= .int .i64 n) (v:= .int .i64 (n+1)) hbb hM.1.2
 refine⟨z0m p _,hks,n,hn,λh0=> ?_,λh0=> ?_⟩
 ·have hp:p∉r.M:=n1.1 h0
  have e:∀L,mtL r.bs r.M L p=L++[p]:=λL=>by unfold mtL;rw[if_pos ⟨hin1,hp⟩]
  rw[if_neg hp]at hM'
  refine⟨by rw[z17];omega,by omega,z0m p _,hks,n,hn,⟨by omega,by omega⟩,z0m p _,hks,n,hn,qlm,z0m p _,hks2,n,z3e p _ _,rfl,(r.L++[p],_,_),by simp,rfl,rfl,?_,by rw[e],?_⟩
  ·rw[List.take_of_length_le (by rw[z17];omega)];exact z52 _ _
  ·rw[e]
   rw[←hmst]at hM'
   exact hM'
 ·have hp:p∈r.M:=Classical.byContradiction λhc=>h0 (n1.2 hc)
  have e:∀L,mtL r.bs r.M L p=L:=λL=>by unfold mtL;rw[if_neg];rintro⟨_,h⟩;exact h hp
  rw[if_pos hp]at hM'
  refine⟨z0m p _,hks,n,hn,⟨by omega,by omega⟩,z0m p _,hks,n,hn,qlm,z0m p _,hks2,n,z3e p _ _,rfl,(r.L,_,_),rfl,rfl,rfl,rfl,by rw[e],?_⟩
  rw[e]
  rw[←hmst]at hM'
  exact hM'
end
def z6b{α:Type} {f:α->List Value} {x:SV} {l:List α} {p:Pub} (h:slP f x l p) (hn:z00 f l≠[]) (k:Nat):(adr x.1 k).spot=none:=by
 rcases h.2.2 with⟨h1,_⟩|⟨y,h1,h2,_⟩
 ·exact absurd h1 hn
 ·rw[h1]
  unfold adr Addr.add
  simp only
  split
  ·exact h2
  ·rfl
def z68{l:List AF} {k:Nat} (h:k<l.length):z00 AF.cells l≠[]:=by
 cases l with
 |nil=>cases h
 |cons a l=>rw[z00];simp[AF.cells]
def z4p(bs:List Bool):∀(ps:List PR) (q:PR) (s:List PR×List PR),mts bs (ps++[q]) s=(mtL bs (mts bs ps s).1 (mts bs ps s).1 q,mtL bs (mts bs ps s).1 (mts bs ps s).2 q)
 | [],q,s=>rfl
 |p::ps,q,s=>by rw[List.cons_append,mts,z4p bs ps q,mts]
def z0p(a:AT):∀(l:List AF) (f:AF),z0c a (l++[f])=z0c a l++z0c a [f]
  | [],f=>rfl
  | g::l,f=>by
    rw[List.cons_append,z0c,z0c,z0p a l f]
    split
    · rfl
    · rfl
def z84(bs:List Bool) (M L:List PR) (p:PR):(mtL bs M L p).length<=L.length+1:=by
 unfold mtL
 split
 ·simp
 ·omega
def ixT(a:AT) (f:AF):Int:=((a.fs[(ixN f.nm a.fs 0).toNat]?).map AF.ty).getD 0
def z4y{r:Rl} {a b:AT} {i:Nat} {M L:List PR} (h:z3i r a b i M L) (hi:i<b.fs.length) (hx:0<=ixN b.fs[i].nm a.fs 0):z3i r a b (i+1) (mtL r.bs M M (ixT a b.fs[i],b.fs[i].ty)) (mtL r.bs M L (ixT a b.fs[i],b.fs[i].ty)):=by
 have ht:b.fs.take (i+1)=b.fs.take i++[b.fs[i]]:=by rw[List.take_succ_eq_append_getElem hi]
 unfold z3i at h⊢
 rw[ht]
 refine⟨λf hf=> ?_,?_⟩
 ·rcases List.mem_append.1 hf with hf|hf
  ·exact h.1 f hf
  ·rw[List.mem_singleton.1 hf];exact .inl hx
 ·have e:z0c a [b.fs[i]]=[(ixT a b.fs[i],b.fs[i].ty)]:=by
   rw[z0c,if_pos hx];rfl
  rw[z0p,e,z4p,←h.2]
def z4x{r:Rl} {a b:AT} {i:Nat} {M L:List PR} (h:z3i r a b i M L) (hi:i<b.fs.length) (hx:¬0<=ixN b.fs[i].nm a.fs 0) (hd:b.fs[i].hd=true):z3i r a b (i+1) M L:=by
 have ht:b.fs.take (i+1)=b.fs.take i++[b.fs[i]]:=by rw[List.take_succ_eq_append_getElem hi]
 unfold z3i at h⊢
 rw[ht]
 refine⟨λf hf=> ?_,?_⟩
 ·rcases List.mem_append.1 hf with hf|hf
  ·exact h.1 f hf
  ·rw[List.mem_singleton.1 hf];exact .inr hd
 ·have e:z0c a [b.fs[i]]=[]:=by rw[z0c,if_neg hx];rfl
  rw[z0p,e,List.append_nil]
  exact h.2
def z2r:q39 P 43 z31:=by
 refine qla mixed (qef (qij z3v qlr)) (qf6 (qii z2m qlq)) (W:=z2c) Try.func43 (by kernel_rfl) (by decide) (by decide) (λs=>by kernel_rfl) λ⟨(r:Rl),(a:AT),(b:AT)⟩=>(z2q r a b).mpr ?_
 rintro⟨hr,⟨hma,hmb⟩,hL,hB9⟩ ⟨p0,_,hp,hpa,hpb⟩
 obtain⟨⟨⟨hS,hT⟩,hbl⟩,hM,hB,hL0⟩:=id hr
 have hfl:b.f.2.1=b.fs.length:=hpb.2.2.1.1
 have hal:a.f.2.1=a.fs.length:=hpa.2.2.1.1
 have ga:=(hS.1.1.2 a hma).2.2.2.2.2.2.2.1
 have gb:=(hT.1.1.2 b hmb).2.2.2.2.2.2.2.1
 simp only[hfl]
 simp only[sbS,Int.toNat_natCast,exists_const]
 refine⟨⟨(0,r.M,r.L,r.ms,r.c),rfl,rfl,rfl,rfl,rfl,⟨Nat.zero_le _,⟨λf hf=>by simp at hf,rfl⟩,hM,Nat.le_refl _⟩⟩,?_⟩
 rintro⟨i,M,L,ms,c⟩ ⟨hi,hq,hms,hLl⟩
 have hi:i<=b.fs.length:=hi
 have hq:z3i r a b i M L:=hq
 have hms:z0w ms c (r.B+i) M:=hms
 have hLl:L.length<=r.L.length+i:=hLl
 refine⟨λhlt=> ?_,λhge=> ?_⟩
 ·have hi1:i<b.fs.length:=by omega
  have B:=λ(q:Pub) (hq:b.ok q)=>z06 z2w (by decide) hq.2.2.1 hi1
  have mf:=List.getElem_mem hi1
  have hals:=(hT.1.2 b hmb).2.2 _ mf
  have bnd: -9223372036854775808<=(i:Int)+1/\(i:Int)+1<=9223372036854775807:=by omega
  have hi2:i+1<=b.fs.length:=hi1
  have hdec:b.fs.length- (i+1)<b.fs.length- i:=by omega
  have step:=λ(hx:0<=ixN b.fs[i].nm a.fs 0)=>z4y hq hi1 hx
  have skip:=λ(hx:¬0<=ixN b.fs[i].nm a.fs 0)=>z4x hq hi1 hx
  have fok:b.fs[i].ok p0:=hpb.2.2.2.2 _ mf
  have F:=λ(q:Pub) (hq:b.ok q)=>hq.2.2.2.2 _ mf
  generalize hf:b.fs[i]=f at*
  refine⟨⟨by omega,by omega⟩,(B p0 hpb).1,f.nm,f.al.1,f.al.2.1,f.al.2.2,f.ty,f.hd,f.df.k,f.df.n,f.df.s,f.df.y.1,f.df.y.2.1,f.df.y.2.2,f.df.x.1,f.df.x.2.1,f.df.x.2.2,λq hq=>(B q hq.2.2).2,(a,f),rfl,rfl,rfl,rfl,rfl,rfl,rfl,rfl,rfl,rfl,rfl,rfl,rfl,rfl,rfl,rfl,rfl,rfl,rfl,rfl,rfl,rfl,rfl,rfl,rfl,rfl,rfl,rfl,rfl,rfl,rfl,rfl,rfl,⟨by show a.fs.length<=1000;omega,hals⟩,λq hq=>⟨hq.2.1,F q hq.2.2⟩,λhx=>⟨λhd=> ?_,λhd=>⟨λhc=>absurd hc hx,λ_=> ?_⟩⟩,λhx=>⟨λ_=> ?_,λhc=>absurd hx hc⟩⟩
  ·refine⟨(false,M,L,ms,c),rfl,rfl,rfl,rfl,rfl,⟨λ_=>⟨f,mf,λh=>h.elim hx (λh=>by rw[h]at hd;cases hd)⟩,λh=>(by cases h),z0x hms (by omega)⟩⟩
  ·exact⟨bnd,(i+1,M,L,ms,c),rfl,rfl,rfl,rfl,rfl,⟨hi2,skip hx hd,z0x hms (by omega),by show L.length<=_;omega⟩,hdec⟩
  ·have hx:0<=ixN f.nm a.fs 0:=hx
   have hle:=z70 (s:=f.nm) a.fs 0
   obtain⟨k,hk⟩:∃k:Nat,ixN f.nm a.fs 0=k:=⟨(ixN f.nm a.fs 0).toNat,by omega⟩
   have hk1:k<a.fs.length:=by omega
   have hT2:ixT a f=a.fs[k].ty:=by unfold ixT;rw[hk,Int.toNat_natCast,List.getElem?_eq_getElem hk1];rfl
   have st:=step hx
   rw[hT2]at st
   dsimp only
   rw[if_pos hx,hk,Int.toNat_natCast]
   have A:=λ(q:Pub) (hq:a.ok q)=>z06 z2w (by decide) hq.2.2.1 hk1
   refine⟨⟨by omega,by omega⟩,(A p0 hpa).1,a.fs[k].ty,λq hq=>z4d (A q hq.2.1).2 (z6b hq.2.1.2.2.1 (z68 hk1) _) 2 rfl,({r with M:=M,L:=L,ms:=ms,c:=c,B:=r.B+i},a.fs[k].ty,f.ty),rfl,rfl,rfl,rfl,rfl,rfl,rfl,rfl,rfl,rfl,rfl,rfl,rfl,rfl,rfl,⟨⟨⟨hS,hT⟩,hbl⟩,hms,by show r.B+i<1000000;omega,by show L.length<1000000;omega⟩,λq hq=>hq.1,?_⟩
   rintro⟨L',ms',c'⟩ ⟨e1,e2⟩
   have e1:L'=mtL r.bs M L (a.fs[k].ty,f.ty):=e1
   subst e1
   have:=z84 r.bs M L (a.fs[k].ty,f.ty)
   exact⟨bnd,(i+1,_,_,ms',c'),rfl,rfl,rfl,rfl,rfl,rfl,rfl,rfl,rfl,rfl,rfl,rfl,rfl,rfl,⟨hi2,st,e2,by show(mtL _ _ _ _).length<=_;omega⟩,hdec⟩
 ·obtain rfl:i=b.fs.length:=by omega
  exact⟨(true,M,L,ms,c),rfl,rfl,rfl,rfl,rfl,⟨λh=>(by cases h),λ_=>hq,z0x hms (by omega)⟩⟩
def z87{S T:List AT} {i j:Nat} (hi:i<S.length) (hj:j<T.length):z2g S T (i,j)=if S[i].k=9 then z0c S[i] T[j].fs else []:=by
 unfold z2g
 simp only[Int.toNat_natCast,List.getElem?_eq_getElem hi,List.getElem?_eq_getElem hj]
def z1r{S T:List AT} {i j:Nat} (hi:i<S.length) (hj:j<T.length):z1d S T (i,j)↔mtS S T i j=true/\(S[i].k=9->∀f∈T[j].fs,fOK S[i] f):=by
 unfold z1d
 have e2:isB T j=true:=by unfold isB;rw[decide_eq_true (by omega),decide_eq_true (by omega)];rfl
 simp only[Int.toNat_natCast,List.getElem?_eq_getElem hi,List.getElem?_eq_getElem hj,e2,true_and,Option.some.injEq]
 constructor
 ·rintro⟨h1,h2⟩
  exact⟨h1,h2 _ _ rfl rfl⟩
 ·rintro⟨h1,h2⟩
  exact⟨h1,λa b ha hb=>by subst ha hb;exact h2⟩
def z5t:q39 P 27 z2y:=by
 refine qla mixed (qef (qij z1n (qij z3f qlr))) (qf6 (qii z2m (qii z2r qlq))) (W:=z76) Try.func27 (by kernel_rfl) (by decide) (by decide) (λs=>by kernel_rfl) λ⟨(r:Rl),(p:PR)⟩=>(z5s r p).mpr ?_
 rintro⟨hr,⟨ht0,ht1⟩,hL,hB9⟩ ⟨p0,_,⟨hx,hy⟩,hz⟩
 obtain⟨⟨⟨hS,hT⟩,hbl⟩,hM,hB,hL0⟩:=id hr
 obtain⟨t,u⟩:=p
 have ht0:0<=t:=ht0
 have ht1:t<r.S.length:=ht1
 obtain⟨i,rfl⟩:∃i:Nat,t=i:=⟨t.toNat,by omega⟩
 have hi:i<r.S.length:=by omega
 have hxl:r.x.2.1=r.S.length:=hx.1.1
 have hyl:r.y.2.1=r.T.length:=hy.1.1
 simp only[sbS,Int.toNat_natCast,exists_const]
 refine⟨(r.T,r.y,u),rfl,rfl,rfl,rfl,hT.1.1.1,λq hq=>hq.1.2,λh=>⟨(false,r.M,r.L,r.ms,r.c),rfl,rfl,rfl,rfl,rfl,λ_ hk=> ?_,λh=>(by cases h),z0x hM (by omega)⟩,λh=> ?_⟩
 ·have h:isB r.T u=false:=h
  rw[hk.1]at h;cases h
 obtain⟨j,rfl,hj⟩:=z0q (S:=r.T) (t:=u) h
 have A:=λ(q:Pub) (hq:z03 r.S r.x q)=>z06 z23 (by decide) hq.1 hi
 have B:=λ(q:Pub) (hq:z03 r.T r.y q)=>z06 z23 (by decide) hq.1 hj
 have mA:=List.getElem_mem hi
 have mB:=List.getElem_mem hj
 have kA:=hS.2 _ mA
 have kB:=hT.2 _ mB
 have hok:=z1r (S:=r.S) (T:=r.T) hi hj
 have hsu:=z87 (S:=r.S) (T:=r.T) hi hj
 have C:=λ(q:Pub) (hq:z03 r.S r.x q/\z03 r.T r.y q)=>(⟨hq.1.2 _ mA,hq.2.2 _ mB⟩:r.S[i].ok q/\r.T[j].ok q)
 generalize hsa:r.S[i]=a at*
 generalize hsb:r.T[j]=b at*
 refine⟨⟨by omega,by show(i:Int)<r.x.2.1;omega⟩,(A p0 hx).1,a.k,a.nm,a.al.1,a.al.2.1,a.al.2.2,a.it,a.sy.1,a.sy.2.1,a.sy.2.2,a.hd,a.df,a.sz,a.f.1,a.f.2.1,a.f.2.2,a.br.1,a.br.2.1,a.br.2.2,λq hq=>(A q hq.1.1).2,⟨by omega,by show(j:Int)<r.y.2.1;omega⟩,(B p0 hy).1,b.k,b.nm,b.al.1,b.al.2.1,b.al.2.2,b.it,b.sy.1,b.sy.2.1,b.sy.2.2,b.hd,b.df,b.sz,b.f.1,b.f.2.1,b.f.2.2,b.br.1,b.br.2.1,b.br.2.2,λq hq=>(B q hq.1.2).2,b.k,b.nm,b.al.1,b.al.2.1,b.al.2.2,b.it,b.sy.1,b.sy.2.1,b.sy.2.2,b.hd,b.df,b.sz,b.f.1,b.f.2.1,b.f.2.2,b.br.1,b.br.2.1,b.br.2.2,λq hq=>(B q hq.1.2).2,rfl,λh=>absurd h (by omega),λ_=>⟨λh=>absurd h (by omega),λ_=> ?_⟩⟩
 refine⟨(r.S,r.x,r.T,r.y,i,j),rfl,rfl,rfl,rfl,rfl,rfl,rfl,rfl,⟨hS.1,hT.1⟩,λq hq=>hq.1,λhm=>⟨(false,r.M,r.L,r.ms,r.c),rfl,rfl,rfl,rfl,rfl,λ_ hk=> ?_,λh=>(by cases h),z0x hM (by omega)⟩,λhm=>⟨λh=>absurd h (by omega),λ_=>⟨λh=>absurd h (by omega),λ_=>⟨λh=>absurd h (by omega),λ_=>⟨λh9=> ?_,λh9=> ?_⟩⟩⟩⟩⟩
 ·have hm:mtS r.S r.T i j=false:=hm
  rw[(hok.1 hk).1]at hm;cases hm
 ·have hm:mtS r.S r.T i j=true:=hm
  rw[if_pos h9]at hsu
  refine⟨(r,a,b),rfl,rfl,rfl,rfl,rfl,rfl,rfl,rfl,rfl,rfl,rfl,rfl,rfl,rfl,rfl,rfl,rfl,rfl,rfl,rfl,rfl,rfl,rfl,rfl,rfl,rfl,rfl,rfl,rfl,rfl,rfl,rfl,rfl,rfl,rfl,rfl,rfl,rfl,rfl,rfl,rfl,rfl,rfl,rfl,rfl,rfl,rfl,rfl,rfl,⟨hr,⟨mA,mB⟩,hL,hB9⟩,λq hq=>⟨hq,C q hq.1⟩,?_⟩
  rintro⟨v,M',L',ms',c'⟩ ⟨e1,e2,e3⟩
  refine⟨(v,M',L',ms',c'),rfl,rfl,rfl,rfl,rfl,rfl,rfl,rfl,rfl,rfl,rfl,rfl,rfl,rfl,λhv hk=> ?_,λhv=> ?_,e3⟩
  ·obtain⟨f,hf,hn⟩:=e1 hv
   exact hn ((hok.1 hk).2 h9 f hf)
  ·have e2:z3i r a b b.fs.length M' L':=e2 hv
   unfold z3i at e2
   rw[List.take_length]at e2
   refine⟨hok.2 ⟨hm,λ_=>e2.1⟩,?_⟩
   rw[hsu];exact e2.2
 ·have hm:mtS r.S r.T i j=true:=hm
  rw[if_neg h9]at hsu
  refine⟨(true,r.M,r.L,r.ms,r.c),rfl,rfl,rfl,rfl,rfl,λh=>(by cases h),λ_=>⟨hok.2 ⟨hm,λh=>absurd h h9⟩,?_⟩,z0x hM (by omega)⟩
  rw[hsu];rfl
def z9w(l:List Int) (t:Int):qm1 P (λ_=>none) Try.f18 zc5 (λ_=>{}) ⟨l,t⟩=(z1e l (1000000:Nat)->(decide (t<(0:Int))=true->z05 l t=(-1:Int)/\z00 inV l=z00 inV l/\True)/\(decide (t<(0:Int))=false->(decide ((↑(length l):Int)<=t)=true->z05 l t=(-1:Int)/\z00 inV l=z00 inV l/\True)/\(decide ((↑(length l):Int)<=t)=false->((0:Int)<=t/\t<(↑(length l):Int))/\∃(n:Int),(∀(j:Nat) (v:Value),[int i64 n][j]? =some v->(z00 inV l)[(0:Nat)+toNat t*nat_lit 1+j]? =some v)/\z05 l t=n/\z00 inV l=z00 inV l/\True))):=by kernel_rfl
def z9y(y:SV) (l:List Int) (t:Int):qm1 P (λ_=>none) Try.f18 zc6 (λ_=>{}) ⟨y,l,t⟩=(z1e l (1000000:Nat)->(∃(p:Nat->Option Obj),True/\slP inV y l p)->(decide (t<(0:Int))=true->z05 l t=(-1:Int)/\True)/\(decide (t<(0:Int))=false->(decide ((↑(Prod.fst (Prod.snd y)):Int)<=t)=true->z05 l t=(-1:Int)/\True)/\(decide ((↑(Prod.fst (Prod.snd y)):Int)<=t)=false->((0:Int)<=t/\t<(↑(Prod.fst (Prod.snd y)):Int))/\Prod.fst y≠noA/\∃(n:Int),(∀(p:Nat->Option Obj),True/\slP inV y l p->q3q p (adr (Prod.fst y) (toNat t*(1:Nat))) [int i64 n])/\z05 l t=n/\True))):=by kernel_rfl
section
variable (x0:List Int) (x1:AT) (x2:Nat) (x3:List Int×Int) (x4:Prop) (x5:Nat)
 abbrev z9v:=(↑(AT.br x1).2.1:Int)
 def z6o:=length x0=length x0/\(z9v x1)=(z9v x1)/\x4
 def zby:=(AT.br x1).1=(AT.br x1).1/\(AT.br x1).2.1=(AT.br x1).2.1/\(AT.br x1).2.2=(AT.br x1).2.2/\x4
 def zcy:=AT.k x1=AT.k x1/\AT.nm x1=AT.nm x1/\(AT.al x1).1=(AT.al x1).1/\(AT.al x1).2.1=(AT.al x1).2.1/\(AT.al x1).2.2=(AT.al x1).2.2/\AT.it x1=AT.it x1/\(AT.sy x1).1=(AT.sy x1).1/\(AT.sy x1).2.1=(AT.sy x1).2.1/\(AT.sy x1).2.2=(AT.sy x1).2.2/\AT.hd x1=AT.hd x1/\AT.df x1=AT.df x1/\AT.sz x1=AT.sz x1/\(AT.f x1).1=(AT.f x1).1/\(AT.f x1).2.1=(AT.f x1).2.1/\(AT.f x1).2.2=(AT.f x1).2.2/\zby x1 ((∀i0,True/\AT.ok x1 i0->True/\AT.ok x1 i0)/\x2<=length (AT.brs x1)/\x4)
 abbrev z8v:=Jb ((↑x2:Int)+1)
 def z8u:=(↑x2:Int)=(↑x5:Int)+1/\zby x1 (z00 inV x0=z00 inV x3.1/\zcy x1 x2 (length (AT.brs x1)- x2<length (AT.brs x1)- x5/\True))
 def zcx:=z8v x2/\∃(i0:Nat),z6o x0 x1 (lbP x0 (AT.brs x1) i0=(↑x2:Int)/\z8u x0 x1 i0 x3 x2)
 def zcw:=z8v x2/\∃(i0:Nat),z6o x0 x1 (lbP x0 (AT.brs x1) i0=lbP x0 (AT.brs x1) x2/\z8u x0 x1 i0 x3 x2)
 def zez:=(0<=lbP x0 (AT.brs x1) x2/\lbP x0 (AT.brs x1) x2<(z9v x1))/\(AT.br x1).1≠noA/\∃(i0:Int),(∀i1,True/\AT.ok x1 i1->q3q i1 (adr (AT.br x1).1 (toNat (lbP x0 (AT.brs x1) x2)*1)) [int i64 i0])/\∃(i2:List Int×Int),length i2.1=length x0/\i2.2=i0/\z00 inV i2.1=z00 inV x3.1/\z1e i2.1 1000000/\Ji (z05 x3.1 x3.2<z05 i2.1 i2.2) (zcx x0 x1 x2 i2) (zcw x0 x1 x2 i2)
 def zey:=Ji (lbP x0 (AT.brs x1) x2= -1) (zcx x0 x1 x2 x3) (zez x0 x1 x2 x3)
 def zex:=(0<=(↑x2:Int)/\(↑x2:Int)<(z9v x1))/\(AT.br x1).1≠noA/\∃(i0:Int),(∀i1,True/\AT.ok x1 i1->q3q i1 (adr (AT.br x1).1 (toNat (↑x2:Int)*1)) [int i64 i0])/\∃(i2:List Int×Int),length i2.1=length x0/\i2.2=i0/\z00 inV i2.1=z00 inV x0/\z1e i2.1 1000000/\((!decide (z05 i2.1 i2.2= -1))=true->zey x0 x1 x2 i2)/\((!decide (z05 i2.1 i2.2= -1))=false->zcw x0 x1 x2 i2)
 def zew:=Ji ((↑x2:Int)<(z9v x1)) (zex x0 x1 x2) (lbF x0 x1=lbP x0 (AT.brs x1) x2/\z00 inV x0=z00 inV x0/\True)
 def zev:=(∃(i0:Nat),z6o x0 x1 (lbP x0 (AT.brs x1) i0= -1/\(↑i0:Int)=0/\zby x1 (z00 inV x0=z00 inV x0/\zcy x1 i0 True)))/\∀(i2:Nat),i2<=length (AT.brs x1)->zew x0 x1 i2
end
def z7v(a:AT) (l:List Int):qm1 P (qh3 [(18,cAt)]) Try.f33 zbm (zdk) ⟨a,l⟩=(z1e l 1000000/\length (AT.brs a)<=1000->(∃(p:Pub),True/\AT.ok a p)->zev l a):=by kernel_rfl
def za7:=λa l=>Eq.trans (z7v a l) (by delta Ji Jb Jt Jf z9v z6o zby zcy z8v z8u zcx zcw zez zey zex zew zev;exact rfl)
section
variable (x0:SV) (x1:AT) (x2:List Int) (x3:Nat) (x4:(Option Addr×Nat×Nat)×List Int×Int) (x5:Prop) (x6:Int) (x7:Nat)
 abbrev z43:=(↑(AT.br x1).2.1:Int)
 def zbz:=x0.1=x0.1/\x0.2.1=x0.2.1/\x0.2.2=x0.2.2/\(z43 x1)=(z43 x1)/\x5
 def z8w:=(AT.br x1).1=(AT.br x1).1/\(AT.br x1).2.1=(AT.br x1).2.1/\(AT.br x1).2.2=(AT.br x1).2.2/\x5
 def zd1:=z8w x1 (AT.k x1=AT.k x1/\AT.nm x1=AT.nm x1/\(AT.al x1).1=(AT.al x1).1/\(AT.al x1).2.1=(AT.al x1).2.1/\(AT.al x1).2.2=(AT.al x1).2.2/\AT.it x1=AT.it x1/\(AT.sy x1).1=(AT.sy x1).1/\(AT.sy x1).2.1=(AT.sy x1).2.1/\(AT.sy x1).2.2=(AT.sy x1).2.2/\AT.hd x1=AT.hd x1/\AT.df x1=AT.df x1/\AT.sz x1=AT.sz x1/\(AT.f x1).1=(AT.f x1).1/\(AT.f x1).2.1=(AT.f x1).2.1/\(AT.f x1).2.2=(AT.f x1).2.2/\z8w x1 ((∀i0,True/\AT.ok x1 i0/\slP inV x0 x2 i0->True/\AT.ok x1 i0/\slP inV x0 x2 i0)/\x3<=length (AT.brs x1)/\x5))
 def zd2:=x4.1.1=x0.1/\x4.1.2.1=x0.2.1/\x4.1.2.2=x0.2.2/\x4.2.2=x6/\z1e x4.2.1 1000000/\(∀i0,True/\AT.ok x1 i0/\slP inV x0 x2 i0->slP inV x4.1 x4.2.1 i0)/\x5
 abbrev z8x:=Jb ((↑x3:Int)+1)
 def z8y:=(↑x3:Int)=(↑x7:Int)+1/\zd1 x0 x1 x2 x3 (length (AT.brs x1)- x3<length (AT.brs x1)- x7/\True)
 def zd0:=z8x x3/\∃(i0:Nat),zbz x0 x1 (lbP x2 (AT.brs x1) i0=(↑x3:Int)/\z8y x0 x1 x2 i0 x3)
 def zcz:=z8x x3/\∃(i0:Nat),zbz x0 x1 (lbP x2 (AT.brs x1) i0=lbP x2 (AT.brs x1) x3/\z8y x0 x1 x2 i0 x3)
 def zf4:=(0<=lbP x2 (AT.brs x1) x3/\lbP x2 (AT.brs x1) x3<(z43 x1))/\(AT.br x1).1≠noA/\∃(i0:Int),(∀i1,True/\AT.ok x1 i1/\slP inV x0 x2 i1->q3q i1 (adr (AT.br x1).1 (toNat (lbP x2 (AT.brs x1) x3)*1)) [int i64 i0])/\∃(i2:(Option Addr×Nat×Nat)×List Int×Int),zd2 x0 x1 x2 i2 (Ji (z05 x4.2.1 x4.2.2<z05 i2.2.1 i2.2.2) (zd0 x0 x1 x2 x3) (zcz x0 x1 x2 x3)) i0
 def zf3:=Ji (lbP x2 (AT.brs x1) x3= -1) (zd0 x0 x1 x2 x3) (zf4 x0 x1 x2 x3 x4)
 def zf2:=(0<=(↑x3:Int)/\(↑x3:Int)<(z43 x1))/\(AT.br x1).1≠noA/\∃(i0:Int),(∀i1,True/\AT.ok x1 i1/\slP inV x0 x2 i1->q3q i1 (adr (AT.br x1).1 (toNat (↑x3:Int)*1)) [int i64 i0])/\∃(i2:(Option Addr×Nat×Nat)×List Int×Int),zd2 x0 x1 x2 i2 (((!decide (z05 i2.2.1 i2.2.2= -1))=true->zf3 x0 x1 x2 x3 i2)/\((!decide (z05 i2.2.1 i2.2.2= -1))=false->zcz x0 x1 x2 x3)) i0
 def zf1:=Ji ((↑x3:Int)<(z43 x1)) (zf2 x0 x1 x2 x3) (lbF x2 x1=lbP x2 (AT.brs x1) x3/\True)
 def zf0:=(∃(i0:Nat),zbz x0 x1 (lbP x2 (AT.brs x1) i0= -1/\(↑i0:Int)=0/\zd1 x0 x1 x2 i0 True))/\∀(i2:Nat),i2<=length (AT.brs x1)->zf1 x0 x1 x2 i2
end
def z5y(a:AT) (y:SV) (l:List Int):qm1 P (qh3 [(18,cAt)]) Try.f33 zbn (zdl) ⟨a,y,l⟩=(z1e l 1000000/\length (AT.brs a)<=1000->(∃(p:Pub),True/\AT.ok a p/\slP inV y l p)->zf0 y a l):=by kernel_rfl
def z7w:=λa y l=>Eq.trans (z5y a y l) (by delta Ji Jb Jt Jf z43 zbz z8w zd1 zd2 z8x z8y zd0 zcz zf4 zf3 zf2 zf1 zf0;exact rfl)
section
variable (x0:AT) (x1:List Int) (x2:Nat×Int) (x3:List Int×Int) (x4:Prop) (x5:AT×List Int)
 abbrev zc0:=(AT.f x0).1=(AT.f x0).1/\(AT.f x0).2.1=(AT.f x0).2.1/\(AT.f x0).2.2=(AT.f x0).2.2/\x4
 abbrev z2t:=(↑(AT.f x0).2.1:Int)
 def zd3:=AT.k x0=AT.k x0/\AT.nm x0=AT.nm x0/\(AT.al x0).1=(AT.al x0).1/\(AT.al x0).2.1=(AT.al x0).2.1/\(AT.al x0).2.2=(AT.al x0).2.2/\AT.it x0=AT.it x0/\(AT.sy x0).1=(AT.sy x0).1/\(AT.sy x0).2.1=(AT.sy x0).2.1/\(AT.sy x0).2.2=(AT.sy x0).2.2/\AT.hd x0=AT.hd x0/\AT.df x0=AT.df x0/\AT.sz x0=AT.sz x0/\zc0 x0 ((AT.br x0).1=(AT.br x0).1/\(AT.br x0).2.1=(AT.br x0).2.1/\(AT.br x0).2.2=(AT.br x0).2.2/\(∀i0,True/\AT.ok x0 i0->True/\AT.ok x0 i0)/\(x2.1<=length (AT.fs x0)/\z1b x1 (AT.fs x0) x2.1=some x2.2)/\x4)
 abbrev zfa:=Jb ((↑x2.1:Int)+1)/\∃(i0:Nat×Int),length x1=length x1/\zc0 x0 ((i0.2=if z05 x3.1 x3.2>x2.2 then z05 x3.1 x3.2 else x2.2)/\(↑i0.1:Int)=(↑x2.1:Int)+1/\(z2t x0)=(z2t x0)/\z00 inV x1=z00 inV x3.1/\zd3 x0 x1 i0 (length (AT.fs x0)- i0.1<length (AT.fs x0)- x2.1/\True))
 def zf8:=(0<=(↑x2.1:Int)/\(↑x2.1:Int)<(z2t x0))/\(AT.f x0).1≠noA/\∃i0,∃i1,∃(i2:Nat),∃(i3:Nat),∃(i4:Int),∃(i5:Bool),∃(i6:Int),∃(i7:Int),∃i8,∃i9,∃(i10:Nat),∃(i11:Nat),∃i12,∃(i13:Nat),∃(i14:Nat),(∀i15,True/\AT.ok x0 i15->q3q i15 (adr (AT.f x0).1 (toNat (↑x2.1:Int)*9)) [string i0,slice i1 i2 i3,int i64 i4,bool i5,int i64 i6,int i64 i7,string i8,slice i9 i10 i11,slice i12 i13 i14])/\∃(i16:List Int×Int),length i16.1=length x1/\i16.2=i4/\z00 inV i16.1=z00 inV x1/\z1e i16.1 1000000/\Ji (z05 i16.1 i16.2= -1) (rkF x1 x0= -1/\z00 inV x1=z00 inV i16.1/\True) (zfa x0 x1 x2 i16)
 def zb2:=Jb (x2.2+1)/\rkF x1 x0=x2.2+1/\z00 inV x1=z00 inV x1/\True
 def zf7:=Ji ((↑x2.1:Int)<(z2t x0)) (zf8 x0 x1 x2) (zb2 x0 x1 x2)
 def zf6:=(∃(i0:Nat×Int),length x1=length x1/\zc0 x0 (i0.2=0/\(↑i0.1:Int)=0/\(z2t x0)=(z2t x0)/\z00 inV x1=z00 inV x1/\zd3 x0 x1 i0 True))/\∀(i2:Nat×Int),i2.1<=length (AT.fs x0)/\z1b x1 (AT.fs x0) i2.1=some i2.2->zf7 x0 x1 i2
 def zfb:=(0<=lbF x5.2 x5.1/\lbF x5.2 x5.1<(↑(AT.br x0).2.1:Int))/\(AT.br x0).1≠noA/\∃(i0:Int),(∀i1,True/\AT.ok x0 i1->q3q i1 (adr (AT.br x0).1 (toNat (lbF x5.2 x5.1)*1)) [int i64 i0])/\∃(i2:List Int×Int),length i2.1=length x1/\i2.2=i0/\z00 inV i2.1=z00 inV x5.2/\z1e i2.1 1000000/\Jb (z05 i2.1 i2.2+1)/\rkF x1 x0=z05 i2.1 i2.2+1/\z00 inV x1=z00 inV i2.1/\True
 def z8z:=rkF x1 x0= -1/\z00 inV x1=z00 inV x1/\True
 def zb1:=Ji (14<AT.k x0) (z8z x0 x1) (rkF x1 x0=0/\z00 inV x1=z00 inV x1/\True)
 def zfc:=Ji (AT.k x0<1) (z8z x0 x1) (zb1 x0 x1)
 def zf9:=Ji (AT.k x0=14) (∃(i0:AT×List Int),AT.k i0.1=AT.k x0/\AT.nm i0.1=AT.nm x0/\(AT.al i0.1).1=(AT.al x0).1/\(AT.al i0.1).2.1=(AT.al x0).2.1/\(AT.al i0.1).2.2=(AT.al x0).2.2/\AT.it i0.1=AT.it x0/\(AT.sy i0.1).1=(AT.sy x0).1/\(AT.sy i0.1).2.1=(AT.sy x0).2.1/\(AT.sy i0.1).2.2=(AT.sy x0).2.2/\AT.hd i0.1=AT.hd x0/\AT.df i0.1=AT.df x0/\AT.sz i0.1=AT.sz x0/\(AT.f i0.1).1=(AT.f x0).1/\(AT.f i0.1).2.1=(AT.f x0).2.1/\(AT.f i0.1).2.2=(AT.f x0).2.2/\(AT.br i0.1).1=(AT.br x0).1/\(AT.br i0.1).2.1=(AT.br x0).2.1/\(AT.br i0.1).2.2=(AT.br x0).2.2/\length i0.2=length x1/\z00 inV i0.2=z00 inV x1/\(z1e i0.2 1000000/\length (AT.brs i0.1)<=1000)/\(∀i1,True/\AT.ok x0 i1->AT.ok i0.1 i1)/\((!decide (lbF i0.2 i0.1= -1))=true->zfb x0 x1 i0)/\((!decide (lbF i0.2 i0.1= -1))=false->rkF x1 x0= -1/\z00 inV x1=z00 inV i0.2/\True)) (zfc x0 x1)
 def zf5:=Ji (AT.k x0=9) (zf6 x0 x1) (zf9 x0 x1)
end
def z3z(a:AT) (l:List Int):qm1 P (qh3 [(18,cAt),(33,cLb)]) Try.f31 z5k (zan) ⟨a,l⟩=(z1e l 1000000/\length (AT.brs a)<=1000/\length (AT.fs a)<=1000->(∃(p:Pub),True/\AT.ok a p)->zf5 a l):=by kernel_rfl
def z4t:=λa l=>Eq.trans (z3z a l) (by delta Ji Jb Jt Jf zc0 z2t zd3 zfa zf8 zb2 zf7 zf6 zfb z8z zb1 zfc zf9 zf5;exact rfl)
section
variable (x0:SV) (x1:List AT) (x2:Nat×List Int) (x3:List Int) (x4:Nat) (x5:AT×List Int) (x6:List Nat×List Int) (x7:MapEntry) (x8 x9:Int) (x10:Prop) (x11:Nat->Option Obj) (x12 x13:Nat)
 abbrev z0a:=(↑x0.2.1:Int)
 def z1g:=toNat (z0a x0)=toNat (z0a x0)
 abbrev z1u:=(↑(toNat (z0a x0)):Int)
 def z0t:=x0.1=x0.1/\x0.2.1=x0.2.1/\x0.2.2=x0.2.2/\x10
 def z1t:=(∀i0,True/\z03 x1 x0 i0->True/\z03 x1 x0 i0)
 def z6p:=x2.1<=length x1/\length x2.2=length x1/\∀(i0:Nat),i0<x2.1->List.getD x2.2 i0 (0:Int)= -1
 def zb7:=(0<=(↑x2.1:Int)/\(↑x2.1:Int)<(z1u x0))/\(0:Nat)+toNat (↑x2.1:Int)*nat_lit 1+length [int i64 (-1:Int)]<=length (z00 inV x2.2)/\Jb ((↑x2.1:Int)+1)/\∃(i0:Nat×List Int),z1g x0/\(↑i0.1:Int)=(↑x2.1:Int)+1/\(z1u x0)=(z1u x0)/\z0t x0 (z00 inV i0.2=spl (z00 inV x2.2) ((0:Nat)+toNat (↑x2.1:Int)*nat_lit 1) [int i64 (-1:Int)]/\z1t x0 x1/\(z6p x1 i0)/\length x1- i0.1<length x1- x2.1/\True)
 abbrev z09:=esF x1 (List.map unI (z00 inV x3)) x4
 abbrev z92:=Jb ((↑x4:Int)+1)
 def zb5:=kOK (TypeDesc.int i64) (int i64 (↑x4:Int))/\(∀(i0:MapEntry),i0∈esF x1 (List.map unI (z00 inV x3)) x4->kOK (TypeDesc.int i64) (MapEntry.key i0))/\z92 x4/\∃(i1:Nat),z1g x0/\(z0a x0)=(z0a x0)/\(↑i1:Int)=(↑x4:Int)+1/\z0t x0 (z0t x0 (esF x1 (List.map unI (z00 inV x3)) i1=q28 (int i64 (↑x4:Int)) (int i64 (rkF x5.2 x5.1)) (z09 x1 x3 x4) (length (z09 x1 x3 x4))/\length (z09 x1 x3 i1)=qew (int i64 (↑x4:Int)) (z09 x1 x3 x4) (length (z09 x1 x3 x4))/\z00 inV x3=z00 inV x5.2/\z1t x0 x1/\i1<=length x1/\length x1- i1<length x1- x4/\True))
 def zd4:=z92 x4/\∃(i0:Nat),z1g x0/\(z0a x0)=(z0a x0)/\(↑i0:Int)=(↑x4:Int)+1/\z0t x0 (z0t x0 (esF x1 (List.map unI (z00 inV x3)) i0=esF x1 (List.map unI (z00 inV x3)) x4/\length (z09 x1 x3 i0)=length (z09 x1 x3 x4)/\z00 inV x3=z00 inV x5.2/\z1t x0 x1/\i0<=length x1/\length x1- i0<length x1- x4/\True))
 def zb4:=((!decide (rkF x5.2 x5.1= -1))=true->zb5 x0 x1 x3 x4 x5)/\((!decide (rkF x5.2 x5.1= -1))=false->zd4 x0 x1 x3 x4 x5)
 def zfi:=(0<=(↑x4:Int)/\(↑x4:Int)<(z0a x0))/\x0.1≠noA/\∃(i0:Int),∃i1,∃i2,∃(i3:Nat),∃(i4:Nat),∃(i5:Int),∃i6,∃(i7:Nat),∃(i8:Nat),∃(i9:Bool),∃i10,∃(i11:Int),∃i12,∃(i13:Nat),∃(i14:Nat),∃i15,∃(i16:Nat),∃(i17:Nat),(∀i18,True/\z03 x1 x0 i18->q3q i18 (adr x0.1 (toNat (↑x4:Int)*10)) [int i64 i0,string i1,slice i2 i3 i4,int i64 i5,slice i6 i7 i8,bool i9,string i10,int i64 i11,slice i12 i13 i14,slice i15 i16 i17])/\∃(i19:AT×List Int),AT.k i19.1=i0/\AT.nm i19.1=i1/\(AT.al i19.1).1=i2/\(AT.al i19.1).2.1=i3/\(AT.al i19.1).2.2=i4/\AT.it i19.1=i5/\(AT.sy i19.1).1=i6/\(AT.sy i19.1).2.1=i7/\(AT.sy i19.1).2.2=i8/\AT.hd i19.1=i9/\AT.df i19.1=i10/\AT.sz i19.1=i11/\(AT.f i19.1).1=i12/\(AT.f i19.1).2.1=i13/\(AT.f i19.1).2.2=i14/\(AT.br i19.1).1=i15/\(AT.br i19.1).2.1=i16/\(AT.br i19.1).2.2=i17/\length i19.2=toNat (z0a x0)/\z00 inV i19.2=z00 inV x3/\(z1e i19.2 1000000/\length (AT.brs i19.1)<=1000/\length (AT.fs i19.1)<=1000)/\(∀i20,True/\z03 x1 x0 i20->AT.ok i19.1 i20)/\(0<=(↑x4:Int)/\(↑x4:Int)<(z1u x0))/\∃(i21:Int),(∀(i22:Nat) (i23:Value),[int i64 i21][i22]? =some i23->(z00 inV i19.2)[(0:Nat)+toNat (↑x4:Int)*nat_lit 1+i22]? =some i23)/\Ji (i21= -1) (zb4 x0 x1 x3 x4 i19) (zd4 x0 x1 x3 x4 i19)
 def z91:=(True/\z03 x1 x0 x11)/\True/\toNat (z0a x0)<=x4 / nat_lit 1/\qk0 x11 (some (Addr.mk x12 x13 none)) (take (toNat (z0a x0)*nat_lit 1) (z00 inV x3))
 def z90:=esF x1 (List.map unI (z00 inV x3)) x4=esF x1 (List.map unI (z00 inV x3)) x4/\length (z09 x1 x3 x4)=length (z09 x1 x3 x4)/\x10
 abbrev z1f:=esF x1 (List.map unI (z00 inV x3)) (length x1)
 def z93:=length (z1f x1 x3)=length (z09 x1 x3 x4)/\z1t x0 x1/\z73 x1 (List.map unI (z00 inV x3)) x6.1 x6.2/\x10
 def zb6:=(0<=x8/\x8<(z1u x0))/\(0:Nat)+toNat x8*nat_lit 1+length [int i64 x9]<=length (z00 inV x6.2)/\∃(i0:List Nat×List Int),z1g x0/\z0t x0 (z90 x1 x3 x4 (z00 inV i0.2=spl (z00 inV x6.2) ((0:Nat)+toNat x8*nat_lit 1) [int i64 x9]/\length (z1f x1 x3)=length (z1f x1 x3)/\i0.1=x6.1++[MapEntry.born x7]/\z93 x0 x1 x3 x4 i0 (z1c (z1f x1 x3) i0.1<z1c (z1f x1 x3) x6.1/\True)))
 def zb3:=length (z09 x1 x3 x4)=length (z09 x1 x3 x4)/\qjn (z09 x1 x3 x4)/\qmk (z09 x1 x3 x4)/\(∃(i0:MapEntry),qhl (z09 x1 x3 x4) (x6.1++[MapEntry.born x7]) i0)/\∀(i1 i2:Int) (i3:Nat),qhl (z09 x1 x3 x4) (x6.1++[MapEntry.born x7]) (MapEntry.mk (int i64 i1) (int i64 i2) i3)->zb6 x0 x1 x3 x4 x6 x7 i1 i2
 def zfl:=qml (z09 x1 x3 x4) (length (z1f x1 x3))/\length (z1f x1 x3)<=length (z1f x1 x3)/\(ql5 (z09 x1 x3 x4) x6.1->∃(i0:List Int),z1g x0/\z0t x0 (z00 inV i0=z00 inV x6.2/\z1t x0 x1/\rkR x1 i0/\z2f i0<z2f x3/\True))/\∀(i2:MapEntry),qlp (z09 x1 x3 x4) x6.1 i2->zb3 x0 x1 x3 x4 x6 i2
 def zfk:=(∃(i0:List Nat×List Int),z1g x0/\z0t x0 (z90 x1 x3 x4 (z00 inV i0.2=z00 inV x3/\length (z1f x1 x3)=length (z09 x1 x3 x4)/\i0.1=[]/\z93 x0 x1 x3 x4 i0 True)))/\∀(i2:List Nat×List Int),z73 x1 (List.map unI (z00 inV x3)) i2.1 i2.2->zfl x0 x1 x3 x4 i2
 def zfj:=Ji ((↑(length (z09 x1 x3 x4)):Int)=0) (∀(i0 i1 i2:Nat),(∃i3,z91 x0 x1 x3 i2 i3 i0 i1)->∃(i4:List Int×Option Addr×Nat×Nat),i4.2.1=some (Addr.mk i0 i1 none)/\i4.2.2.1=toNat (z0a x0)/\i4.2.2.2=i2 / nat_lit 1/\rkE x1 i4.1/\(∀i5,z91 x0 x1 x3 i2 i5 i0 i1->slP inV i4.2 i4.1 i5)/\True) (zfk x0 x1 x3 x4)
 def zfh:=Ji ((↑x4:Int)<(z0a x0)) (zfi x0 x1 x3 x4) (zfj x0 x1 x3 x4)
 def zfg:=(∃(i0:Nat),z1g x0/\(z0a x0)=(z0a x0)/\(↑i0:Int)=0/\z0t x0 (z0t x0 (esF x1 (List.map unI (z00 inV x3)) i0=[]/\length (z09 x1 x3 i0)=nat_lit 0/\z00 inV x3=z00 inV x3/\z1t x0 x1/\i0<=length x1/\True)))/\∀(i2:Nat),i2<=length x1->zfh x0 x1 x3 i2
 def zff:=(∃(i0:List Int),z1g x0/\z0t x0 (z00 inV i0=z00 inV x2.2/\z1t x0 x1/\rkR x1 i0/\True))/\∀(i2:List Int),rkR x1 i2->zfg x0 x1 i2
 def zfe:=Ji ((↑x2.1:Int)<(z1u x0)) (zb7 x0 x1 x2) (zff x0 x1 x2)
 def zfd:=(0<=(z0a x0)/\(z0a x0)<=(z0a x0)/\(↑(8:Nat):Int)*(z0a x0)<=140737488355328/\(z0a x0)<140737488355328)/\(∃(i0:Nat×List Int),z1g x0/\(↑i0.1:Int)=0/\(z1u x0)=(z1u x0)/\z0t x0 (z00 inV i0.2=q86 [int i64 0] (toNat (z0a x0))/\z1t x0 x1/\(z6p x1 i0)/\True))/\∀(i3:Nat×List Int),(z6p x1 i3)->zfe x0 x1 i3
end
def z4v(S:List AT) (x:SV):qm2 P (qh3 [(31,z5k)]) (qi7 []) Try.f17 z30 (z78) ⟨S,x⟩=(z1m S->(∃(p:Pub),True/\z03 S x p)->zfd x S):=by kernel_rfl
def z64:=λS x=>Eq.trans (z4v S x) (by delta Ji Jb Jt Jf z0a z1g z1u z0t z1t z6p zb7 z09 z92 zb5 zd4 zb4 zfi z91 z90 z1f z93 zb6 zb3 zfl zfk zfj zfh zfg zff zfe zfd;exact rfl)
section
def z08:∀l:List Int,z00 inV l=l.map (Value.int .i64)
 | []=>rfl
 |x::l=>by rw[z00,z08 l];rfl
def z6g(l:List Int):(z00 inV l).map unI=l:=by
 rw[z08,List.map_map]
 conv=>rhs;rw[←List.map_id l]
 rfl
variable {l:List Int} {i:Nat}
def z3j(h:i<l.length):(z00 inV l)[i]? =some (.int .i64 (l.getD i 0)):=by
 rw[z08,List.getElem?_map,List.getElem?_eq_getElem h,List.getD_eq_getElem?_getD,List.getElem?_eq_getElem h];rfl
def z16(l:List Int):(z00 inV l).length=l.length:=by rw[z08,List.length_map]
def z2a(l:List Int) (i:Nat) (b:Int):spl (z00 inV l) i [.int .i64 b]=z00 inV (l.set i b):=by
 rw[z08,z08,List.map_set];rfl
def q0d{i j:Nat} {b:Int} (h:i<l.length):(l.set i b).getD j 0=if j=i then b else l.getD j 0:=by
 rw[List.getD_eq_getElem?_getD,List.getElem?_set,List.getD_eq_getElem?_getD]
 by_cases e:i=j
 ·subst e;rw[if_pos rfl,if_pos h,if_pos rfl];rfl
 ·rw[if_neg e,if_neg (λh=>e h.symm)]
def z3a(l brs:List Int):∀i,lbP l brs i= -1\/(0<=lbP l brs i/\lbP l brs i<i/\z05 l (brs.getD (lbP l brs i).toNat 0)≠ -1)
  |0=> .inl rfl
  | i +1=>by
    unfold lbP
    simp only
    split
    · rename_i h
      refine .inr ⟨by omega,by omega,?_⟩
      rw[Int.toNat_natCast];exact h.1
    · rcases z3a l brs i with h|⟨h1,h2,h3⟩
      · exact .inl h
      · exact .inr ⟨h1,by omega,h3⟩
def z71{a:AT} (h:lbF l a≠ -1):0<=lbF l a/\lbF l a<a.brs.length/\z05 l (a.brs.getD (lbF l a).toNat 0)≠ -1/\a.brs.getD (lbF l a).toNat 0∈a.brs:=by
 rcases z3a l a.brs a.brs.length with h1|⟨h1,h2,h3⟩
 ·exact absurd h1 h
 ·refine⟨h1,h2,h3,?_⟩
  have hlt:(lbP l a.brs a.brs.length).toNat<a.brs.length:=by omega
  show a.brs.getD (lbP l a.brs a.brs.length).toNat 0∈a.brs
  rw[List.getD_eq_getElem?_getD,List.getElem?_eq_getElem hlt]
  exact List.getElem_mem hlt
def z0o{l:List Int} {fs:List AF}:∀{i m},z1b l fs i=some m->0<=m/\∀(j:Nat) (f:AF),j<i->fs[j]? =some f->z05 l f.ty≠ -1/\z05 l f.ty<=m
  |0,m,h=>by cases h;exact⟨by omega,λj f hj=>by omega⟩
  | i + 1,m,h=>by
    simp only[z1b]at h
    split at h
    · cases h
    · rename_i m0 hm
      split at h
      · cases h
      · rename_i f hf
        split at h
        · cases h
        · rename_i hr
          cases h
          obtain⟨h1,h2⟩:=z0o hm
          refine⟨by omega,λj g hj hg=> ?_⟩
          by_cases e:j=i
          · subst e;rw[hf]at hg;cases hg;exact⟨hr,by omega⟩
          · obtain⟨h3,h4⟩:=h2 j g (by omega) hg
            exact⟨h3,by omega⟩
def z0s{l:List Int} {fs:List AF} {n:Int} (h0:0<=n) (hl:∀t,z05 l t<=n):∀{i m},z1b l fs i=some m->m<=n
  |0,m,h=>by cases h;exact h0
  | i + 1,m,h=>by
    simp only[z1b]at h
    split at h
    · cases h
    · rename_i m0 hm
      split at h
      · cases h
      · rename_i f hf
        split at h
        · cases h
        · cases h
          have:=z0s h0 hl hm
          have:=hl f.ty
          omega
def z28{l:List Int} {fs:List AF} {i:Nat} (h:z1b l fs i=none):∀k,z1b l fs (i+k)=none
  |0=>h
  | k+1=>by
    show z1b l fs (i+k+1)=none
    rw[z1b,z28 h k]
def z4w{fs:List AF} (hi:i<=fs.length) (h:z1b l fs i=none):z1b l fs fs.length=none:=by
 have:=z28 h (fs.length- i)
 rwa [show i+(fs.length- i)=fs.length by omega]at this
def z1s{t:Nat} (h:t<l.length):z05 l (t:Int)=l.getD t 0:=by
 unfold z05
 rw[if_neg (by omega),Int.toNat_natCast]
def z50{t:Int} (h:z05 l t≠ -1):∃k:Nat,t=k/\k<l.length/\z05 l t=l.getD k 0:=by
 unfold z05 at h⊢
 by_cases hc:t<0\/(l.length:Int)<=t
 ·rw[if_pos hc]at h;exact absurd rfl h
 ·exact⟨t.toNat,by omega,by omega,if_neg hc⟩
def z36{k:Nat} (h:k<l.length):l.getD k 0∈l:=by
 rw[List.getD_eq_getElem?_getD,List.getElem?_eq_getElem h];exact List.getElem_mem h
variable {n:Nat}
def z15(h:z1e l n) (t:Int): -1<=z05 l t/\z05 l t<=n:=by
 by_cases hc:z05 l t= -1
 ·rw[hc];omega
 ·obtain⟨k,_,hk,e⟩:=z50 hc
  rw[e]
  exact h.2 _ (z36 hk)
def zaj(h:z1e l n) (a:AT): -1<=rkF l a/\rkF l a<=n+1:=by
 unfold rkF
 split
 ·split
  ·omega
  ·rename_i m hm
   have:=z0s (n:=(n:Int)) (by omega) (λt=>(z15 h t).2) hm
   have:=(z0o hm).1
   omega
 ·split
  ·split
   ·have:=z15 h (a.brs.getD (lbF l a).toNat 0);omega
   ·omega
  ·split<;>omega
def z0d{S:List AT} {l:List Int}:∀{i:Nat} {e:MapEntry},e∈esF S l i->∃t,t<i/\told S l t=true/\e=⟨.int .i64 (t:Nat), .int .i64 (rkS S l t),(esF S l t).length⟩
  | i +1,e,h=>by
    unfold esF at h
    split at h
    · rename_i ht
      rcases List.mem_append.1 h with h|h
      · obtain⟨t,h1,h2⟩:=z0d h;exact⟨t,by omega,h2⟩
      · rw[List.mem_singleton]at h;exact⟨i,by omega,ht,h⟩
    · obtain⟨t,h1,h2⟩:=z0d h;exact⟨t,by omega,h2⟩
def z0v{S:List AT} {l:List Int} {t:Nat} (ht:told S l t=true):∀{i:Nat},t<i->(⟨.int .i64 (t:Nat), .int .i64 (rkS S l t),(esF S l t).length⟩:MapEntry)∈esF S l i
  | i +1,h=>by
    have e0:esF S l (i+1)=if told S l i=true then esF S l i++[⟨.int .i64 (i:Nat), .int .i64 (rkS S l i),(esF S l i).length⟩]else esF S l i:=rfl
    rw[e0]
    by_cases e:t=i
    · subst e;rw[if_pos ht];exact List.mem_append.2 (.inr List.mem_cons_self)
    · have:=z0v ht (i:=i) (by omega)
      split
      · exact List.mem_append.2 (.inl this)
      · exact this
def z0z{S:List AT} {l:List Int}:∀i:Nat,(esF S l i).map (·.born)=List.range (esF S l i).length
  |0=>rfl
  | i +1=>by
    unfold esF
    split
    · rw[List.map_append,z0z i,List.length_append]
      simp[List.range_succ]
    · exact z0z i
variable {S:List AT}
def z25(i:Nat):qjn (esF S l i):=by
 unfold qjn;rw[z0z];exact List.nodup_range
def z2k(i:Nat):qml (esF S l i) (esF S l i).length:=λe he=>by
 have:e.born∈(esF S l i).map (·.born):=List.mem_map.2 ⟨e,he,rfl⟩
 rw[z0z]at this
 exact List.mem_range.1 this
def z7g(i:Nat):qmk (esF S l i):=λe he=>by
 obtain⟨t,_,_,rfl⟩:=z0d he
 exact⟨_,_,rfl,rfl⟩
def z27{k:Value}:∀{es:List MapEntry} {i:Nat},(∀e∈es,q3f k e.key=false)->q1f k es i=none
  | [],i,h=>rfl
  | e::es,i,h=>by
    unfold q1f
    rw[h e List.mem_cons_self]
    exact z27 λe he=>h e (List.mem_cons_of_mem _ he)
def z5o(i:Nat):q1f (.int .i64 (i:Nat)) (esF S l i) 0=none:=z27 λe he=>by
 obtain⟨t,h1,_,rfl⟩:=z0d he
 show decide ((i:Int)=(t:Nat))=false
 rw[decide_eq_false]
 omega
def z7h(i:Nat):∀e∈esF S l i,kOK (.int .i64) e.key:=λe he=>by
 obtain⟨t,_,_,rfl⟩:=z0d he
 exact rfl
def z7i(h:told S l i=true):esF S l (i+1)=q28 (.int .i64 (i:Nat)) (.int .i64 (rkS S l i)) (esF S l i) (esF S l i).length/\(esF S l (i+1)).length=qew (.int .i64 (i:Nat)) (esF S l i) (esF S l i).length:=by
 unfold q28 qew
 rw[z5o]
 have:esF S l (i+1)=esF S l i++[⟨.int .i64 (i:Nat), .int .i64 (rkS S l i),(esF S l i).length⟩]:=by rw[esF,if_pos h]
 rw[this]
 exact⟨rfl,by simp⟩
def z35(h:told S l i=false):esF S l (i+1)=esF S l i:=by
 rw[esF,if_neg (by rw[h];decide)]
def z5z{es:List MapEntry} {seen:List Nat}:z1c es (seen++[n])<=z1c es seen:=by
  unfold z1c
  induction es with
  |nil=>exact Nat.le_refl _
  | cons a es ih=>
    simp only[List.filter_cons,List.mem_append,List.mem_singleton]
    by_cases h:a.born∈seen
    · simp[h];simpa using ih
    · by_cases h2:a.born=n
      · have h':n∉seen:=h2 ▸ h
        simp[h2,h'];simp at ih;omega
      · simp[h,h2];simpa using ih
def z3c{seen:List Nat}:∀{es:List MapEntry} {e:MapEntry},qlp es seen e->z1c es (seen++[e.born])<z1c es seen
  | a ::es,e,h=>by
    have hle:=z5z (es:=es) (seen:=seen) (n:=e.born)
    obtain⟨h1,h2⟩:=h
    unfold z1c at hle⊢
    simp only[List.filter_cons]
    rcases List.mem_cons.1 h1 with rfl|h1
    · simp[h2]at hle⊢;omega
    · have ih:=z3c ⟨h1,h2⟩
      unfold z1c at ih
      by_cases h3:a.born∈seen
      · simp[h3]at ih⊢;exact ih
      · by_cases h4:a.born=e.born
        · have h':e.born∉seen:=h4 ▸ h3
          simp[h4,h']at ih hle⊢;omega
        · simp[h3,h4]at ih⊢;exact ih
def z4f:∀{l l':List Int},l'.length=l.length->(∀t,t<l.length->l'.getD t 0= -1->l.getD t 0= -1)->z2f l'<=z2f l
  | [],[],_,_=>Nat.le_refl _
  | x ::l,y::l',hl,h=>by
    have ih:=z4f (l:=l) (l':=l') (by simpa using hl) λt ht hy=>by
      have:=h (t+1) (by simpa using ht) (by simpa using hy)
      simpa using this
    have h0:=h 0 (by simp)
    simp at h0
    unfold z2f at ih⊢
    simp only[List.filter_cons]
    by_cases hy:y= -1
    · rw[hy,h0 hy];simp at ih⊢;omega
    · by_cases hx:x= -1
      · simp[hx,hy]at ih⊢;omega
      · simp[hx,hy]at ih⊢;omega
def z4g:∀{l l':List Int},l'.length=l.length->(∀t,t<l.length->l'.getD t 0= -1->l.getD t 0= -1)->∀{k:Nat},k<l.length->l.getD k 0= -1->l'.getD k 0≠ -1->z2f l'<z2f l
  | x ::l,y::l',hl,h,k,hk,h1,h2=>by
    have hl':l'.length=l.length:=by simpa using hl
    have hr:∀t,t<l.length->l'.getD t 0= -1->l.getD t 0= -1:=λt ht hy=>by
      have:=h (t+1) (by simpa using ht) (by simpa using hy)
      simpa using this
    have hle:=z4f hl' hr
    have h0:=h 0 (by simp)
    simp at h0
    cases k with
    | zero=>
      simp at h1 h2
      unfold z2f at hle⊢
      simp[h1,h2]at hle⊢
      omega
    | succ k=>
      have ih:=z4g hl' hr (k:=k) (by simpa using hk) (by simpa using h1) (by simpa using h2)
      unfold z2f at ih⊢
      simp only[List.filter_cons]
      by_cases hy:y= -1
      · rw[hy,h0 hy];simp at ih⊢;omega
      · by_cases hx:x= -1
        · simp[hx,hy]at ih⊢;omega
        · simp[hx,hy]at ih⊢;omega
def z5n(l:List Int):z2f l<=l.length:=List.length_filter_le _ _
def z18{t:Nat} (h:told S l t=true):∃a,S[t]? =some a/\l.getD t 0= -1/\rkF l a≠ -1/\rkS S l t=rkF l a:=by
 unfold told at h
 unfold rkS
 split at h
 ·rename_i a ha
  simp at h
  rw[ha]
  exact⟨a,rfl,by rw[List.getD_eq_getElem?_getD];exact h.1,h.2,rfl⟩
 ·cases h
def z67{l l':List Int} (hr:rkR S l) (hn:l'.length=S.length) (hu:∀t,t<S.length->(l'.getD t 0=l.getD t 0/\told S l t=false)\/(l'.getD t 0=rkS S l t/\told S l t=true)) {k:Nat} (hk:k<S.length) (hkt:told S l k=true):rkR S l'/\z2f l'<z2f l:=by
 obtain⟨h1,h2,h3⟩:=hr
 have hsame:∀t,t<S.length->l.getD t 0≠ -1->l'.getD t 0=l.getD t 0:=λt ht hne=>by
  rcases hu t ht with h|h
  ·exact h.1
  ·obtain⟨a,_,q,_⟩:=z18 h.2;exact absurd q hne
 have hback:∀t,t<l.length->l'.getD t 0= -1->l.getD t 0= -1:=λt ht h=>by
  by_cases hne:l.getD t 0= -1
  ·exact hne
  ·rw[hsame t (by omega) hne]at h;exact absurd h hne
 have hc:z2f l'<z2f l:=by
  obtain⟨a,_,q1,q2,q3⟩:=z18 hkt
  refine z4g (by omega) hback (k:=k) (by omega) q1 ?_
  rcases hu k hk with h|h
  ·rw[hkt]at h;cases h.2
  ·rw[h.1,q3];exact q2
 have hat:∀x,z05 l x≠ -1->z05 l' x=z05 l x:=λx hx=>by
  obtain⟨j,rfl,hj,e⟩:=z50 hx
  rw[e]at hx⊢
  rw[z1s (by omega),hsame j (by omega) hx]
 have hcl:=z5n l
 refine⟨⟨hn,⟨by have:=h2.1;omega,λr hr=> ?_⟩,λt a ha hne=> ?_⟩,hc⟩
 ·obtain⟨t,ht,rfl⟩:=List.getElem_of_mem hr
  have e:l'[t]=l'.getD t 0:=by rw[List.getD_eq_getElem?_getD,List.getElem?_eq_getElem ht];rfl
  rw[e]
  rcases hu t (by omega)with h|h
  ·rw[h.1]
   have:=h2.2 _ (z36 (l:=l) (k:=t) (by omega))
   omega
  ·obtain⟨a,_,_,_,q3⟩:=z18 h.2
   rw[h.1,q3]
   have:=zaj h2 a
   omega
 ·have ht :t<S.length:=(List.getElem?_eq_some_iff.1 ha).1
  rcases hu t ht with h|h
  ·rw[h.1]at hne⊢
   obtain⟨p1,p2,p3,p4⟩:=h3 t a ha hne
   refine⟨p1,p2,λhk f hf=> ?_,λhk=> ?_⟩
   ·obtain⟨q1,q2⟩:=p3 hk f hf
    rw[hat _ q1];exact⟨q1,q2⟩
   ·obtain⟨b,hb,q1,q2⟩:=p4 hk
    exact⟨b,hb,by rw[hat _ q1];exact q1,by rw[hat _ q1];exact q2⟩
  ·obtain⟨a',ha',q1,q2,q3⟩:=z18 h.2
   rw[ha]at ha';cases ha'
   rw[h.1,q3]
   unfold rkF at q2⊢
   by_cases h9:a.k=9
   ·rw[if_pos h9]at q2⊢
    split at q2
    ·exact absurd rfl q2
    ·rename_i m hm
     obtain⟨r1,r2⟩:=z0o hm
     refine⟨by show 0<=m+1;omega,by omega,λ_ f hf=> ?_,λh14=>by omega⟩
     obtain⟨j,hj,rfl⟩:=List.getElem_of_mem hf
     obtain⟨r3,r4⟩:=r2 j _ hj (List.getElem?_eq_getElem hj)
     rw[hat _ r3]
     exact⟨r3,by show _<m+1;omega⟩
   ·rw [if_neg h9]at q2⊢
    by_cases h14:a.k=14
    ·rw[if_pos h14]at q2⊢
     split at q2
     ·rename_i hl
      obtain⟨r1,r2,r3,r4⟩:=z71 hl
      rw[if_pos hl]
      have:=z15 h2 (a.brs.getD (lbF l a).toNat 0)
      refine⟨by omega,by omega,λh=>absurd h h9,λ_=>⟨_,r4,by rw[hat _ r3];exact r3,by rw[hat _ r3];omega⟩⟩
     ·exact absurd rfl q2
    ·rw[if_neg h14]at q2⊢
     split at q2
     ·exact absurd rfl q2
     ·rename_i hk
      rw[if_neg hk]
      exact⟨by omega,by omega,λh=>absurd h h9,λh=>absurd h h14⟩
def z5p(hS:S.length<=60) (hn:l.length=S.length) (h:∀j,j<S.length->l.getD j 0= -1):rkR S l:=by
 refine⟨hn,⟨by omega,λr hr=> ?_⟩,λt a ha hne=> ?_⟩
 ·obtain⟨t,ht,rfl⟩:=List.getElem_of_mem hr
  have:=h t (by omega)
  rw[List.getD_eq_getElem?_getD,List.getElem?_eq_getElem ht]at this
  have this:l[t]= -1:=this
  rw[this];omega
 ·exact absurd (h t (List.getElem?_eq_some_iff.1 ha).1) hne
def z7t(hr:rkR S l) (h:esF S l S.length=[]):rkE S l:=by
 refine⟨hr,λt a ha hl=> ?_⟩
 by_cases hc:rkF l a= -1
 ·exact hc
 ·have ht:t<S.length:=(List.getElem?_eq_some_iff.1 ha).1
  have:told S l t=true:=by unfold told;rw[ha];simp at hl⊢;exact⟨hl,hc⟩
  have:=z0v this ht
  rw[h]at this
  cases this
end
def z9x:q5s P 18 zc5:=by
  refine qm4 mixed z0n (W:=λ_=>{}) Try.func18 (by kernel_rfl) (show 1<=2 by decide) (show 2<=2 by decide) (λs=>by kernel_rfl) λ⟨l,(t:Int)⟩=>(z9w l t).mpr ?_
  intro hl
  simp only[sbS,Int.toNat_natCast,exists_const]
  refine⟨λh=>by unfold z05;rw[if_pos (.inl h)],λh1=>⟨λh=>by unfold z05;rw[if_pos (.inr h)],λh2=>⟨⟨by omega,by omega⟩,z05 l t,λj v hj=> ?_,rfl⟩⟩⟩
  obtain⟨n,rfl⟩:=Int.eq_ofNat_of_zero_le (show 0<=t by omega)
  have hn:n<l.length:=by omega
  cases j with
  |succ j=>simp at hj
  | zero=>
    simp at hj
    subst hj
    rw[z1s hn,Int.toNat_natCast,show 0+n*1+0=n by omega]
    exact z3j hn
def z9z:q5s P 18 zc6:=by
 refine qm4 mixed z0n (W:=λ_=>{}) Try.func18 (by kernel_rfl) (show 1<=2 by decide) (show 2<=2 by decide) (λs=>by kernel_rfl) λ⟨(y:SV),l,(t:Int)⟩=>(z9y y l t).mpr ?_
 rintro hl ⟨p,_,hy⟩
 have hyl:y.2.1=l.length:=hy.1
 simp only[sbS,Int.toNat_natCast,exists_const]
 rw[hyl]
 refine⟨λh=>by unfold z05;rw[if_pos (.inl h)],λh1=>⟨λh=>by unfold z05;rw[if_pos (.inr h)],λh2=>⟨⟨by omega,by omega⟩,?_⟩⟩⟩
 obtain⟨n,rfl⟩:=Int.eq_ofNat_of_zero_le (show 0<=t by omega)
 have hn:n<l.length:=by omega
 have e:z05 l (n:Int)=l[n]:=by rw[z1s hn,List.getD_eq_getElem?_getD,List.getElem?_eq_getElem hn];rfl
 refine⟨(z06 z11 (by decide) hy hn).1,l[n],λq hq=> ?_,e⟩
 rw[Int.toNat_natCast]
 exact(z06 z11 (by decide) hq hn).2
def z7c:q5s P 18 cAt:=Ct.or_ok z9x z9z rfl rfl
def z3b(l brs:List Int) (i:Nat):(z05 l (brs.getD i 0)≠ -1->lbP l brs i= -1->lbP l brs (i+1)=i)/\(z05 l (brs.getD i 0)≠ -1->z05 l (brs.getD i 0)<z05 l (brs.getD (lbP l brs i).toNat 0)->lbP l brs (i+1)=i)/\(z05 l (brs.getD i 0)= -1->lbP l brs (i+1)=lbP l brs i)/\(lbP l brs i≠ -1->¬z05 l (brs.getD i 0)<z05 l (brs.getD (lbP l brs i).toNat 0)->lbP l brs (i+1)=lbP l brs i):=by
 refine⟨λh1 h2=> ?_,λh1 h2=> ?_,λh1=> ?_,λh1 h2=> ?_⟩
 ·show(if _ then _ else _)=_;rw[if_pos ⟨h1, .inl h2⟩]
 ·show(if _ then _ else _)=_;rw[if_pos ⟨h1, .inr h2⟩]
 ·show(if _ then _ else _)=_;rw[if_neg (λh=>h.1 h1)]
 ·show(if _ then _ else _)=_;rw[if_neg (λh=>h.2.elim h1 h2)]
def z0l{l:List Int} {i:Nat} (h:i<l.length):l.getD i 0=l[i]:=by rw[List.getD_eq_getElem?_getD,List.getElem?_eq_getElem h];rfl
def za8:q5s P 33 zbm:=by
 refine qm4 mixed (qef (qij z7c qlr)) (W:=zdk) Try.func33 (by kernel_rfl) (show 1<=2 by decide) (show 2<=2 by decide) (λs=>by kernel_rfl) λ⟨a,l⟩=>(za7 a l).mpr ?_
 rintro⟨hl,hb⟩ ⟨p,_,ha⟩
 have hbl:a.br.2.1=a.brs.length:=ha.2.2.2.1.1
 simp only[sbS,Int.toNat_natCast,exists_const]
 refine⟨⟨0,rfl,rfl,Nat.zero_le _⟩,λi hi=>⟨λhlt=> ?_,λhge=> ?_⟩⟩
 ·have hi1:i<a.brs.length:=by omega
  have hB:=λ(j:Nat) (hj:j<a.brs.length) (q:Pub) (hq:a.ok q)=>z06 z11 (by decide) hq.2.2.2.1 hj
  obtain⟨s1,s2,s3,s4⟩:=z3b l a.brs i
  rw[z0l hi1]at s1 s2 s3 s4
  rw[hbl]
  refine⟨⟨by omega,by omega⟩,(hB i hi1 p ha).1,a.brs[i],λq hq=>(hB i hi1 q hq).2,(l,a.brs[i]),rfl,rfl,rfl,hl,λhr=>⟨λh1=>⟨⟨by omega,by omega⟩,i+1,s1 hr h1,by omega,rfl,by omega,by omega⟩,λh1=> ?_⟩,λhr=>⟨⟨by omega,by omega⟩,i+1,s3 hr,by omega,rfl,by omega,by omega⟩⟩
  rcases z3a l a.brs i with h|⟨h2,h3,h4⟩
  ·exact absurd h h1
  obtain⟨k,hk⟩:=Int.eq_ofNat_of_zero_le h2
  rw[hk]at h1 h3 h4 s2 s4⊢
  rw[Int.toNat_natCast]at h4 s2 s4
  have hk1:k<a.brs.length:=by omega
  rw[z0l hk1]at h4 s2 s4
  refine⟨⟨by omega,by omega⟩,(hB k hk1 p ha).1,a.brs[k],λq hq=>by rw[Int.toNat_natCast];exact(hB k hk1 q hq).2,(l,a.brs[k]),rfl,rfl,rfl,hl,λh5=>⟨⟨by omega,by omega⟩,i+1,s2 hr h5,by omega,rfl,by omega,by omega⟩,λh5=>⟨⟨by omega,by omega⟩,i+1,?_,by omega,rfl,by omega,by omega⟩⟩
  exact s4 h1 h5
 ·have hi1:i=a.brs.length:=by omega
  subst hi1;rfl
def z7x:q5s P 33 zbn:=by
 refine qm4 mixed (qef (qij z7c qlr)) (W:=zdl) Try.func33 (by kernel_rfl) (show 1<=2 by decide) (show 2<=2 by decide) (λs=>by kernel_rfl) λ⟨a,(y:SV),l⟩=>(z7w a y l).mpr ?_
 rintro⟨hl,hb⟩ ⟨p,_,ha,hy⟩
 have hbl:a.br.2.1=a.brs.length:=ha.2.2.2.1.1
 simp only[sbS,Int.toNat_natCast,exists_const]
 refine⟨⟨0,rfl,rfl,Nat.zero_le _⟩,λi hi=>⟨λhlt=> ?_,λhge=> ?_⟩⟩
 ·have hi1:i<a.brs.length:=by omega
  have hB:=λ(j:Nat) (hj:j<a.brs.length) (q:Pub) (hq:a.ok q)=>z06 z11 (by decide) hq.2.2.2.1 hj
  obtain⟨s1,s2,s3,s4⟩:=z3b l a.brs i
  rw[z0l hi1]at s1 s2 s3 s4
  rw[hbl]
  refine⟨⟨by omega,by omega⟩,(hB i hi1 p ha).1,a.brs[i],λq hq=>(hB i hi1 q hq.1).2,(y,l,a.brs[i]),rfl,rfl,rfl,rfl,hl,λq hq=>hq.2,λhr=>⟨λh1=>⟨⟨by omega,by omega⟩,i+1,s1 hr h1,by omega,by omega,by omega⟩,λh1=> ?_⟩,λhr=>⟨⟨by omega,by omega⟩,i+1,s3 hr,by omega,by omega,by omega⟩⟩
  rcases z3a l a.brs i with h|⟨h2,h3,h4⟩
  ·exact absurd h h1
  obtain⟨k,hk⟩:=Int.eq_ofNat_of_zero_le h2
  rw[hk]at h1 h3 h4 s2 s4⊢
  rw[Int.toNat_natCast]at h4 s2 s4
  have hk1:k<a.brs.length:=by omega
  rw[z0l hk1]at h4 s2 s4
  refine⟨⟨by omega,by omega⟩,(hB k hk1 p ha).1,a.brs[k],λq hq=>by rw[Int.toNat_natCast];exact(hB k hk1 q hq.1).2,(y,l,a.brs[k]),rfl,rfl,rfl,rfl,hl,λq hq=>hq.2,λh5=>⟨⟨by omega,by omega⟩,i+1,s2 hr h5,by omega,by omega,by omega⟩,λh5=>⟨⟨by omega,by omega⟩,i+1,?_,by omega,by omega,by omega⟩⟩
  exact s4 h1 h5
 ·have hi1:i=a.brs.length:=by omega
  subst hi1;rfl
def zce:q5s P 33 cLb:=Ct.or_ok za8 z7x rfl rfl
def z4u:q5s P 31 z5k:=by
 refine qm4 mixed (qef (qij z7c (qij zce qlr))) (W:=zan) Try.func31 (by kernel_rfl) (show 1<=2 by decide) (show 2<=2 by decide) (λs=>by kernel_rfl) λ⟨a,l⟩=>(z4t a l).mpr ?_
 rintro⟨hl,hb,hf⟩ ⟨p,_,ha⟩
 have hbl:a.br.2.1=a.brs.length:=ha.2.2.2.1.1
 have hfl:a.f.2.1=a.fs.length:=ha.2.2.1.1
 simp only[sbS,Int.toNat_natCast,exists_const]
 refine⟨λh9=>⟨⟨(0,0),rfl,rfl,Nat.zero_le _,rfl⟩,?_⟩,λh9=>⟨λh14=> ?_,λh14=>⟨λh1=> ?_,λh1=>⟨λh2=> ?_,λh2=> ?_⟩⟩⟩⟩
 ·rintro⟨i,m⟩ ⟨hi,hm⟩
  have hi:i<=a.fs.length:=hi
  have hm:z1b l a.fs i=some m:=hm
  have hm0:=(z0o hm).1
  have hmb:=z0s (n:=1000000) (by omega) (λt=>(z15 hl t).2) hm
  refine⟨λhlt=> ?_,λhge=> ?_⟩
  ·have hi1:i<a.fs.length:=by omega
   have A:=λ(q:Pub) (hq:a.ok q)=>z06 z2w (by decide) hq.2.2.1 hi1
   have hg:a.fs[i]? =some a.fs[i]:=List.getElem?_eq_getElem hi1
   have hs:z1b l a.fs (i+1)=if z05 l a.fs[i].ty= -1 then none else some (max m (z05 l a.fs[i].ty)):=by rw[z1b,hm];simp only[hg]
   refine⟨⟨by omega,by omega⟩,(A p ha).1,a.fs[i].nm,a.fs[i].al.1,a.fs[i].al.2.1,a.fs[i].al.2.2,a.fs[i].ty,a.fs[i].hd,a.fs[i].df.k,a.fs[i].df.n,a.fs[i].df.s,a.fs[i].df.y.1,a.fs[i].df.y.2.1,a.fs[i].df.y.2.2,a.fs[i].df.x.1,a.fs[i].df.x.2.1,a.fs[i].df.x.2.2,λq hq=>(A q hq).2,(l,a.fs[i].ty),rfl,rfl,rfl,hl,λhr=>⟨?_,rfl⟩,λhr=>⟨⟨by omega,by omega⟩,(i+1,max m (z05 l a.fs[i].ty)),?_,by show((i+1:Nat):Int)=_;omega,rfl,⟨by show i+1<=_;omega,?_⟩,by show a.fs.length- (i+1)<a.fs.length- i;omega⟩⟩
   ·have:z1b l a.fs (i+1)=none:=by rw[hs,if_pos hr]
    unfold rkF
    rw[if_pos h9,z4w (by omega) this]
   ·show max m (z05 l a.fs[i].ty)=if z05 l a.fs[i].ty>m then z05 l a.fs[i].ty else m
    split<;>omega
   ·show z1b l a.fs (i+1)=some (max m (z05 l a.fs[i].ty))
    rw[hs,if_neg hr]
  ·have hi1:i=a.fs.length:=by omega
   subst hi1
   refine⟨⟨by show _<=m+1;omega,by show m+1<=_;omega⟩,?_⟩
   unfold rkF
   rw[if_pos h9,hm]
 ·refine⟨(a,l),rfl,rfl,rfl,rfl,rfl,rfl,rfl,rfl,rfl,rfl,rfl,rfl,rfl,rfl,rfl,rfl,rfl,rfl,rfl,rfl,⟨hl,hb⟩,λq hq=>hq,λhne=> ?_,λhe=>⟨?_,rfl⟩⟩
  ·have hne:lbF l a≠ -1:=hne
   obtain⟨h1,h2,h3,h4⟩:=z71 hne
   obtain⟨k,hk⟩:=Int.eq_ofNat_of_zero_le h1
   have hk1:k<a.brs.length:=by omega
   have B:=λ(q:Pub) (hq:a.ok q)=>z06 z11 (by decide) hq.2.2.2.1 hk1
   rw[hk,Int.toNat_natCast]at h3
   rw[z0l hk1]at h3
   have hle:=z15 hl a.brs[k]
   refine⟨⟨h1,by rw[hbl];exact h2⟩,(B p ha).1,a.brs[k],λq hq=>by show q3q q (adr a.br.1 ((lbF l a).toNat*1)) _;rw[hk,Int.toNat_natCast];exact(B q hq).2,(l,a.brs[k]),rfl,rfl,rfl,hl,⟨by show _<=z05 l a.brs[k]+1;omega,by show z05 l a.brs[k]+1<=_;omega⟩,?_,rfl⟩
   unfold rkF
   rw[if_neg h9,if_pos h14,if_pos hne,hk,Int.toNat_natCast,z0l hk1]
  ·unfold rkF
   have he:lbF l a= -1:=he
   rw[if_neg h9,if_pos h14,if_neg (λh=>h he)]
 ·unfold rkF;rw[if_neg h9,if_neg h14,if_pos (.inl h1)]
 ·unfold rkF;rw[if_neg h9,if_neg h14,if_pos (.inr h2)]
 ·unfold rkF;rw[if_neg h9,if_neg h14,if_neg (by omega)]
section
def z22(v:Value):∀n,q86 [v] n=List.replicate n v
 |0=>rfl
 |n+1=>by rw[q86,z22 v n];rfl
def z66(n:Nat):z00 inV (List.replicate n 0)=q86 [.int .i64 0] n:=by
 rw[z08,z22,List.map_replicate]
variable {S:List AT}
def z5r(h:z1m S) {i:Nat} (hi:i<S.length):z7j S.length S[i]:=h.2 _ (List.getElem_mem hi)
variable {l:List Int}
def z6e{i:Nat} (hi:i<S.length) (h1:l.getD i 0= -1) (h2:rkF l S[i]≠ -1):told S l i=true/\rkS S l i=rkF l S[i]:=by
 unfold told rkS
 rw[List.getElem?_eq_getElem hi]
 simp at h1⊢
 exact⟨h1,h2⟩
def z54{i:Nat} (hi:i<S.length) (h:l.getD i 0≠ -1\/rkF l S[i]= -1):told S l i=false:=by
  cases e:told S l i with
  |false=>rfl
  | true=>
    obtain⟨a,ha,q1,q2,_⟩:=z18 e
    rw[List.getElem?_eq_getElem hi]at ha
    cases ha
    rcases h with h|h
    · exact absurd q1 h
    · exact absurd h q2
variable {seen:List Nat}
def z88{l l':List Int} (h:z73 S l seen l') (ha:ql5 (esF S l S.length) seen):∀t,t<S.length->(l'.getD t 0=l.getD t 0/\told S l t=false)\/(l'.getD t 0=rkS S l t/\told S l t=true):=λt ht=>by
 rcases h.2 t ht with h|h
 ·refine .inl ⟨h.1,?_⟩
  cases e:told S l t with
  |false=>rfl
  |true=>exact absurd (ha _ (z0v e ht)) (h.2 _ (z0v e ht) rfl)
 ·exact .inr h
def z6h{l l':List Int} (h:z73 S l seen l') {t:Nat} (ht:t<S.length) (hk:told S l t=true):z73 S l (seen++[(esF S l t).length]) (l'.set t (rkS S l t)):=by
 refine⟨by rw[List.length_set];exact h.1,λj hj=> ?_⟩
 rw[q0d (by rw[h.1];exact ht)]
 by_cases e:j=t
 ·subst e;rw[if_pos rfl];exact .inr ⟨rfl,hk⟩
 ·rw [if_neg e]
  rcases h.2 j hj with q|q
  ·refine .inl ⟨q.1,λen he hkey hm=> ?_⟩
   rcases List.mem_append.1 hm with hm|hm
   ·exact q.2 en he hkey hm
   ·rw[List.mem_singleton]at hm
    obtain⟨t',h1,h2,rfl⟩:=z0d he
    have:(t':Int)=(j:Nat):=by injection hkey
    have ej:t'=j:=by omega
    subst ej
    have b1:=z0v h2 (i:=S.length) h1
    have b2:=z0v hk (i:=S.length) ht
    have hnd:((esF S l S.length).map (·.born)).Nodup:=z25 S.length
    have hm:(esF S l t').length=(esF S l t).length:=hm
    rcases Nat.lt_or_gt_of_ne e with hlt|hlt
    ·have m:=z0v h2 (i:=t) hlt
     have:=z2k (S:=S) (l:=l) t _ m
     have:(esF S l t').length<(esF S l t).length:=this
     omega
    ·have m:=z0v hk (i:=t') hlt
     have:=z2k (S:=S) (l:=l) t' _ m
     have:(esF S l t).length<(esF S l t').length:=this
     omega
  ·exact .inr q
def z65:q39 P 17 z30:=by
  refine qla mixed (qef (qij z4u qlr)) (qf6 qlq) (W:=z78) Try.func17 (by kernel_rfl) (show 1<=1 by decide) (show 1<=1 by decide) (λs=>by kernel_rfl) λ⟨S,(x:SV)⟩=>(z64 S x).mpr ?_
  rintro hS ⟨p,_,hx⟩
  have hxl:x.2.1=S.length:=hx.1.1
  have h60:=hS.1
  simp only[hxl,z6g]
  simp only[sbS,Int.toNat_natCast,exists_const]
  refine⟨⟨by omega,by omega,by omega,by omega⟩,⟨(0,List.replicate S.length 0),rfl,z66 _,Nat.zero_le _,by simp,λj hj=>absurd hj (by show¬j<0;omega)⟩,?_⟩
  rintro⟨i,l⟩ ⟨hi,hn,hz⟩
  have hi:i<=S.length:=hi
  have hn:l.length=S.length:=hn
  have hz:∀j,j<i->l.getD j 0= -1:=hz
  refine⟨λhlt=> ?_,λhge=> ?_⟩
  · have hi1:i<S.length:=by omega
    refine⟨⟨by omega,by omega⟩,by rw[z16];show 0+i*1+1<=l.length;omega,⟨by omega,by omega⟩,(i+1,l.set i (-1)),by show((i+1:Nat):Int)=_;omega,?_,⟨by show i+1<=_;omega,by show(l.set i (-1)).length=_;rw[List.length_set];exact hn,λj hj=> ?_⟩,by show S.length- (i+1)<S.length- i;omega⟩
    · rw[show 0+i*1=i by omega];exact(z2a l i (-1)).symm
    · have hj:j<i+1:=hj
      show(l.set i (-1)).getD j 0= -1
      rw[q0d (by omega)]
      by_cases e:j=i
      · rw[if_pos e]
      · rw[if_neg e];exact hz j (by omega)
  · have hi1:i=S.length:=by omega
    subst hi1
    refine⟨⟨l,rfl,z5p h60 hn hz⟩,?_⟩
    clear hz hn hi hge
    intro l hr
    have hn:=hr.1
    have hl:z1e l 1000000:=⟨hr.2.1.1,λr hm=>by have:=hr.2.1.2 r hm;omega⟩
    refine⟨⟨0,rfl,rfl,rfl,Nat.zero_le _⟩,λi hi=>⟨λhlt=> ?_,λhge=> ?_⟩⟩
    · have hi1:i<S.length:=by omega
      have A:=λ(q:Pub) (hq:z03 S x q)=>z06 z23 (by decide) hq.1 hi1
      obtain⟨_,_,_,_,_,_,_,g1,g2,g3⟩:=z5r hS hi1
      refine⟨⟨by omega,by omega⟩,(A p hx).1,S[i].k,S[i].nm,S[i].al.1,S[i].al.2.1,S[i].al.2.2,S[i].it,S[i].sy.1,S[i].sy.2.1,S[i].sy.2.2,S[i].hd,S[i].df,S[i].sz,S[i].f.1,S[i].f.2.1,S[i].f.2.2,S[i].br.1,S[i].br.2.1,S[i].br.2.2,λq hq=>(A q hq).2,(S[i],l),rfl,rfl,rfl,rfl,rfl,rfl,rfl,rfl,rfl,rfl,rfl,rfl,rfl,rfl,rfl,rfl,rfl,rfl,by show l.length=_;omega,rfl,⟨hl,by show S[i].brs.length<=1000;omega,by show S[i].fs.length<=1000;omega⟩,λq hq=>hq.2 _ (List.getElem_mem hi1),⟨by omega,by omega⟩,l.getD i 0,λj v hj=> ?_,λh1=>⟨λh2=> ?_,λh2=> ?_⟩,λh1=> ?_⟩
      · cases j with
        |succ j=>simp at hj
        | zero=>
          simp only[List.getElem?_cons_zero,Option.some.injEq]at hj
          subst hj
          rw[show 0+i*1+0=i by omega]
          exact z3j (l:=l) (by omega)
      · obtain⟨t1,t2⟩:=z6e hi1 h1 h2
        obtain⟨p1,p2⟩:=z7i t1
        rw[t2]at p1
        exact⟨rfl,z7h i,⟨by omega,by omega⟩,i+1,by omega,p1,p2,rfl,by omega,by omega⟩
      · have:=z35 (z54 hi1 (.inr h2))
        exact⟨⟨by omega,by omega⟩,i+1,by omega,this,by rw[this],rfl,by omega,by omega⟩
      · have:=z35 (z54 hi1 (.inl h1))
        exact⟨⟨by omega,by omega⟩,i+1,by omega,this,by rw[this],rfl,by omega,by omega⟩
    · have hi1:i=S.length:=by omega
      subst hi1
      refine⟨λhe=> ?_,λhe=> ?_⟩
      · have he:esF S l S.length=[]:=List.eq_nil_of_length_eq_zero (by omega)
        rintro b s u _
        refine⟨(l,some ⟨b,s,none⟩,S.length,u / 1),rfl,rfl,rfl,z7t hr he,λq hq=>⟨by show S.length=l.length;omega,hq.2.1,?_⟩⟩
        have:=hq.2.2
        rw[show S.length*1=(z00 inV l).length by rw[z16];omega,List.take_length]at this
        exact this
      · refine⟨⟨([],l),rfl,rfl,rfl,rfl,hn,λt ht=> .inl ⟨rfl,λ_ _ _ h=>by cases h⟩⟩,?_⟩
        rintro⟨seen,l'⟩ hu
        have hu:z73 S l seen l':=hu
        refine⟨z2k _,Nat.le_refl _,λha=> ?_,λe hnew=>⟨z25 _,z7g _,⟨e,hnew.1,by simp⟩,λa b n hlast=> ?_⟩⟩
        · have hpos:0<(esF S l S.length).length:=by omega
          obtain⟨t,ht,htold,_⟩:=z0d (List.getElem_mem hpos)
          obtain⟨r1,r2⟩:=z67 hr hu.1 (z88 hu ha) ht htold
          exact⟨l',rfl,r1,r2⟩
        · obtain⟨h1,h2⟩:=hlast
          obtain⟨t,ht,htold,hee⟩:=z0d h1
          injection hee with k1 k2 k3
          injection k1 with _ k1
          injection k2 with _ k2
          subst k1 k2
          have hb:e.born=n:=by
            have:(seen++[e.born]).getLast? =some n:=h2
            simpa using this
          have hl':l'.length=S.length:=hu.1
          refine⟨⟨by omega,by omega⟩,by rw[z16,Int.toNat_natCast];show 0+t*1+1<=l'.length;omega,(seen++[e.born],l'.set t (rkS S l t)),?_,rfl,rfl,?_,?_⟩
          · rw[Int.toNat_natCast,show 0+t*1=t by omega];exact(z2a l' t _).symm
          · show z73 S l (seen++[e.born]) (l'.set t (rkS S l t))
            rw[hb,k3]
            exact z6h hu ht htold
          · exact z3c hnew
end
section
variable (x0:SV) (x1:List AT) (x2:List Int×Option Addr×Nat×Nat) (x3:Nat×List Int×(Option Addr×Nat×Nat)×List Bool) (x4:Nat->Option Obj) (x5:Prop) (x6 x7 x8:Nat)
 abbrev z2u:=(↑x0.2.1:Int)
 def z58:=(True/\z03 x1 x0 x4)/\slP inV x2.2 x2.1 x4
 abbrev zc2:=(↑x2.2.2.1:Int)
 def zd5:=(zc2 x2)=(zc2 x2)/\x0.1=x0.1/\x0.2.1=x0.2.1/\x0.2.2=x0.2.2/\x5
 def zc1:=x3.1<=length x1/\rkE x1 x3.2.1/\length x3.2.2.2=length x1/\hasB x3.2.1 x3.2.2.2 x3.1
 def zfp:=(0<=(↑x3.1:Int)/\(↑x3.1:Int)<(↑x3.2.2.1.2.1:Int))/\x3.2.2.1.1≠noA/\∃(i0:Int),(∀i1,(z58 x0 x1 x2 i1)/\slP inV x3.2.2.1 x3.2.1 i1->q3q i1 (adr x3.2.2.1.1 (toNat (↑x3.1:Int)*1)) [int i64 i0])/\(0<=(↑x3.1:Int)/\(↑x3.1:Int)<(↑(toNat (z2u x0)):Int))/\(0:Nat)+toNat (↑x3.1:Int)*nat_lit 1+length [bool !decide (i0= -1)]<=length (z00 boV x3.2.2.2)/\Jb ((↑x3.1:Int)+1)/\∃(i2:Nat×List Int×(Option Addr×Nat×Nat)×List Bool),toNat (z2u x0)=toNat (z2u x0)/\i2.2.2.1.1=x3.2.2.1.1/\i2.2.2.1.2.1=x3.2.2.1.2.1/\i2.2.2.1.2.2=x3.2.2.1.2.2/\(↑i2.1:Int)=(↑x3.1:Int)+1/\zd5 x0 x2 (z00 boV i2.2.2.2=spl (z00 boV x3.2.2.2) ((0:Nat)+toNat (↑x3.1:Int)*nat_lit 1) [bool !decide (i0= -1)]/\(∀i3,(z58 x0 x1 x2 i3)/\slP inV x3.2.2.1 x3.2.1 i3->z58 x0 x1 x2 i3)/\(∀i4,(z58 x0 x1 x2 i4)/\slP inV x3.2.2.1 x3.2.1 i4->slP inV i2.2.2.1 i2.2.1 i4)/\(zc1 x1 i2)/\length x1- i2.1<length x1- x3.1/\True)
 def zd6:=((z58 x0 x1 x2 x4)/\slP inV x3.2.2.1 x3.2.1 x4)/\True/\toNat (z2u x0)<=x6 / nat_lit 1/\qk0 x4 (some (Addr.mk x7 x8 none)) (take (toNat (z2u x0)*nat_lit 1) (z00 boV x3.2.2.2))
 def zfo:=Ji ((↑x3.1:Int)<(zc2 x2)) (zfp x0 x1 x2 x3) (∀(i5 i6 i7:Nat),(∃i8,zd6 x0 x1 x2 x3 i8 i7 i5 i6)->∃(i9:List Bool×Option Addr×Nat×Nat),i9.2.1=some (Addr.mk i5 i6 none)/\i9.2.2.1=toNat (z2u x0)/\i9.2.2.2=i7 / nat_lit 1/\(length i9.1=length x1/\∃(i10:List Int),rkE x1 i10/\hasB i10 i9.1 (length x1))/\(∀i11,zd6 x0 x1 x2 x3 i11 i7 i5 i6->slP boV i9.2 i9.1 i11)/\True)
 def zfn:=(∃(i0:Nat×List Int×(Option Addr×Nat×Nat)×List Bool),toNat (z2u x0)=toNat (z2u x0)/\i0.2.2.1.1=x2.2.1/\i0.2.2.1.2.1=x2.2.2.1/\i0.2.2.1.2.2=x2.2.2.2/\(↑i0.1:Int)=0/\zd5 x0 x2 (z00 boV i0.2.2.2=q86 [bool false] (toNat (z2u x0))/\(∀i1,z58 x0 x1 x2 i1->z58 x0 x1 x2 i1)/\(∀i2,z58 x0 x1 x2 i2->slP inV i0.2.2.1 i0.2.1 i2)/\(zc1 x1 i0)/\True))/\∀(i3:Nat×List Int×(Option Addr×Nat×Nat)×List Bool),zc1 x1 i3->(∃i4,(z58 x0 x1 x2 i4)/\slP inV i3.2.2.1 i3.2.1 i4)->zfo x0 x1 x2 i3
 def zfm:=(0<=(z2u x0)/\(z2u x0)<=(z2u x0)/\(↑(1:Nat):Int)*(z2u x0)<=140737488355328/\(z2u x0)<140737488355328)/\∃(i0:List AT×Option Addr×Nat×Nat),i0.2.1=x0.1/\i0.2.2.1=x0.2.1/\i0.2.2.2=x0.2.2/\z1m i0.1/\(∀i1,True/\z03 x1 x0 i1->z03 i0.1 i0.2 i1)/\∀(i2:List Int×Option Addr×Nat×Nat),rkE i0.1 i2.1->(∃i3,z58 x0 x1 i2 i3)->zfn x0 x1 i2
end
def z7k(S:List AT) (x:SV):qm2 P (λ_=>none) (qi7 [(17,z30)]) Try.f8 zbk (zdi) ⟨S,x⟩=(z1m S->(∃(p:Pub),True/\z03 S x p)->zfm x S):=by kernel_rfl
def has_eq:=λS x=>Eq.trans (z7k S x) (by delta Ji Jb Jt Jf z2u z58 zc2 zd5 zc1 zfp zd6 zfo zfn zfm;exact rfl)
def z0f:∀l:List Bool,z00 boV l=l.map Value.bool
 | []=>rfl
 |x::l=>by rw[z00,z0f l];rfl
def z1k(l:List Bool):(z00 boV l).length=l.length:=by rw[z0f,List.length_map]
def z51(l:List Bool) (i:Nat) (b:Bool):spl (z00 boV l) i [.bool b]=z00 boV (l.set i b):=by
 rw[z0f,z0f,List.map_set];rfl
def z4z(n:Nat):z00 boV (List.replicate n false)=q86 [.bool false] n:=by
 rw[z0f,z22,List.map_replicate]
def z5q{l:List Bool} {i j:Nat} {b:Bool} (h:i<l.length):(l.set i b).getD j false=if j=i then b else l.getD j false:=by
 rw[List.getD_eq_getElem?_getD,List.getElem?_set,List.getD_eq_getElem?_getD]
 by_cases e:i=j
 ·subst e;rw[if_pos rfl,if_pos h,if_pos rfl];rfl
 ·rw[if_neg e,if_neg (λh=>e h.symm)]
def za2:q39 P 8 zbk:=by
 refine qla mixed z0n (qf6 (qii z65 qlq)) (W:=zdi) Try.func8 (by kernel_rfl) (show 1<=1 by decide) (show 1<=1 by decide) (λs=>by kernel_rfl) λ⟨S,(x:SV)⟩=>(has_eq S x).mpr ?_
 rintro hS ⟨p,_,hx⟩
 have hxl:x.2.1=S.length:=hx.1.1
 have h60:=hS.1
 simp only[hxl]
 simp only[sbS,Int.toNat_natCast,exists_const]
 refine⟨⟨by omega,by omega,by omega,by omega⟩,(S,x),rfl,hxl,rfl,hS,λq hq=>hq,?_⟩
 rintro⟨l,y⟩ hE ⟨p1,_,hy⟩
 have hE:rkE S l:=hE
 have hyl:y.2.1=l.length:=hy.1
 have hln:l.length=S.length:=hE.1.1
 refine⟨⟨(0,l,y,List.replicate S.length false),rfl,rfl,rfl,rfl,z4z _,λq hq=>hq.2,Nat.zero_le _,hE,by show(List.replicate S.length false).length=_;simp,λt ht=>absurd ht (by show¬t<0;omega)⟩,?_⟩
 rintro⟨i,l1,y1,bs⟩ ⟨hi,hE1,hbl,hb⟩ ⟨p2,_,hy1⟩
 have hi:i<=S.length:=hi
 have hE1:rkE S l1:=hE1
 have hbl:bs.length=S.length:=hbl
 have hb:hasB l1 bs i:=hb
 have hyl1:y1.2.1=l1.length:=hy1.1
 have hln1:l1.length=S.length:=hE1.1.1
 simp only[hyl]
 refine⟨λhlt=> ?_,λhge=> ?_⟩
 ·have hi1:i<S.length:=by omega
  have hi2:i<l1.length:=by omega
  have e1:l1[i]=l1.getD i 0:=by rw[List.getD_eq_getElem?_getD,List.getElem?_eq_getElem hi2];rfl
  refine⟨⟨by omega,by show(i:Int)<y1.2.1;omega⟩,(z06 z11 (by decide) hy1 hi2).1,l1[i],λq hq=>(z06 z11 (by decide) hq.2 hi2).2,⟨by omega,by omega⟩,by rw[z1k];show 0+i*1+1<=bs.length;omega,⟨by omega,by omega⟩,(i+1,l1,y1,bs.set i (!decide (l1[i]= -1))),rfl,rfl,rfl,by show((i+1:Nat):Int)=_;omega,?_,λq hq=>hq.1,λq hq=>hq.2,⟨by show i+1<=_;omega,hE1,by show(bs.set i _).length=_;rw[List.length_set];exact hbl,λt ht=> ?_⟩,by show S.length- (i+1)<S.length- i;omega⟩
  ·rw[show 0+i*1=i by omega];exact(z51 bs i _).symm
  ·have ht:t<i+1:=ht
   show(bs.set i (!decide (l1[i]= -1))).getD t false=decide (l1.getD t 0≠ -1)
   rw[z5q (by omega)]
   by_cases e:t=i
   ·subst e;rw[if_pos rfl,e1,decide_not]
   ·rw[if_neg e];exact hb t (by omega)
 ·have hi1:i=S.length:=by omega
  subst hi1
  rintro b s u _
  refine⟨(bs,some ⟨b,s,none⟩,S.length,u / 1),rfl,rfl,rfl,⟨hbl,l1,hE1,hb⟩,λq hq=>⟨by show S.length=bs.length;omega,hq.2.1,?_⟩⟩
  have:=hq.2.2
  rw[show S.length*1=(z00 boV bs).length by rw[z1k];omega,List.take_length]at this
  exact this
section
def z2n(bs:List Bool) (D:List PR):∀(ps L:List PR),(mts bs ps (D++L,L)).1=D++(mts bs ps (D++L,L)).2/\(∀q,q∈(mts bs ps (D++L,L)).1↔q∈D++L\/(q∈ps/\inH bs q.1=true))/\((D++L).Nodup->(mts bs ps (D++L,L)).1.Nodup)/\(mts bs ps (D++L,L)).2.length<=L.length+ps.length
  | [],L=>⟨rfl,λq=>⟨λh=> .inl h,λh=>h.elim (λh=>h) λh=>by cases h.1⟩,λh=>h,by show L.length<=_;omega⟩
  | p ::ps,L=>by
    rw[mts]
    dsimp only
    by_cases hc:inH bs p.1=true/\p∉D++L
    · have e:∀X,mtL bs (D++L) X p=X++[p]:=λX=>by unfold mtL;rw[if_pos hc]
      rw[e,e,List.append_assoc]
      obtain⟨h1,h2,h3,h4⟩:=z2n bs D ps (L++[p])
      refine⟨h1,λq=>(h2 q).trans ?_,λhn=>h3 ?_,by rw[List.length_append,List.length_singleton]at h4;rw[List.length_cons];omega⟩
      · rw[←List.append_assoc,List.mem_append,List.mem_singleton,List.mem_cons]
        constructor
        · rintro((h|h)|h)
          · exact .inl h
          · exact .inr ⟨.inl h,by rw[h];exact hc.1⟩
          · exact .inr ⟨.inr h.1,h.2⟩
        · rintro(h|⟨h|h,hi⟩)
          · exact .inl (.inl h)
          · exact .inl (.inr h)
          · exact .inr ⟨h,hi⟩
      · rw[←List.append_assoc,List.nodup_append]
        refine⟨hn,by simp,λa ha b hb=> ?_⟩
        rw[List.mem_singleton.1 hb]
        exactλh=>hc.2 (h ▸ ha)
    · have e:∀X,mtL bs (D++L) X p=X:=λX=>by unfold mtL;rw[if_neg hc]
      rw[e,e]
      obtain⟨h1,h2,h3,h4⟩:=z2n bs D ps L
      refine⟨h1,λq=>(h2 q).trans ?_,h3,by rw[List.length_cons];omega⟩
      rw[List.mem_cons]
      constructor
      · rintro(h|h)
        · exact .inl h
        · exact .inr ⟨.inr h.1,h.2⟩
      · rintro(h|⟨h|h,hi⟩)
        · exact .inl h
        · exact .inl (Classical.byContradiction λhn=>hc ⟨by rw[←h];exact hi,by rw[←h];exact hn⟩)
        · exact .inr ⟨h,hi⟩
def z12:∀(k:Nat) (l:List Nat),l.Nodup->(∀x∈l,x<k)->l.length<=k
  | 0,l,_,h=>by
    cases l with
    |nil=>exact Nat.le_refl _
    |cons a l=>exact absurd (h a List.mem_cons_self) (Nat.not_lt_zero _)
  | k + 1,l,hn,h=>by
    by_cases hk:k∈l
    · have h1:=List.length_erase_of_mem hk
      have h2:=z12 k (l.erase k) (hn.erase k) λx hx=>by
        have hx1:=(hn.mem_erase_iff).1 hx
        have:=h x hx1.2
        have:=hx1.1
        omega
      omega
    · have:=z12 k l hn λx hx=>by
        have:=h x hx
        have:x≠k:=λe=>hk (e ▸ hx)
        omega
      omega
def z63{m n:Nat} {l:List PR} (hn:l.Nodup) (h:∀q∈l,(0<=q.1/\q.1<m)/\0<=q.2/\q.2<n):l.length<=m*n:=by
 have hinj:∀a∈l,∀b∈l,a.1.toNat*n+a.2.toNat=b.1.toNat*n+b.2.toNat->a=b:=λa ha b hb e=>by
  obtain⟨⟨a1,a2⟩,a3,a4⟩:=h a ha
  obtain⟨⟨b1,b2⟩,b3,b4⟩:=h b hb
  have x1:a.2.toNat<n:=by omega
  have x2:b.2.toNat<n:=by omega
  have e2:a.2.toNat=b.2.toNat:=by
   have:=congrArg (· % n) e
   simpa[Nat.mul_add_mod_of_lt,Nat.add_comm,Nat.add_mul_mod_self_right,Nat.mod_eq_of_lt x1,Nat.mod_eq_of_lt x2]using this
  have e1:a.1.toNat=b.1.toNat:=by
   rw[e2]at e
   exact Nat.eq_of_mul_eq_mul_right (by omega) (Nat.add_right_cancel e)
  exact Prod.ext (by omega) (by omega)
 have hm:(l.map λq=>q.1.toNat*n+q.2.toNat).Nodup:=by
  unfold List.Nodup at hn⊢
  rw[List.pairwise_map]
  refine List.Pairwise.imp_of_mem ?_ hn
  intro a b ha hb hne e
  exact hne (hinj a ha b hb e)
 have:=z12 (m*n) _ hm λx hx=>by
  obtain⟨q,hq,rfl⟩:=List.mem_map.1 hx
  obtain⟨⟨a1,a2⟩,a3,a4⟩:=h q hq
  have h1:q.1.toNat+1<=m:=by omega
  have h2:=Nat.mul_le_mul_right n h1
  rw[Nat.add_mul,Nat.one_mul]at h2
  omega
 rw[List.length_map]at this
 exact this
def z14{a:AT} {q:PR}:∀{l:List AF},q∈z0c a l->∃f∈l,q.2=f.ty/\0<=ixN f.nm a.fs 0
  | [],h=>by cases h
  | f ::l,h=>by
    rw[z0c]at h
    split at h
    · rename_i hx
      rcases List.mem_cons.1 h with rfl|h
      · exact⟨f,List.mem_cons_self,rfl,hx⟩
      · obtain⟨g,hg,h1⟩:=z14 h
        exact⟨g,List.mem_cons_of_mem _ hg,h1⟩
    · obtain⟨g,hg,h1⟩:=z14 h
      exact⟨g,List.mem_cons_of_mem _ hg,h1⟩
variable {bs:List Bool}
def za3{t:Int} (h:inH bs t=true):0<=t/\t<bs.length:=by
 unfold inH at h
 simp only[Bool.and_eq_true,decide_eq_true_eq]at h
 exact⟨h.1,h.2.1⟩
variable {ms:List MapEntry}
def za1{S T:List AT} {t u:Int} {D:List PR} {c:Nat} (h:ckI S T t u bs D [] ms c):∀q,rcQ S T bs (t,u) q->z1d S T q:=by
 obtain⟨_,_,_,_,h5,h6⟩:=h
 rw[List.append_nil]at h5 h6
 have:∀q,rcQ S T bs (t,u) q->q∈D:=λq hq=>by
  induction hq with
  |root hi=>exact h6 hi
  |step _ hs hi ih=>exact(h5 _ ih).2 _ hs hi
 exactλq hq=>(h5 _ (this q hq)).1
def z5m{S T:List AT} {t u:Int} {c:Nat} (hb:bs.length=S.length/\∃l,rkE S l/\hasB l bs S.length) (ht:isB S t=true) (hu:isB T u=true) (hm:z0w ms c 1 (mtL bs [] [] (t,u))):ckI S T t u bs [] (mtL bs [] [] (t,u)) ms c:=by
 obtain⟨i,rfl,hi⟩:=z0q ht
 obtain⟨j,rfl,hj⟩:=z0q hu
 refine⟨hb,hm,?_,λq hq=> ?_,λq hq=>(by cases hq),λh=> ?_⟩
 ·unfold mtL;split<;>simp
 ·rw[List.nil_append]at hq
  unfold mtL at hq
  split at hq
  ·rename_i hc
   rw[List.nil_append,List.mem_singleton]at hq
   subst hq
   exact⟨⟨⟨by show(0:Int)<=i;omega,by show(i:Int)<S.length;omega⟩,by show(0:Int)<=j;omega,by show(j:Int)<T.length;omega⟩, .root hc.1⟩
  ·cases hq
 ·unfold mtL
  rw[if_pos ⟨h,by simp⟩];simp
def z7f{S T:List AT} (hT:z1m T) {t u:Int} {bs:List Bool} {D L:List PR} {p:PR} {ms ms':List MapEntry} {c c':Nat} {M' L':List PR} (h:ckI S T t u bs D (p::L) ms c) (hok:z1d S T p) (hM:(M',L')=mts bs (z2g S T p) (D++p::L,L)) (hm:z0w ms' c' (30*D.length+1+30) M'):ckI S T t u bs (D++[p]) L' ms' c':=by
 obtain⟨h1,h2,h3,h4,h5,h6⟩:=h
 have hD:D++p::L=(D++[p])++L:=by simp
 rw[hD]at hM h3 h4 h5 h6
 obtain⟨g1,g2,g3,g4⟩:=z2n bs (D++[p]) (z2g S T p) L
 rw[←hM]at g1 g2 g3 g4
 simp only at g1 g2 g3 g4
 have hp:p∈(D++[p])++L:=by simp
 have hsub:∀q,q∈(D++[p])++L->q∈(D++[p])++L':=λq hq=>by rw[←g1];exact(g2 q).2 (.inl hq)
 refine⟨h1,?_,by rw[←g1];exact g3 h3,λq hq=> ?_,λq hq=> ?_,λhi=>hsub _ (h6 hi)⟩
 ·rw[←g1,List.length_append,List.length_singleton]
  exact z0x hm (by omega)
 ·rw [← g1]at hq
  rcases(g2 q).1 hq with hq|⟨hq,hi⟩
  ·exact h4 q hq
  ·have hb:=za3 hi
   rw[h1.1]at hb
   refine⟨⟨hb,?_⟩, .step (h4 p hp).2 hq hi⟩
   unfold z2g at hq
   split at hq
   ·rename_i a b ha hb2
    split at hq
    ·obtain⟨f,hf,e,_⟩:=z14 hq
     rw[e]
     exact((hT.2 b (List.mem_of_getElem? hb2)).2.2.2.2.1 f hf).1
    ·cases hq
   ·cases hq
 ·rcases List.mem_append.1 hq with hq|hq
  ·exact⟨(h5 q hq).1,λq' hs hi=>hsub _ ((h5 q hq).2 q' hs hi)⟩
  ·rw[List.mem_singleton.1 hq]
   exact⟨hok,λq' hs hi=>by rw[←g1];exact(g2 q').2 (.inr ⟨hs,hi⟩)⟩
def z33:q39 P 13 z24:=by
  refine qla mixed (qef (qij z1n qlr)) (qf6 (qii za2 (qii z2m (qii z5t qlq)))) (W:=z74) Try.func13 (by kernel_rfl) (by decide) (by decide) (λs=>by kernel_rfl) λ⟨S,(x:SV),T,(y:SV),t,u⟩=>(z5l S x T y t u).mpr ?_
  rintro⟨hS,hT,ht,hu⟩ ⟨p0,_,hx,hy⟩
  have h60:=hS.1.1.1
  have t60:=hT.1.1.1
  simp only[sbS,Int.toNat_natCast,exists_const]
  refine⟨(S,x,t),rfl,rfl,rfl,rfl,h60,λq hq=>hq.1,λh=> ?_,λ_=>⟨(T,y,u),rfl,rfl,rfl,rfl,t60,λq hq=>hq.2,λh=> ?_,λ_=> ?_⟩⟩
  · have h:isB S t=false:=h
    rw[ht]at h;cases h
  · have h:isB T u=false:=h
    rw[hu]at h;cases h
  refine⟨?_,?_⟩
  · repeat' apply And.intro
    all_goals
      refine⟨(S,x),rfl,rfl,rfl,hS.1.1,λq hq=>hq.1,?_⟩
      rintro⟨bs,z⟩ hb -
      exact⟨(bs,z),rfl,rfl,rfl,λq hq=>hq.1,λq hq=>hq.2,hb⟩
  rintro⟨bs,z⟩ hb ⟨p1,_,hz⟩
  have hb:bs.length=S.length/\∃l,rkE S l/\hasB l bs S.length:=hb
  have m0:z0w [] 0 0 []:=⟨⟨λe he=>(by cases he),List.Pairwise.nil⟩,λq=>⟨λh=>(by cases h),λh=>(by cases h)⟩⟩
  refine⟨(⟨S,x,T,y,bs,z,[],[],[],0,0⟩,t,u),rfl,rfl,rfl,rfl,rfl,rfl,rfl,rfl,rfl,rfl,rfl,rfl,rfl,rfl,⟨⟨⟨hS,hT⟩,hb.1⟩,m0,by show(0:Nat)<1000000;decide,by show(0:Nat)<1000000;decide⟩,λq hq=>hq,?_⟩
  rintro⟨L0,ms0,c0⟩ ⟨e1,e2⟩
  have e1:L0=mtL bs [] [] (t,u):=e1
  subst e1
  refine⟨⟨(bs,z,[],mtL bs [] [] (t,u),ms0,c0),rfl,rfl,rfl,rfl,rfl,rfl,rfl,rfl,rfl,rfl,rfl,rfl,rfl,λq hq=>hq.2,z5m hb ht hu e2⟩,?_⟩
  rintro⟨bs,z,D,L,ms,c⟩ hI ⟨p2,_,hz2⟩
  have hI:ckI S T t u bs D L ms c:=hI
  refine⟨λhlt=> ?_,λhge=> ?_⟩
  · cases L with
    |nil=>exact absurd hlt (by show¬(0:Int)<0;decide)
    | cons p L=>
      obtain⟨h1,h2,h3,h4,h5,h6⟩:=id hI
      have hU:=z63 h3 λq hq=>(h4 q hq).1
      rw[List.length_append,List.length_cons]at hU
      have h36:S.length*T.length<=60*60:=Nat.mul_le_mul h60 t60
      have hp:=h4 p (by simp)
      have hl1:L.length<900000:=by omega
      have hD1:30*D.length+1<900000:=by omega
      have hpos:(0:Int)<((p::L).length:Nat):=hlt
      have hge1:(1:Int)<=((p::L).length:Nat):=by omega
      have hrow:(p::L).length*2<=(z00 prV (p::L)).length:=by rw[z17];omega
      have hdec:S.length*T.length- (D++[p]).length<S.length*T.length- D.length:=by rw[List.length_append,List.length_singleton];omega
      refine⟨⟨by decide,hpos⟩,p.1,p.2,λj v hj=> ?_,⟨by decide,hge1⟩,hrow,(⟨S,x,T,y,bs,z,D++p::L,L,ms,c,30*D.length+1⟩,p),rfl,rfl,rfl,rfl,rfl,rfl,rfl,rfl,rfl,rfl,rfl,rfl,rfl,rfl,rfl,⟨⟨⟨⟨hS,hT⟩,h1.1⟩,h2,by show 30*D.length+1<1000000;omega,by show L.length<1000000;omega⟩,⟨hp.1.1.1,hp.1.1.2⟩,hl1,hD1⟩,λq hq=>⟨hq.1.1,hq.2⟩,?_⟩
      · have hj2:j<2:=(List.getElem?_eq_some_iff.1 hj).1
        rw[show 0+0*2+j=j by omega,z00,List.getElem?_append_left (by show j<2;omega)]
        exact hj
      rintro⟨v,M',L',ms',c'⟩ ⟨g1,g2,g3⟩
      refine⟨λhv=>⟨false,rfl,bs,_,h1.1,h1.2.choose_spec.1,h1.2.choose_spec.2,⟨λh=>(by cases h),λh=>absurd (h p hp.2) (g1 hv)⟩⟩,λhv=> ?_⟩
      obtain⟨g4,g5⟩:=g2 hv
      exact⟨(bs,z,D++[p],L',ms',c'),rfl,rfl,rfl,rfl,rfl,rfl,rfl,rfl,rfl,rfl,rfl,rfl,rfl,λq hq=>hq.1,λq hq=>hq.2,z7f hT.1.1 hI g4 g5 g3,hdec⟩
  · cases L with
    |cons p L=>exact absurd (by show(0:Int)<((L.length+1:Nat):Int);omega) hge
    |nil=>exact⟨true,rfl,bs,_,hI.1.1,hI.1.2.choose_spec.1,hI.1.2.choose_spec.2,⟨λ_=>za1 hI,λ_=>rfl⟩⟩
end
def kIx(k:ByteArray):List ByteArray->Nat
 | []=>0
 |a::l=>if qf9 a k=true then kIx k l+1 else 0
def zah(k:ByteArray) (ks:List ByteArray):Bool:=decide (ks[kIx k ks]? =some k)
def qb4(k:ByteArray) (ks:List ByteArray):List ByteArray:=if zah k ks=true then ks else ks.take (kIx k ks)++k::ks.drop (kIx k ks)
def zbj(L:List Int):Prop:=L.length<9223372036854775808/\∀b∈L,0<=b/\b<256
def kdL:List Nat:=[105,108,102,100,115,98,110,111]
def kdN(b:Int):Nat:=kdL.getD (b % 8).toNat 0
def txK(L:List Int):ByteArray:=mkS (L.map kdN)
def rdT(b:Nat):List Nat:=
 if b=105 then [105,108,102,100]else
 if b=108 then [108,102,100]else
 if b=102 then [102,100]else
 if b=100 then [100]else
 if b=115 then [115,98]else
 if b=98 then [98]else
 if b=110 then [110]else
 if b=111 then [111]else []
def kdK(b:Nat):Int:=
 if b=105 then 3 else
 if b=108 then 4 else
 if b=102 then 5 else
 if b=100 then 6 else
 if b=115 then 8 else
 if b=98 then 7 else
 if b=110 then 1 else
 if b=111 then 2 else 0
def ofF(i:Nat):AF:=⟨mkS [97+i],(none,0,0),[],(i:Int)+1,false,zJ⟩
def ofR(x:SV) (s:List Nat):AT:=⟨9,mkS [82],(none,0,0),[],0,(none,0,0),[],false,mkS [],0,x,(List.range s.length).map ofF,(none,0,0),[]⟩
def kT(k:Int):AT:=⟨k,mkS [],(none,0,0),[],0,(none,0,0),[],false,mkS [],0,(none,0,0),[],(none,0,0),[]⟩
def ofK(b:Nat):AT:=kT (kdK b)
def ofS(x:SV) (s:List Nat):List AT:=ofR x s::s.map ofK
def okL(s:List Nat):Prop:=s.length<=6/\∀b∈s,b∈kdL
def z49:CtR where
 σ:=List Nat
 args:=λs=>[.sv (.string (mkS s))]
 h:=λ_=>[]
 m:=1
 pre:=λs=>okL s
 mem:=λ_=>{}
 β:=λ_=>SV×SV
 post:=λ_ _=>True
 pm:=λs ⟨y,x⟩=>scM (ofS y s) x
 r:=λs ⟨y,x⟩=>scA x
 h':=λ_ _=>[]
 m':=1
def z0y:Ct:=ctP Unit (λ_=>[]) (λ_=>True) (λ_=>{}) λ_=> .sv (.bool true)
def z3m:z0y.σ->WayF:=λ_=>{pub:=λi k=>match i,k with
 |1,2=>[4]
 |2,2=>[7]
 |_,_=>[]}
abbrev L23:=SV×List Int×SV×List Int
def z6z:Ct:=ctP L23 (λ⟨x,L,y,M⟩=>[svA x,svA y]) (λ⟨x,L,y,M⟩=>zbj L/\zbj M) (λ⟨x,L,y,M⟩=>⟨true,λp=>(byM x L).ok p/\(byM y M).ok p,λ_ _ h e=>⟨(byM x L).mono _ _ h e.1,(byM y M).mono _ _ h e.2⟩⟩) λ_=> .sv (.bool true)
def rdB(a b:Nat):Bool:=(rdT a).any λc=>decide (c=b)
def z0i(s t:List Nat) (i:Nat):Bool:=decide (t.length<=s.length)&&(List.range i).all λj=>rdB (s.getD j 0) (t.getD j 0)
def ivN(t:T AV) (k:Nat):Option Int:=match t.get k with
 |some (.sv (.int _ n))=>some n
 |_=>none
def z77:L23->WayF:=λ⟨x,L,y,M⟩=>{
  ann :=λid tt _=>match id with
    |0=>some {σ:=Nat,pre:=λi=>i<=L.length,t:=λi=>[(8, .sv (.int .i64 (i:Nat))),(6, .sv (.string (txK (L.take i))))],h:=λ_=>[],more:=0,μ:=λi=>L.length- i,keep:=[0,1,5,7]}
    |2=>some {σ:=Nat,pre:=λi=>i<=M.length,t:=λi=>[(9, .sv (.int .i64 (i:Nat))),(7, .sv (.string (txK (M.take i))))],h:=λ_=>[],more:=0,μ:=λi=>M.length- i,keep:=[0,1,5,6]}
    |4=>some {σ:=Nat,pre:=λi=>i<=L.length/\i<=M.length,t:=λi=>[(12, .sv (.int .i64 (i:Nat))),(11, .sv (.bool (z0i (L.map kdN) (M.map kdN) i)))],h:=λ_=>[],more:=0,μ:=λi=>L.length- i,keep:=[6,7,10]}
    | _=>match ivN tt 12 with
      |some n=>some {σ:=Nat×Bool,pre:=λ⟨k,b⟩=>k<=(rdT (kdN (L.getD n.toNat 0))).length/\b=((rdT (kdN (L.getD n.toNat 0))).take k).any (λc=>decide (c=kdN (M.getD n.toNat 0))),t:=λ⟨k,b⟩=>[(14, .sv (.int .i64 (k:Nat))),(13, .sv (.bool b))],h:=λ_=>[],more:=0,μ:=λ⟨k,b⟩=>(rdT (kdN (L.getD n.toNat 0))).length- k,keep:=[6,7,10,11,12]}
      |none=>none}
section
variable (x0:Nat->Option Obj) (x1 x2:Nat) (x3:Int) (x4:Bool) (x5 x6:Nat) (x7:CkS) (x8:Prop) (x9:List AT×(Option Addr×Nat×Nat)×List AT×(Option Addr×Nat×Nat)×Int×Int)
 abbrev zd9:=q3q x0 (Addr.mk x1 x2 none) [int i64 x3,string (mkS []),slice noA 0 0,int i64 0,slice noA 0 0,bool false,string (mkS []),int i64 0,slice noA 0 0,slice noA 0 0]
 def z5i:=∀(i0:Nat) (i1:Value),[int i64 x3,string (mkS []),slice noA 0 0,int i64 0,slice noA 0 0,bool false,string (mkS []),int i64 0,slice noA 0 0,slice noA 0 0][i0]? =some i1->q6s x0 (Addr.add (Addr.mk x1 x2 none) i0)=some i1
 def zd8:=x9.2.1.1=some (Addr.mk x1 (x2+nat_lit 0) none)/\x9.2.1.2.1=nat_lit 1/\x9.2.1.2.2=nat_lit 1/\x9.2.2.2.1.1=some (Addr.mk x5 (x6+nat_lit 0) none)/\x9.2.2.2.1.2.1=nat_lit 1/\x9.2.2.2.1.2.2=nat_lit 1/\x9.2.2.2.2.1=0/\x9.2.2.2.2.2=0/\(flat x9.1/\flat x9.2.2.1)/\x8
 def zdb:=z03 x9.1 x9.2.1 x0/\z03 x9.2.2.1 x9.2.2.2.1 x0
 def zd7:=x7.2.1.1=some (Addr.mk x1 (x2+nat_lit 0) none)/\x7.2.1.2.1=nat_lit 1/\x7.2.1.2.2=nat_lit 1/\x7.2.2.2.1.1=some (Addr.mk x5 (x6+nat_lit 0) none)/\x7.2.2.2.1.2.1=nat_lit 1/\x7.2.2.2.1.2.2=nat_lit 1/\x7.2.2.2.2.1=0/\x7.2.2.2.2.2=0/\(fl9 x7.1/\fl9 x7.2.2.1/\isB x7.1 x7.2.2.2.2.1=true/\isB x7.2.2.1 x7.2.2.2.2.2=true)/\x8
 def zdc:=z03 x7.1 x7.2.1 x0/\z03 x7.2.2.1 x7.2.2.2.1 x0
 def zda:=∃(i0:List Bool),∃(i1:List Int),length i0=length x7.1/\rkE x7.1 i1/\hasB i1 i0 (length x7.1)/\(x4=true↔∀(i2:PR),rcQ x7.1 x7.2.2.1 i0 (x7.2.2.2.2.1,x7.2.2.2.2.2) i2->z1d x7.1 x7.2.2.1 i2)
 def zfq:=(x4=true->∃(i0:CkS),zd7 x1 x2 x5 x6 i0 ((∀i1,((True/\z5i i1 x5 x6 3)/\z5i i1 x1 x2 4)->zdc i1 i0)/\∀(i2:Bool),(zda i2 i0)->true= !i2/\True))/\(x4=false->true=false/\True)
end
def z2i(u:Unit):qm3 P (qh3 [(24,z2z)]) (qi7 [(13,z24)]) Try.f11 z0y (z3m) u=(True->∀(b s u:Nat),(∃(p:Pub),True/\zd9 p b s 3)->∀(b_1 s_1 u:Nat),(∃(p:Pub),(True/\z5i p b s 3)/\zd9 p b_1 s_1 4)->∃(s_2:List AT×(Option Addr×Nat×Nat)×List AT×(Option Addr×Nat×Nat)×Int×Int),zd8 b s b_1 s_1 ((∀(p:Pub),((True/\z5i p b s 3)/\z5i p b_1 s_1 4)->zdb p s_2)/\(mtS s_2.1 s_2.2.2.1 s_2.2.2.2.2.1 s_2.2.2.2.2.2=true->∃(s_3:List AT×(Option Addr×Nat×Nat)×List AT×(Option Addr×Nat×Nat)×Int×Int),zd8 b_1 s_1 b s ((∀(p:Pub),((True/\z5i p b s 3)/\z5i p b_1 s_1 4)->zdb p s_3)/\((!mtS s_3.1 s_3.2.2.1 s_3.2.2.2.2.1 s_3.2.2.2.2.2)=true->∃(s_4:CkS),zd7 b s b_1 s_1 s_4 ((∀(p:Pub),((True/\z5i p b s 3)/\z5i p b_1 s_1 4)->zdc p s_4)/\∀(b_2:Bool),(zda b_2 s_4)->zfq b_1 s_1 b_2 b s))/\((!mtS s_3.1 s_3.2.2.1 s_3.2.2.2.2.1 s_3.2.2.2.2.2)=false->true=false/\True)) s_3)/\(mtS s_2.1 s_2.2.2.1 s_2.2.2.2.2.1 s_2.2.2.2.2.2=false->true=false/\True)) s_2):=by kernel_rfl
def z3o:=λu=>Eq.trans (z2i u) (by delta zd9 z5i zd8 zdb zd7 zdc zda zfq;exact rfl)
section
variable (x0 x1:SV) (x2 x3:List Int) (x4 x5 x6:Nat) (x7:Nat×Bool) (x8:Nat->Option Obj) (x9:Prop) (x10:ByteArray) (x11 x12:Int) (x13:Nat×Bool)
 abbrev z9b:=x0.2.1=length x2/\qim x8 x0.1 x0.2.1 x0.2.2 (z00 byV x2)
 def z19:=True/\(z9b x0 x2 x8)/\z9b x1 x3 x8
 abbrev z44:=(↑x0.2.1:Int)
 def z1v:=x0.1=x0.1/\x0.2.1=x0.2.1/\x0.2.2=x0.2.2/\x9
 def z45:=(∀i0,z19 x0 x1 x2 x3 i0->z19 x0 x1 x2 x3 i0)
 def z5c:=(0<=(↑x4:Int)/\(↑x4:Int)<(z44 x0))/\x0.1≠noA/\x9
 abbrev z5b:=q3q x8 (adr x0.1 (toNat (↑x4:Int)*1)) [int u8 x11]
 abbrev z5f:=Int.tmod x11 8+1
 abbrev z6r:=mkS [105,108,102,100,115,98,110,111]
 abbrev z6t:=Jb ((↑x4:Int)+1)
 def z98:=(8:Int)≠0/\(0<=Int.tmod x11 8/\Int.tmod x11 (8:Int)<=IntKind.wrap u8 (z5f x12)/\IntKind.wrap u8 (z5f x12)<=(↑(size (z6r)):Int))/\size (txK (take x4 x2))+size (ByteArray.extract (z6r) (toNat (Int.tmod x11 8)) (toNat (IntKind.wrap u8 (z5f x12))))<=9223372036854775807/\z6t x4/\x9
 def z9a:=txK (take x4 x2)=txK (take x5 x2)++ByteArray.extract (z6r) (toNat (Int.tmod x11 8)) (toNat (IntKind.wrap u8 (z5f x12)))
 def zbc:=z5c x0 x4 (∃(i0:Int),(∀i1,z19 x0 x1 x2 x3 i1->z5b x0 x4 i1 i0)/\(8:Int)≠0/\z5c x0 x4 (∃(i2:Int),(∀i3,z19 x0 x1 x2 x3 i3->z5b x0 x4 i3 i2)/\z98 x2 x4 (∃(i4:Nat),z1v x0 (z1v x1 ((↑i4:Int)=(↑x4:Int)+1/\z9a x2 i4 x4 i0 i2/\z45 x0 x1 x2 x3/\i4<=length x2/\length x2- i4<length x2- x4/\True))) i0 i2))
 def z1a:=txK (take x4 x2)=txK (take x4 x2)
 def zbb:=z5c x0 x4 (∃(i0:Int),(∀i1,z19 x1 x0 x2 x3 i1->z5b x0 x4 i1 i0)/\(8:Int)≠0/\z5c x0 x4 (∃(i2:Int),(∀i3,z19 x1 x0 x2 x3 i3->z5b x0 x4 i3 i2)/\z98 x3 x4 (∃(i4:Nat),z1v x1 (z1v x0 (z9a x3 i4 x4 i0 i2/\(↑i4:Int)=(↑x4:Int)+1/\z1a x2 x5/\z45 x1 x0 x2 x3/\i4<=length x3/\length x3- i4<length x3- x4/\True))) i0 i2))
 abbrev z2e:=(↑(size (txK (take x4 x2))):Int)
 def z5e:=x11=x11/\x12=x12/\x9
 def z59:=z5e (z5e (z5e (z5e (z45 x0 x1 x2 x3/\x9) 110 111) 115 98) 102 100) 105 108
 def z5a:=z1a x2 x4/\z0i (List.map kdN x3) (List.map kdN x2) x5=z0i (List.map kdN x3) (List.map kdN x2) x5/\x9
 abbrev z5d:=rdT (kdN (List.getD x2 (toNat (↑x4:Int)) 0))
 def z6q:=x7.1<=length (z5d x2 x4)/\x7.2=List.any (take x7.1 (z5d x2 x4)) λ(i0:Nat)=>decide (i0=kdN (List.getD x3 (toNat (↑x4:Int)) 0))
 abbrev z6u:=(↑(bat (txK (take x4 x2)) (toNat (↑x5:Int))):Int)
 abbrev z0j:=int u8 x11
 abbrev z9f:=string (mkS [105,108,102,100])
 abbrev z9e:=(0:Nat)+1+1+1+1+1+1
 abbrev z9d:=(0:Nat)+1+1+1+1+1+1+1
 def z96:=kOK (TypeDesc.int u8) (int u8 (z6u x2 x4 x5))/\(∀(i0:MapEntry),i0∈[MapEntry.mk (z0j 105) (z9f) 0,MapEntry.mk (z0j 108) (string (mkS [108,102,100])) ((0:Nat)+1),MapEntry.mk (z0j 102) (string (mkS [102,100])) ((0:Nat)+1+1),MapEntry.mk (z0j 100) (string (mkS [100])) ((0:Nat)+1+1+1),MapEntry.mk (z0j 115) (string (mkS [115,98])) ((0:Nat)+1+1+1+1),MapEntry.mk (z0j 98) (string (mkS [98])) ((0:Nat)+1+1+1+1+1),MapEntry.mk (z0j 110) (string (mkS [110])) (z9e),MapEntry.mk (z0j 111) (string (mkS [111])) (z9d)]->kOK (TypeDesc.int u8) (MapEntry.key i0))/\x9
 def z97:=qkk (int u8 (z6u x2 x4 x5)) [MapEntry.mk (z0j 105) (z9f) 0,MapEntry.mk (z0j 108) (string (mkS [108,102,100])) ((0:Nat)+1),MapEntry.mk (z0j 102) (string (mkS [102,100])) ((0:Nat)+1+1),MapEntry.mk (z0j 100) (string (mkS [100])) ((0:Nat)+1+1+1),MapEntry.mk (z0j 115) (string (mkS [115,98])) ((0:Nat)+1+1+1+1),MapEntry.mk (z0j 98) (string (mkS [98])) ((0:Nat)+1+1+1+1+1),MapEntry.mk (z0j 110) (string (mkS [110])) (z9e),MapEntry.mk (z0j 111) (string (mkS [111])) (z9d)] (string (mkS []))=string x10
 abbrev z6s:=Jb ((↑x7.1:Int)+1)
 def z99:=(↑x4:Int)=(↑x4:Int)/\z1a x2 x5/\(↑x7.1:Int)=(↑x13.1:Int)+1/\z59 x0 x1 x2 x3 ((z6q x2 x3 x4 x7)/\length (z5d x2 x4)- x7.1<length (z5d x2 x4)- x13.1/\True)
 def z94:=z6s x7/\∃(i0:Nat×Bool),z5a x2 x3 x4 x5 (i0.2=true/\z99 x0 x1 x3 x2 x5 x6 i0 x7)
 def zbf:=x7.2=x7.2/\x7.2=x7.2/\x7.2=x7.2/\x7.2=x7.2/\x7.2=x7.2/\x7.2=x7.2/\x7.2=x7.2/\x7.2=x7.2/\x7.2=x7.2/\x7.2=x7.2/\(x7.2=true->z94 x0 x1 x2 x3 x4 x5 x6 x7)/\(x7.2=false->z6s x7/\∃(i0:Nat×Bool),z5a x2 x3 x4 x5 False)
 def zbe:=z6s x7/\∃(i0:Nat×Bool),z5a x2 x3 x4 x5 (i0.2=decide ((↑(bat x10 (toNat (↑x7.1:Int))):Int)=(z6u x2 x4 x5))/\z99 x0 x1 x3 x2 x5 x6 i0 x7)
 def zba:=x7.2=x7.2/\x7.2=x7.2/\x7.2=x7.2/\(0<=(↑x4:Int)/\(↑x4:Int)<(z2e x2 x5))/\x7.2=x7.2/\z96 x2 x5 x4 (∃i1,z97 x2 x5 x4 i1/\x7.2=x7.2/\x7.2=x7.2/\(0<=(↑x7.1:Int)/\(↑x7.1:Int)<(↑(size i1):Int))/\x7.2=x7.2/\x7.2=x7.2/\x7.2=x7.2/\(0<=(↑x4:Int)/\(↑x4:Int)<(z2e x3 x6))/\x7.2=x7.2/\(x7.2=true->z94 x0 x1 x3 x2 x6 x4 x5 x7)/\(x7.2=false->zbe x0 x1 x3 x2 x6 x4 x5 x7 i1))
 def zb9:=(x7.2=true->zbf x0 x1 x2 x3 x4 x5 x6 x7)/\(x7.2=false->zba x0 x1 x3 x2 x5 x6 x4 x7)
 def z9c:=(↑x4:Int)=(↑x5:Int)+1/\z1a x2 x6/\z59 x0 x1 x2 x3 ((x4<=length x2/\x4<=length x3)/\length x2- x4<length x2- x5/\True)
 def zbh:=z6t x4/\∃(i0:Nat),z1a x2 x5/\z0i (List.map kdN x3) (List.map kdN x2) i0=x7.2/\z9c x0 x1 x3 x2 i0 x4 x6
 def zbg:=z6t x4/\∃(i0:Nat),z1a x2 x5/\z0i (List.map kdN x3) (List.map kdN x2) i0=false/\z9c x0 x1 x3 x2 i0 x4 x6
 def zbd:=(z0i (List.map kdN x2) (List.map kdN x3) x4=true->zbh x0 x1 x3 x2 x4 x5 x6 x7)/\(z0i (List.map kdN x2) (List.map kdN x3) x4=false->zbg x0 x1 x3 x2 x4 x5 x6)
 def zb8:=(0<=(↑x4:Int)/\(↑x4:Int)<(z2e x2 x5))/\z96 x2 x5 x4 (∃i1,z97 x2 x5 x4 i1/\Ji ((↑x7.1:Int)<(↑(size i1):Int)) (zb9 x0 x1 x3 x2 x6 x4 x5 x7) (zbd x0 x1 x2 x3 x4 x6 x5 x7))
 def zg0:=(∃(i0:Nat×Bool),z5a x2 x3 x4 x5 (i0.2=false/\(↑x5:Int)=(↑x5:Int)/\z1a x3 x6/\(↑i0.1:Int)=0/\z59 x0 x1 x3 x2 ((z6q x3 x2 x5 i0)/\True)))/\∀(i3:Nat×Bool),(z6q x3 x2 x5 i3)->zb8 x0 x1 x3 x2 x5 x6 x4 i3
 def z95:=∃(i0:List Nat),mkS i0=txK (take x4 x2)/\okL i0/\∀(i1:(Option Addr×Nat×Nat)×Option Addr×Nat×Nat),True->(∃i2,(z19 x0 x1 x2 x3 i2)/\z03 (ofS i1.1 i0) i1.2 i2)->∃(i3:List Nat),mkS i3=txK (take x5 x3)/\okL i3/\∀(i4:(Option Addr×Nat×Nat)×Option Addr×Nat×Nat),True->(∃i5,((z19 x0 x1 x2 x3 i5)/\z03 (ofS i1.1 i0) i1.2 i5)/\z03 (ofS i4.1 i3) i4.2 i5)->∃(i6:CkS),i6.2.1.1=i1.2.1/\i6.2.1.2.1=i1.2.2.1/\i6.2.1.2.2=i1.2.2.2/\i6.2.2.2.1.1=i4.2.1/\i6.2.2.2.1.2.1=i4.2.2.1/\i6.2.2.2.1.2.2=i4.2.2.2/\i6.2.2.2.2.1=0/\i6.2.2.2.2.2=0/\(fl9 i6.1/\fl9 i6.2.2.1/\isB i6.1 i6.2.2.2.2.1=true/\isB i6.2.2.1 i6.2.2.2.2.2=true)/\(∀i7,((z19 x0 x1 x2 x3 i7)/\z03 (ofS i1.1 i0) i1.2 i7)/\z03 (ofS i4.1 i3) i4.2 i7->z03 i6.1 i6.2.1 i7/\z03 i6.2.2.1 i6.2.2.2.1 i7)/\∀(i8:Bool),(∃(i9:List Bool),∃(i10:List Int),length i9=length i6.1/\rkE i6.1 i10/\hasB i10 i9 (length i6.1)/\(i8=true↔∀(i11:PR),rcQ i6.1 i6.2.2.1 i9 (i6.2.2.2.2.1,i6.2.2.2.2.2) i11->z1d i6.1 i6.2.2.1 i11))->true=decide (i8=z0i (List.map kdN x2) (List.map kdN x3) x6)/\True
 def zfz:=Ji ((↑x4:Int)<(z2e x2 x5)) (zg0 x0 x1 x2 x3 x5 x4 x6) (z95 x0 x1 x3 x2 x6 x5 x4)
 def zfy:=Ji ((↑x4:Int)<(z2e x2 x5)) (zfz x0 x1 x3 x2 x4 x6 x5) (z95 x0 x1 x2 x3 x5 x6 x4)
 def zfx:=(∃(i0:Nat),z1a x2 x4/\z0i (List.map kdN x3) (List.map kdN x2) i0=decide ((z2e x2 x4)<=(z2e x3 x5))/\(↑i0:Int)=0/\z1a x3 x5/\z59 x0 x1 x3 x2 ((i0<=length x3/\i0<=length x2)/\True))/\∀(i2:Nat),i2<=length x3/\i2<=length x2->zfy x0 x1 x3 x2 i2 x5 x4
 def zfw:=Ji ((↑x4:Int)<(z44 x0)) (zbb x0 x1 x2 x3 x4 x5) (zfx x1 x0 x3 x2 x4 x5)
 def zfv:=(∃(i0:Nat),z1v x0 (z1v x1 (txK (take i0 x2)=mkS []/\(↑i0:Int)=0/\z1a x3 x4/\z45 x0 x1 x3 x2/\i0<=length x2/\True)))/\∀(i2:Nat),i2<=length x2->zfw x1 x0 x3 x2 i2 x4
 def zfu:=Ji ((↑x4:Int)<(z44 x0)) (zbc x0 x1 x2 x3 x4) (zfv x0 x1 x3 x2 x4)
 def zft:=(∃(i0:Nat),z1v x0 (z1v x1 ((↑i0:Int)=0/\txK (take i0 x2)=mkS []/\z45 x0 x1 x2 x3/\i0<=length x2/\True)))/\∀(i2:Nat),i2<=length x2->zfu x0 x1 x2 x3 i2
 def zfs:=Ji (6<(z44 x0)) (true=true/\True) (zft x1 x0 x2 x3)
 def zfr:=Ji (6<(z44 x0)) (true=true/\True) (zfs x1 x0 x2 x3)
end
def z4l(x:SV) (L:List Int) (y:SV) (M:List Int):qm3 P (qh3 [(11,z0y)]) (qi7 [(12,z49),(13,z24)]) Try.f4 z6z (z77) ⟨x,L,y,M⟩=(zbj L/\zbj M->(∃(p:Pub),z19 x y L M p)->∃(s:Unit),True/\((!true)=true->true=false/\True)/\((!true)=false->zfr x y L M)):=by kernel_rfl
def z5w:=λx L y M=>Eq.trans (z4l x L y M) (by delta Ji Jb Jt Jf z9b z19 z44 z1v z45 z5c z5b z5f z6r z6t z98 z9a zbc z1a zbb z2e z5e z59 z5a z5d z6q z6u z0j z9f z9e z9d z96 z97 z6s z99 z94 zbf zbe zba zb9 z9c zbh zbg zbd zb8 zg0 z95 zfz zfy zfx zfw zfv zfu zft zfs zfr;exact rfl)
section
variable {k:Int}
def z4k{n:Nat} (h1:1<=k) (h2:k<=8):z7j n (kT k):=
 ⟨⟨h1,by show k<=14;omega⟩,λh=>absurd h (by show¬(k=12\/k=13);omega),λb hb=>(by cases hb),λh=>absurd h (by show¬k=14;omega),λf hf=>(by cases hf),λh=>absurd h (by show¬k=10;omega),λh=>absurd h (by show¬k=11;omega),by show 0<=30;decide,by show 0<=30;decide,by show 0<=30;decide⟩
def z3w{b:Nat} (h:b∈kdL):1<=kdK b/\kdK b<=8:=by
 unfold kdL at h
 simp only[List.mem_cons,List.not_mem_nil,or_false]at h
 rcases h with rfl|rfl|rfl|rfl|rfl|rfl|rfl|rfl<;>exact⟨by decide,by decide⟩
def z4h(h1:1<=k) (h2:k<=8):fl9 [kT k]:=by
 refine⟨⟨⟨by show 1<=60;decide,λa ha=> ?_⟩,λa ha=> ?_⟩,λa ha=> ?_⟩
 all_goals
  rw[List.mem_singleton]at ha
  subst ha
 ·exact z4k h1 h2
 ·exact⟨rfl,by show(mkS []).size<1000000;decide,λf hf=>(by cases hf)⟩
 ·show k<=9;omega
def z0e(y:SV) (s:List Nat):(ofS y s).length=s.length+1:=by unfold ofS;simp
variable {y:SV} {s:List Nat}
def z1q{f:AF} (h:f∈(ofR y s).fs):∃j,j<s.length/\f=ofF j:=by
 obtain⟨j,hj,e⟩:=List.mem_map.1 (show f∈(List.range s.length).map ofF from h)
 exact⟨j,List.mem_range.1 hj,e.symm⟩
def z1l(hs:okL s):fl9 (ofS y s):=by
 have hl:=z0e y s
 have cs:∀a∈ofS y s,a=ofR y s\/∃b∈kdL,a=ofK b:=λa ha=>by
  rcases List.mem_cons.1 (show a∈ofR y s::s.map ofK from ha)with h|h
  ·exact .inl h
  ·obtain⟨b,hb,e⟩:=List.mem_map.1 h
   exact .inr ⟨b,hs.2 b hb,e.symm⟩
 have h6:=hs.1
 have fl:(ofR y s).fs.length=s.length:=by show((List.range s.length).map ofF).length=_;simp
 refine⟨⟨⟨by omega,λa ha=> ?_⟩,λa ha=> ?_⟩,λa ha=> ?_⟩
 ·rcases cs a ha with rfl|⟨b,hb,rfl⟩
  ·refine⟨⟨by show(1:Int)<=9;decide,by show(9:Int)<=14;decide⟩,λh=>absurd h (by show¬((9:Int)=12\/(9:Int)=13);decide),λb hb=>(by cases hb),λh=>absurd h (by show¬(9:Int)=14;decide),λf hf=> ?_,λh=>absurd h (by show¬(9:Int)=10;decide),λh=>absurd h (by show¬(9:Int)=11;decide),by omega,by show 0<=30;decide,by show 0<=30;decide⟩
   obtain⟨j,hj,rfl⟩:=z1q hf
   exact⟨⟨by show(0:Int)<=(j:Int)+1;omega,by show(j:Int)+1<_;omega⟩,zcg⟩
  ·exact z4k (z3w hb).1 (z3w hb).2
 ·rcases cs a ha with rfl|⟨b,hb,rfl⟩
  ·refine⟨rfl,by show(mkS [82]).size<1000000;decide,λf hf=> ?_⟩
   obtain⟨j,hj,rfl⟩:=z1q hf
   rfl
  ·exact⟨rfl,by show(mkS []).size<1000000;decide,λf hf=>(by cases hf)⟩
 ·rcases cs a ha with rfl|⟨b,hb,rfl⟩
  ·show(9:Int)<=9;decide
  ·have:=z3w hb
   show kdK b<=9;omega
variable {l:List Int}
def zak(h1:1<=k) (h2:k<=8):rkF l (kT k)=0:=by
 unfold rkF
 rw[if_neg (by show¬k=9;omega),if_neg (by show¬k=14;omega),if_neg (by show¬(k<1\/14<k);omega)]
def z40:∀(fs:List AF),(∀f∈fs,z05 l f.ty≠ -1)->∀i,i<=fs.length->∃m,z1b l fs i=some m/\0<=m:=λfs hf i=>by
  induction i with
  |zero=>exactλ_=>⟨0,rfl,Int.le_refl _⟩
  | succ i ih=>
    intro hi
    obtain⟨m,h1,h2⟩:=ih (by omega)
    refine⟨max m (z05 l fs[i].ty),?_,by omega⟩
    rw[z1b,h1]
    simp only[List.getElem?_eq_getElem (show i<fs.length by omega)]
    rw[if_neg (hf _ (List.getElem_mem _))]
def z7l(hs:okL s) {l:List Int} (h:rkE (ofS y s) l):∀t,t<(ofS y s).length->l.getD t 0≠ -1:=by
  have hl:l.length=(ofS y s).length:=h.1.1
  have hn:=z0e y s
  have sc:∀j,j<s.length->l.getD (j+1) 0≠ -1:=λj hj e=>by
    have hg:(ofS y s)[j+1]? =some (ofK s[j]):=by
      show(ofR y s::s.map ofK)[j+1]? =_
      rw[List.getElem?_cons_succ,List.getElem?_map,List.getElem?_eq_getElem hj];rfl
    have:=h.2 (j+1) _ hg e
    have kk:=z3w (hs.2 _ (List.getElem_mem hj))
    rw[ofK,zak kk.1 kk.2]at this
    cases this
  intro t ht
  cases t with
  |succ j=>exact sc j (by omega)
  | zero=>
    intro e
    have hg:(ofS y s)[0]? =some (ofR y s):=rfl
    have:=h.2 0 _ hg e
    obtain⟨m,h1,h2⟩:=z40 (l:=l) (ofR y s).fs (λf hf=>by
      obtain⟨j,hj,rfl⟩:=z1q hf
      have e1:z05 l (ofF j).ty=l.getD (j+1) 0:=by
        have:(ofF j).ty=((j+1:Nat):Int):=by show(j:Int)+1=_;omega
        rw[this]
        exact z1s (by omega)
      rw[e1];exact sc j hj) _ (Nat.le_refl _)
    unfold rkF at this
    rw[if_pos (by rfl),h1]at this
    simp only at this
    omega
def z7m(h1:1<=k) (h2:k<=8) {l:List Int} (h:rkE [kT k] l):∀t,t< [kT k].length->l.getD t 0≠ -1:=by
 intro t ht e
 obtain rfl:t=0:=by simp at ht;omega
 have:=h.2 0 (kT k) rfl e
 rw[zak h1 h2]at this
 cases this
def z4j{S:List AT} {bs:List Bool} (hl:bs.length=S.length) (hh:hasB l bs S.length) (ha:∀t,t<S.length->l.getD t 0≠ -1) {t:Nat} (ht:t<S.length):inH bs t=true:=by
 unfold inH
 rw[decide_eq_true (by omega),decide_eq_true (by omega),Int.toNat_natCast,hh t ht,decide_eq_true (ha t ht)]
 rfl
end
section
def z83{a b:Nat} (ha:a<256) (hb:b<256) (h:mkS [a]=mkS [b]):a=b:=by
 have h1:(mkS [a]).data=(mkS [b]).data:=by rw[h]
 have h2:UInt8.ofNat a=UInt8.ofNat b:=by
  have:(⟨[UInt8.ofNat a]⟩:Array UInt8)=⟨[UInt8.ofNat b]⟩:=h1
  simpa using this
 have h3:=congrArg UInt8.toNat h2
 simpa[UInt8.toNat_ofNat',Nat.mod_eq_of_lt ha,Nat.mod_eq_of_lt hb]using h3
def z5v{n j:Nat} (hn:n<=6) (hj:j<6):∀i,i<=n->ixN (mkS [97+j]) (((List.range n).map ofF).drop i) i=if i<=j/\j<n then(j:Int)else -1:=by
  intro i
  induction h:n- i generalizing i with
  | zero=>
    intro hi
    obtain rfl:i=n:=by omega
    rw[List.drop_of_length_le (by simp),if_neg (by omega)];rfl
  | succ m ih=>
    intro hi
    have hl:i<((List.range n).map ofF).length:=by simp;omega
    rw[z37 hl,List.getElem_map,List.getElem_range]
    by_cases e:i=j
    · subst e
      rw[if_pos (show(ofF i).nm=mkS [97+i]from rfl),if_pos ⟨Nat.le_refl _,by omega⟩]
    · rw[if_neg (λh=>e (by have:=z83 (by omega) (by omega) (show mkS [97+i]=mkS [97+j]from h);omega)),ih (i+1) (by omega) (by omega)]
      by_cases h1:i+1<=j/\j<n
      · rw[if_pos h1,if_pos (by omega)]
      · rw[if_neg h1,if_neg (by omega)]
variable {s:List Nat}
def z7s{y:SV} {j:Nat} (hs:s.length<=6) (hj:j<6):ixN (ofF j).nm (ofR y s).fs 0=if j<s.length then(j:Int)else -1:=by
 have:=z5v hs hj 0 (Nat.zero_le _)
 rw[List.drop_zero]at this
 show ixN (mkS [97+j]) ((List.range s.length).map ofF) 0=_
 rw[this]
 by_cases h:j<s.length
 ·rw[if_pos ⟨Nat.zero_le _,h⟩,if_pos h]
 ·rw[if_neg (λhc=>h hc.2),if_neg h]
def z3h{y:SV} {j:Nat} (hj:j<s.length):(ofS y s)[j+1]? =some (ofK s[j]):=by
 show(ofR y s::s.map ofK)[j+1]? =_
 rw[List.getElem?_cons_succ,List.getElem?_map,List.getElem?_eq_getElem hj];rfl
def zcd{a b:Nat} (ha:a∈kdL) (hb:b∈kdL):mtB (ofK a) (ofK b)=rdB a b:=by
 unfold kdL at ha hb
 simp only[List.mem_cons,List.not_mem_nil,or_false]at ha hb
 rcases ha with rfl|rfl|rfl|rfl|rfl|rfl|rfl|rfl<;>rcases hb with rfl|rfl|rfl|rfl|rfl|rfl|rfl|rfl<;>decide
def z3l{y y':SV} {s t:List Nat} (hs:okL s) (ht:okL t) {q:PR}:q∈z2g (ofS y s) (ofS y' t) (0,0)↔∃j:Nat,j<s.length/\j<t.length/\q=((j:Int)+1,(j:Int)+1):=by
  have e:z2g (ofS y s) (ofS y' t) (0,0)=z0c (ofR y s) ((List.range t.length).map ofF):=rfl
  rw[e]
  have hs6:=hs.1
  have ht6:=ht.1
  have key:∀n,n<=6->(q∈z0c (ofR y s) ((List.range n).map ofF)↔∃j:Nat,j<s.length/\j<n/\q=((j:Int)+1,(j:Int)+1)):=λn=>by
    induction n with
    |zero=>exactλ_=>⟨λh=>(by cases h),λ⟨j,_,h,_⟩=>absurd h (Nat.not_lt_zero _)⟩
    | succ n ih=>
      intro hn
      rw[List.range_succ,List.map_append,List.map_singleton,z0p,List.mem_append,ih (by omega),z0c,z7s hs6 (by omega)]
      by_cases h:n<s.length
      · rw [if_pos h,if_pos (by omega)]
        have hty:(((ofR y s).fs[((n:Int)).toNat]?).map AF.ty).getD 0=(n:Int)+1:=by
          show((((List.range s.length).map ofF)[((n:Int)).toNat]?).map AF.ty).getD 0=_
          rw[Int.toNat_natCast,List.getElem?_map,List.getElem?_range h];rfl
        rw[hty]
        constructor
        · rintro(⟨j,h1,h2,h3⟩|h1)
          · exact⟨j,h1,by omega,h3⟩
          · rcases List.mem_cons.1 h1 with rfl|h1
            · exact⟨n,h,by omega,rfl⟩
            · cases h1
        · rintro⟨j,h1,h2,h3⟩
          by_cases hj:j<n
          · exact .inl ⟨j,h1,hj,h3⟩
          · obtain rfl:j=n:=by omega
            exact .inr (by rw[h3];exact List.mem_cons_self)
      · rw[if_neg h,if_neg (by omega)]
        constructor
        · rintro(⟨j,h1,h2,h3⟩|h1)
          · exact⟨j,h1,by omega,h3⟩
          · cases h1
        · rintro⟨j,h1,h2,h3⟩
          exact .inl ⟨j,h1,by omega,h3⟩
  exact key _ ht6
def z6d{y y':SV} {s t:List Nat} (hs:okL s) {j:Nat} (h1:j<s.length) (h2:j<t.length):z2g (ofS y s) (ofS y' t) ((j:Int)+1,(j:Int)+1)=[]:=by
 unfold z2g
 have e:((j:Int)+1).toNat=j+1:=by omega
 simp only[e,z3h h1,z3h h2]
 have:=z3w (hs.2 _ (List.getElem_mem h1))
 rw[if_neg (by show¬kdK s[j]=9;omega)]
def z4q{y y':SV} {s t:List Nat} (hs:okL s) (ht:okL t) {j:Nat} (h1:j<s.length) (h2:j<t.length):z1d (ofS y s) (ofS y' t) ((j:Int)+1,(j:Int)+1)↔rdB s[j] t[j]=true:=by
 have n1:=z0e y s
 have n2:=z0e y' t
 have e:((j:Int)+1)=((j+1:Nat):Int):=by omega
 rw[e,z1r (i:=j+1) (j:=j+1) (by omega) (by omega),z3g (by omega) (by omega)]
 have g1:(ofS y s)[j+1]'(by omega)=ofK s[j]:=by
  have:=z3h (y:=y) h1
  rw[List.getElem?_eq_getElem (by omega)]at this
  exact Option.some.inj this
 have g2:(ofS y' t)[j+1]'(by omega)=ofK t[j]:=by
  have:=z3h (y:=y') h2
  rw[List.getElem?_eq_getElem (by omega)]at this
  exact Option.some.inj this
 rw[g1,g2,zcd (hs.2 _ (List.getElem_mem h1)) (ht.2 _ (List.getElem_mem h2))]
 have:=z3w (hs.2 _ (List.getElem_mem h1))
 exact⟨λh=>h.1,λh=>⟨h,λh9=>absurd (show kdK s[j]=9 from h9) (by omega)⟩⟩
def z4r{y y':SV} {s t:List Nat} (hs:okL s) (ht:okL t):z1d (ofS y s) (ofS y' t) (0,0)↔t.length<=s.length:=by
 have n1:=z0e y s
 have n2:=z0e y' t
 have h6:=ht.1
 have:=z1r (S:=ofS y s) (T:=ofS y' t) (i:=0) (j:=0) (by omega) (by omega)
 rw[show(((0:Nat):Int),((0:Nat):Int))=((0:Int),(0:Int))from rfl]at this
 rw[this,z3g (by omega) (by omega)]
 have hm:mtB ((ofS y s)[0]'(by omega)) ((ofS y' t)[0]'(by omega))=true:=by
  show mtB (ofR y s) (ofR y' t)=true
  unfold mtB
  rw[if_neg (by show¬(9:Int)≠9;decide),if_neg (by show¬(9:Int)=14;decide),if_neg (by show¬(9:Int)=11;decide),if_pos (by show(9:Int)=9\/(9:Int)=10;decide)]
  show decide (shB (mkS [82])=shB (mkS [82]))=true
  simp
 constructor
 ·rintro⟨_,h⟩
  have h:=h rfl
  refine Classical.byContradiction λhc=> ?_
  have hmem:ofF s.length∈((ofS y' t)[0]'(by omega)).fs:=by
   show ofF s.length∈(List.range t.length).map ofF
   exact List.mem_map_of_mem (List.mem_range.2 (by omega))
  rcases h _ hmem with h|h
  ·have h:0<=ixN (ofF s.length).nm (ofR y s).fs 0:=h
   rw[z7s hs.1 (by omega),if_neg (by omega)]at h
   omega
  ·cases h
 ·intro hle
  refine⟨hm,λ_ f hf=> ?_⟩
  obtain⟨j,hj,rfl⟩:=z1q (y:=y') (s:=t) hf
  left
  show 0<=ixN (ofF j).nm (ofR y s).fs 0
  rw[z7s hs.1 (by omega),if_pos (by omega)];omega
def z34{y y':SV} {s t:List Nat} (hs:okL s) (ht:okL t) {bs:List Bool} {l:List Int} (h1:bs.length=(ofS y s).length) (h2:rkE (ofS y s) l) (h3:hasB l bs (ofS y s).length) {i:Nat} (hi:i=min s.length t.length):(∀q,rcQ (ofS y s) (ofS y' t) bs (0,0) q->z1d (ofS y s) (ofS y' t) q)↔z0i s t i=true:=by
  have n1:=z0e y s
  have inh:=λ{k:Nat} (hk:k<(ofS y s).length)=>z4j h1 h3 (z7l hs h2) hk
  have root:rcQ (ofS y s) (ofS y' t) bs (0,0) (0,0):= .root (inh (k:=0) (by omega))
  have reach:∀q,rcQ (ofS y s) (ofS y' t) bs (0,0) q->q=(0,0)\/∃j:Nat,j<s.length/\j<t.length/\q=((j:Int)+1,(j:Int)+1):=λq hq=>by
    induction hq with
    |root _=>exact .inl rfl
    | step _ hm _ ih=>
      rcases ih with rfl|⟨j,g1,g2,rfl⟩
      · exact .inr ((z3l hs ht).1 hm)
      · rw[z6d hs g1 g2]at hm;cases hm
  have leaf:∀j:Nat,j<s.length->j<t.length->rcQ (ofS y s) (ofS y' t) bs (0,0) ((j:Int)+1,(j:Int)+1):=λj g1 g2=>by
    refine .step root ((z3l hs ht).2 ⟨j,g1,g2,rfl⟩) ?_
    have:=inh (k:=j+1) (by omega)
    rw[show((j:Int)+1)=((j+1:Nat):Int)by omega];exact this
  have getD_eq:∀(r:List Nat) (j:Nat) (h:j<r.length),r.getD j 0=r[j]:=λr j h=>by rw[List.getD_eq_getElem?_getD,List.getElem?_eq_getElem h];rfl
  unfold z0i
  rw[Bool.and_eq_true,decide_eq_true_eq,List.all_eq_true]
  constructor
  · intro h
    refine⟨(z4r hs ht).1 (h _ root),λj hj=> ?_⟩
    have hj:=List.mem_range.1 hj
    have g1:j<s.length:=by omega
    have g2:j<t.length:=by omega
    rw[getD_eq s j g1,getD_eq t j g2]
    exact(z4q hs ht g1 g2).1 (h _ (leaf j g1 g2))
  · rintro⟨h,ha⟩ q hq
    rcases reach q hq with rfl|⟨j,g1,g2,rfl⟩
    · exact(z4r hs ht).2 h
    · have:=ha j (List.mem_range.2 (by omega))
      rw[getD_eq s j g1,getD_eq t j g2]at this
      exact(z4q hs ht g1 g2).2 this
end
def z6c{α:Type} {cells:α->List Value} {p:Pub} {b s:Nat} {a:α} (h:q3q p ⟨b,s,none⟩ (cells a)):slP cells (some ⟨b,s+0,none⟩,1,1) [a] p:=
 ⟨rfl,Nat.le_refl _, .inr ⟨⟨b,s,none⟩,rfl,rfl,by show q3q p _ (cells a++[]);rw[List.append_nil];exact h⟩⟩
def z0h{p:Pub} {b s:Nat} {k:Int} (h:q3q p ⟨b,s,none⟩ (kT k).cells):z03 [kT k] (some ⟨b,s+0,none⟩,1,1) p:=
 ⟨z6c h,λe he=>by
  rw[List.mem_singleton.1 he]
  exact⟨z07,z07,z07,z07,λf hf=>by cases hf⟩⟩
def z4s{k m:Int} (k1:1<=k) (k2:k<=8) (m1:1<=m) (m2:m<=8) {b:Bool} (h:∃bs l,bs.length=[kT k].length/\rkE [kT k] l/\hasB l bs [kT k].length/\(b=true↔∀q,rcQ [kT k] [kT m] bs (0,0) q->z1d [kT k] [kT m] q)):b=mtB (kT k) (kT m):=by
 obtain⟨bs,l,h1,h2,h3,h4⟩:=h
 have hi:=z4j h1 h3 (z7m k1 k2 h2) (t:=0) (by show 0<1;decide)
 have ok:z1d [kT k] [kT m] (0,0)↔mtB (kT k) (kT m)=true:=by
  have:=z1r (S:=[kT k]) (T:=[kT m]) (i:=0) (j:=0) (by show 0<1;decide) (by show 0<1;decide)
  rw[show(((0:Nat):Int),((0:Nat):Int))=((0:Int),(0:Int))from rfl]at this
  rw[this,z3g (by show 0<1;decide) (by show 0<1;decide)]
  exact⟨λh=>h.1,λh=>⟨h,λh9=>absurd (show k=9 from h9) (by omega)⟩⟩
 have suc:z2g [kT k] [kT m] (0,0)=[]:=by
  unfold z2g
  show(if k=9 then _ else _)=_
  rw[if_neg (by omega)]
 have all:(∀q,rcQ [kT k] [kT m] bs (0,0) q->z1d [kT k] [kT m] q)↔mtB (kT k) (kT m)=true:=by
  rw[←ok]
  refine⟨λh=>h _ (.root hi),λh q hq=> ?_⟩
  have:q=(0,0):=by
   induction hq with
   |root _=>rfl
   |step _ hm _ ih=>rw[ih,suc]at hm;cases hm
  rw[this];exact h
 rw[Bool.eq_iff_iff,h4,all]
def z3p:q5s P 11 z0y:=by
 refine qlb mixed (qef (qij z3f qlr)) (qf6 (qii z33 qlq)) (W:=z3m) Try.func11 (by kernel_rfl) (by decide) (by decide) (λs=>by kernel_rfl) λ(u:Unit)=>(z3o u).mpr ?_
 intro _
 simp only[sbS,Int.toNat_natCast,exists_const]
 rintro b s _ _ b1 s1 _ ⟨p0,q1,q2⟩
 have f3:=z4h (k:=3) (by decide) (by decide)
 have f4:=z4h (k:=4) (by decide) (by decide)
 have m34:mtS [kT 3] [kT 4] 0 0=true:=by decide
 have m43:mtS [kT 4] [kT 3] 0 0=false:=by decide
 refine⟨([kT 3],(some ⟨b,s+0,none⟩,1,1),[kT 4],(some ⟨b1,s1+0,none⟩,1,1),0,0),rfl,rfl,rfl,rfl,rfl,rfl,rfl,rfl,⟨f3.1,f4.1⟩,λq hq=>⟨z0h hq.1,z0h hq.2⟩,λ_=> ?_,λh=>absurd (m34.symm.trans h) (by decide)⟩
 refine⟨([kT 4],(some ⟨b1,s1+0,none⟩,1,1),[kT 3],(some ⟨b,s+0,none⟩,1,1),0,0),rfl,rfl,rfl,rfl,rfl,rfl,rfl,rfl,⟨f4.1,f3.1⟩,λq hq=>⟨z0h hq.2,z0h hq.1⟩,λ_=> ?_,λh=>absurd (m43.symm.trans h) (by decide)⟩
 refine⟨([kT 3],(some ⟨b,s+0,none⟩,1,1),[kT 4],(some ⟨b1,s1+0,none⟩,1,1),0,0),rfl,rfl,rfl,rfl,rfl,rfl,rfl,rfl,⟨f3,f4,rfl,rfl⟩,λq hq=>⟨z0h hq.1,z0h hq.2⟩,λv hv=> ?_⟩
 have hv:=z4s (k:=3) (m:=4) (by decide) (by decide) (by decide) (by decide) hv
 have e34:mtB (kT 3) (kT 4)=true:=by decide
 have e43:mtB (kT 4) (kT 3)=false:=by decide
 refine⟨λ_=>⟨([kT 4],(some ⟨b1,s1+0,none⟩,1,1),[kT 3],(some ⟨b,s+0,none⟩,1,1),0,0),rfl,rfl,rfl,rfl,rfl,rfl,rfl,rfl,⟨f4,f3,rfl,rfl⟩,λq hq=>⟨z0h hq.2,z0h hq.1⟩,λv2 hv2=> ?_⟩,λh=>absurd ((hv.trans e34).symm.trans h) (by decide)⟩
 have hv2:=z4s (k:=4) (m:=3) (by decide) (by decide) (by decide) (by decide) hv2
 rw[hv2,e43];rfl
section
variable {l:List Nat}
def z47{j:Nat} (h:j<l.length) (h2:l[j]<256):bat (mkS l) j=l[j]:=by
 have hs:j<(mkS l).size:=by rw[q0k];exact h
 rw[za0 hs]
 have:(mkS l)[j]=UInt8.ofNat l[j]:=by
  show(⟨l.map UInt8.ofNat⟩:Array UInt8)[j]'(by simpa using h)=_
  simp
 rw[this]
 simp[UInt8.toNat_ofNat',Nat.mod_eq_of_lt h2]
def z38(b:Int):kdN b∈kdL:=by
 unfold kdN
 have h:(b % 8).toNat<8:=by omega
 generalize (b % 8).toNat=k at h
 have:k=0\/k=1\/k=2\/k=3\/k=4\/k=5\/k=6\/k=7:=by omega
 rcases this with rfl|rfl|rfl|rfl|rfl|rfl|rfl|rfl<;>decide
def za6{b:Nat} (h:b∈kdL):b<256:=by
 unfold kdL at h
 simp only[List.mem_cons,List.not_mem_nil,or_false]at h
 omega
def z6f(L:List Int):(txK L).size=L.length:=by unfold txK;rw[q0k,List.length_map]
variable {L:List Int}
def z55{j:Nat} (h:j<L.length):bat (txK L) j=kdN (L.getD j 0):=by
 have e:L.getD j 0=L[j]:=by rw[List.getD_eq_getElem?_getD,List.getElem?_eq_getElem h];rfl
 unfold txK
 rw[z47 (by simpa using h) (by rw[List.getElem_map];exact za6 (z38 _)),List.getElem_map,e]
variable {i:Nat}
def z56(h:i<L.length) (h0:0<=L[i]) (h8:L[i]<256):(0<=Int.tmod L[i] 8/\Int.tmod L[i] 8<=IntKind.wrap .u8 (Int.tmod L[i] 8+1)/\IntKind.wrap .u8 (Int.tmod L[i] 8+1)<=((mkS [105,108,102,100,115,98,110,111]).size:Nat))/\txK (L.take (i+1))=txK (L.take i)++(mkS [105,108,102,100,115,98,110,111]).extract (Int.tmod L[i] 8).toNat (IntKind.wrap .u8 (Int.tmod L[i] 8+1)).toNat/\((mkS [105,108,102,100,115,98,110,111]).extract (Int.tmod L[i] 8).toNat (IntKind.wrap .u8 (Int.tmod L[i] 8+1)).toNat).size=1:=by
 have ht:L.take (i+1)=L.take i++[L[i]]:=by rw[List.take_succ_eq_append_getElem h]
 have hm:Int.tmod L[i] 8=L[i] % 8:=Int.tmod_eq_emod_of_nonneg h0
 have hk:kdN L[i]=kdL.getD (L[i] % 8).toNat 0:=rfl
 unfold txK
 rw[ht,List.map_append,List.map_singleton,←qah,hk,hm,q56]
 generalize hb:L[i] % 8=b
 have:b=0\/b=1\/b=2\/b=3\/b=4\/b=5\/b=6\/b=7:=by omega
 rcases this with rfl|rfl|rfl|rfl|rfl|rfl|rfl|rfl<;>exact⟨by decide,rfl,rfl⟩
def rd_val{ms:List MapEntry} (hms:ms=[⟨.int .u8 105, .string (mkS [105,108,102,100]),0⟩,⟨.int .u8 108, .string (mkS [108,102,100]),0+1⟩,⟨.int .u8 102, .string (mkS [102,100]),0+1+1⟩,⟨.int .u8 100, .string (mkS [100]),0+1+1+1⟩,⟨.int .u8 115, .string (mkS [115,98]),0+1+1+1+1⟩,⟨.int .u8 98, .string (mkS [98]),0+1+1+1+1+1⟩,⟨.int .u8 110, .string (mkS [110]),0+1+1+1+1+1+1⟩,⟨.int .u8 111, .string (mkS [111]),0+1+1+1+1+1+1+1⟩]) {b:Nat} (h:b∈kdL) (z:Value):qkk (.int .u8 (b:Nat)) ms z= .string (mkS (rdT b)):=by
 subst hms
 unfold kdL at h
 simp only[List.mem_cons,List.not_mem_nil,or_false]at h
 rcases h with rfl|rfl|rfl|rfl|rfl|rfl|rfl|rfl<;>rfl
def zai{b c:Nat} (h:b∈kdL) (hc:c∈rdT b):c<256:=by
 have:∀b∈kdL,∀c∈rdT b,c<256:=by decide
 exact this b h c hc
def z89{s t:List Nat}:z0i s t (i+1)=(z0i s t i&&rdB (s.getD i 0) (t.getD i 0)):=by
 unfold z0i
 rw[List.range_succ,List.all_append,List.all_cons,List.all_nil,Bool.and_true,Bool.and_assoc]
def z5j{k n:Nat} (h:k<l.length):((l.take (k+1)).any λc=>decide (c=n))=(((l.take k).any λc=>decide (c=n))||decide (l[k]=n)):=by
 rw[List.take_succ_eq_append_getElem h,List.any_append,List.any_cons,List.any_nil,Bool.or_false]
def getD_map(h:i<L.length):(L.map kdN).getD i 0=kdN (L.getD i 0):=by
 rw[List.getD_eq_getElem?_getD,List.getElem?_map,List.getD_eq_getElem?_getD,List.getElem?_eq_getElem h];rfl
def z1o{y:SV} {s:List Nat}:isB (ofS y s) 0=true:=by
 unfold isB
 rw[z0e,decide_eq_true (by omega),decide_eq_true (by omega)];rfl
def z5x(hOf:q39 P 12 z49):q5s P 4 z6z:=by
 refine qlb mixed (qef (qij z3p qlr)) (qf6 (qii hOf (qii z33 qlq))) (W:=z77) Try.func4 (by kernel_rfl) (by decide) (by decide) (λs=>by kernel_rfl) λ⟨(x:SV),L,(y:SV),M⟩=>(z5w x L y M).mpr ?_
 rintro⟨⟨hL,hL8⟩,hM,hM8⟩ ⟨p0,_,hx,hy⟩
 have hxl:x.2.1=L.length:=hx.1
 have hyl:y.2.1=M.length:=hy.1
 simp only[hxl,hyl,z6f]
 simp only[sbS,Int.toNat_natCast,exists_const]
 have X:=λ(p:Pub) (h:qim p x.1 L.length x.2.2 (z00 byV L))=>(⟨hxl,by rw[hxl];exact h⟩:slP byV x L p)
 have Y:=λ(p:Pub) (h:qim p y.1 M.length y.2.2 (z00 byV M))=>(⟨hyl,by rw[hyl];exact h⟩:slP byV y M p)
 refineλ_ h6 g6=>⟨⟨0,rfl,rfl,Nat.zero_le _⟩,λi hi=>⟨λhlt=> ?_,λhge=> ?_⟩⟩
 ·have hi1:i<L.length:=by omega
  have A:=λ(p:Pub) (h:qim p x.1 L.length x.2.2 (z00 byV L))=>z06 (f:=byV) (e:=1) (λb=>rfl) (by decide) (X p h) hi1
  have hb:=hL8 _ (List.getElem_mem hi1)
  obtain⟨t1,t2,t3⟩:=z56 hi1 hb.1 hb.2
  have bnd: -9223372036854775808<=(i:Int)+1/\(i:Int)+1<=9223372036854775807:=by omega
  refine⟨⟨by omega,by omega⟩,(A p0 (by rw[←hxl];exact hx.2)).1,L[i],λq hq=>(A q hq.1).2,by decide,⟨by omega,by omega⟩,(A p0 (by rw[←hxl];exact hx.2)).1,L[i],λq hq=>(A q hq.1).2,by decide,t1,?_,bnd,i+1,by omega,t2,by omega,by omega⟩
  rw[t3,List.length_take];omega
 obtain rfl:i=L.length:=by omega
 rw[List.take_length]
 refine⟨⟨0,rfl,rfl,Nat.zero_le _⟩,λi hi2=>⟨λhlt=> ?_,λhge2=> ?_⟩⟩
 ·have hi1:i<M.length:=by omega
  have A:=λ(p:Pub) (h:qim p y.1 M.length y.2.2 (z00 byV M))=>z06 (f:=byV) (e:=1) (λb=>rfl) (by decide) (Y p h) hi1
  have hb:=hM8 _ (List.getElem_mem hi1)
  obtain⟨t1,t2,t3⟩:=z56 hi1 hb.1 hb.2
  have bnd: -9223372036854775808<=(i:Int)+1/\(i:Int)+1<=9223372036854775807:=by omega
  refine⟨⟨by omega,by omega⟩,(A p0 (by rw[←hyl];exact hy.2)).1,M[i],λq hq=>(A q hq.2).2,by decide,⟨by omega,by omega⟩,(A p0 (by rw[←hyl];exact hy.2)).1,M[i],λq hq=>(A q hq.2).2,by decide,t1,?_,bnd,i+1,t2,by omega,by omega,by omega⟩
  rw[t3,List.length_take];omega
 obtain rfl:i=M.length:=by omega
 rw[List.take_length]
 have ll:(L.map kdN).length=L.length:=List.length_map _
 have lm:(M.map kdN).length=M.length:=List.length_map _
 have okl:okL (L.map kdN):=⟨by omega,λb hb=>by obtain⟨a,_,rfl⟩:=List.mem_map.1 hb;exact z38 a⟩
 have okm:okL (M.map kdN):=⟨by omega,λb hb=>by obtain⟨a,_,rfl⟩:=List.mem_map.1 hb;exact z38 a⟩
 refine⟨⟨0,?_,rfl,Nat.zero_le _,Nat.zero_le _⟩,?_⟩
 ·unfold z0i
  rw[ll,lm]
  simp
 rintro i ⟨hi,hi2⟩
 have bnd: -9223372036854775808<=(i:Int)+1/\(i:Int)+1<=9223372036854775807:=by omega
 refine⟨λhlt=>⟨λhlt2=> ?_,λhge3=> ?_⟩,λhge3=> ?_⟩
 ·have hi1:i<L.length:=by omega
  have hm1:i<M.length:=by omega
  have hK:=z38 (L.getD i 0)
  have bL:=z55 hi1
  have bM:=z55 hm1
  have gL:=getD_map hi1
  have gM:=getD_map hm1
  have step:=z89 (s:=L.map kdN) (t:=M.map kdN) (i:=i)
  rw[gL,gM]at step
  simp only[bL,bM]
  have sz:(mkS (rdT (kdN (L.getD i 0)))).size=(rdT (kdN (L.getD i 0))).length:=q0k _
  have hi3:i+1<=L.length/\i+1<=M.length:=by omega
  have hdec:L.length- (i+1)<L.length- i:=by omega
  refine⟨⟨(0,false),rfl,rfl,Nat.zero_le _,rfl⟩,?_⟩
  rintro⟨k,b⟩ ⟨hk,hb⟩
  have hk:k<=(rdT (kdN (L.getD i 0))).length:=hk
  have hb:b=((rdT (kdN (L.getD i 0))).take k).any λc=>decide (c=(kdN (M.getD i 0))):=hb
  have keys:∀e∈[(⟨.int .u8 105, .string (mkS [105,108,102,100]),0⟩:MapEntry),⟨.int .u8 108, .string (mkS [108,102,100]),0+1⟩,⟨.int .u8 102, .string (mkS [102,100]),0+1+1⟩,⟨.int .u8 100, .string (mkS [100]),0+1+1+1⟩,⟨.int .u8 115, .string (mkS [115,98]),0+1+1+1+1⟩,⟨.int .u8 98, .string (mkS [98]),0+1+1+1+1+1⟩,⟨.int .u8 110, .string (mkS [110]),0+1+1+1+1+1+1⟩,⟨.int .u8 111, .string (mkS [111]),0+1+1+1+1+1+1+1⟩],kOK (.int .u8) e.key:=λe he=>by
   simp only[List.mem_cons,List.not_mem_nil,or_false]at he
   rcases he with rfl|rfl|rfl|rfl|rfl|rfl|rfl|rfl<;>rfl
  have bndk:k<(rdT (kdN (L.getD i 0))).length-> -9223372036854775808<=(k:Int)+1/\(k:Int)+1<=9223372036854775807:=λh=>by
   have:(rdT (kdN (L.getD i 0))).length<=4:=by
    have:∀b∈kdL,(rdT b).length<=4:=by decide
    exact this (kdN (L.getD i 0)) hK
   omega
  refine⟨⟨by omega,by omega⟩,rfl,keys,mkS (rdT (kdN (L.getD i 0))),rd_val rfl hK _,?_,?_⟩
  ·rw[sz]
   intro hlt3
   have hk1:k<(rdT (kdN (L.getD i 0))).length:=by have:(k:Int)<((rdT (kdN (L.getD i 0))).length:Nat):=hlt3;omega
   have hAs:=z5j (n:=(kdN (M.getD i 0))) hk1
   rw[←hb]at hAs
   have hdk:(rdT (kdN (L.getD i 0))).length- (k+1)<(rdT (kdN (L.getD i 0))).length- k:=by omega
   refine⟨λhb1=>⟨λ_=>⟨bndk hk1,(k+1,true),rfl,by show((k+1:Nat):Int)=(k:Int)+1;omega,⟨hk1,?_⟩,hdk⟩,λhb2=>absurd (hb1.symm.trans hb2) (by decide)⟩,λhb1=>⟨⟨by omega,by omega⟩,rfl,keys,mkS (rdT (kdN (L.getD i 0))),rd_val rfl hK _,⟨by show(0:Int)<=(k:Nat);omega,by rw[sz];exact hlt3⟩,⟨by omega,by omega⟩,λhb2=>absurd (hb1.symm.trans hb2) (by decide),λ_=>⟨bndk hk1,(k+1,decide ((rdT (kdN (L.getD i 0)))[k]=(kdN (M.getD i 0)))),?_,by show((k+1:Nat):Int)=(k:Int)+1;omega,⟨hk1,?_⟩,hdk⟩⟩⟩
   ·have hb1:b=true:=hb1
    show true=_
    rw[hAs,hb1];rfl
   ·have hb1:b=false:=hb1
    show decide ((rdT (kdN (L.getD i 0)))[k]=(kdN (M.getD i 0)))=decide (((bat (mkS (rdT (kdN (L.getD i 0)))) k:Nat):Int)=((kdN (M.getD i 0)):Nat))
    rw[z47 hk1 (zai hK (List.getElem_mem hk1))]
    rw[Bool.eq_iff_iff,decide_eq_true_iff,decide_eq_true_iff]
    omega
   ·have hb1:b=false:=hb1
    show decide ((rdT (kdN (L.getD i 0)))[k]=(kdN (M.getD i 0)))=_
    rw[hAs,hb1,Bool.false_or]
  ·rw[sz]
   intro hge4
   have hk1:k=(rdT (kdN (L.getD i 0))).length:=by have:¬(k:Int)<((rdT (kdN (L.getD i 0))).length:Nat):=hge4;omega
   rw[hk1,List.take_length]at hb
   refine⟨λhw=>⟨bnd,i+1,?_,by omega,hi3,hdec⟩,λhw=>⟨bnd,i+1,?_,by omega,hi3,hdec⟩⟩
   ·rw[step,hw,Bool.true_and]
    exact hb.symm
   ·rw[step,hw,Bool.false_and]
 ·have hmin:i=M.length:=by omega
  refine⟨L.map kdN,rfl,okl,λ⟨y1,x1⟩ _ _=>⟨M.map kdN,rfl,okm,λ⟨y2,x2⟩ _ _=>⟨(ofS y1 (L.map kdN),x1,ofS y2 (M.map kdN),x2,0,0),rfl,rfl,rfl,rfl,rfl,rfl,rfl,rfl,⟨z1l okl,z1l okm,z1o,z1o⟩,λq hq=>⟨hq.1.2,hq.2⟩,?_⟩⟩⟩
  rintro v ⟨bs,l,g1,g2,g3,g4⟩
  have e:v=z0i (L.map kdN) (M.map kdN) i:=by
   rw[Bool.eq_iff_iff,g4]
   exact z34 okl okm g1 g2 g3 (by rw[ll,lm];omega)
  rw[e]
  simp
 ·have hmin:i=L.length:=by omega
  refine⟨L.map kdN,rfl,okl,λ⟨y1,x1⟩ _ _=>⟨M.map kdN,rfl,okm,λ⟨y2,x2⟩ _ _=>⟨(ofS y1 (L.map kdN),x1,ofS y2 (M.map kdN),x2,0,0),rfl,rfl,rfl,rfl,rfl,rfl,rfl,rfl,⟨z1l okl,z1l okm,z1o,z1o⟩,λq hq=>⟨hq.1.2,hq.2⟩,?_⟩⟩⟩
  rintro v ⟨bs,l,g1,g2,g3,g4⟩
  have e:v=z0i (L.map kdN) (M.map kdN) i:=by
   rw[Bool.eq_iff_iff,g4]
   exact z34 okl okm g1 g2 g3 (by rw[ll,lm];omega)
  rw[e]
  simp
end
def zam:z49.σ->WayF:=λs=>{
 unr:=7
 pub:=λi k=>match i,k with
  |8,1=>[47]
  |_,_=>[]}
section
variable (x0:List Nat) (x1 x2 x3 x4 x5:Int) (x6:Nat) (x7:Nat->Option Obj) (x8:Option Addr) (x9:Nat) (x10:Option Addr) (x11:Int) (x12:(Option Addr×Nat×Nat)×Option Addr×Nat×Nat) (x13:Prop)
 abbrev z0u:=(↑(size (mkS x0)):Int)
 abbrev z02:=int u8 x1
 abbrev z01:=int i64 x1
 abbrev z21:=(0:Nat)+1+1
 abbrev z20:=(0:Nat)+1+1+1
 abbrev z1z:=(0:Nat)+1+1+1+1
 abbrev z1y:=(0:Nat)+1+1+1+1+1
 abbrev z1x:=(0:Nat)+1+1+1+1+1+1
 abbrev z1w:=(0:Nat)+1+1+1+1+1+1+1
 def z7a:=(∀(i0:MapEntry),i0∈[MapEntry.mk (z02 105) (z01 3) 0,MapEntry.mk (z02 108) (z01 4) ((0:Nat)+1),MapEntry.mk (z02 102) (z01 5) (z21),MapEntry.mk (z02 100) (z01 6) (z20),MapEntry.mk (z02 115) (z01 8) (z1z),MapEntry.mk (z02 98) (z01 7) (z1y),MapEntry.mk (z02 110) (z01 1) (z1x),MapEntry.mk (z02 111) (z01 2) (z1w)]->kOK (TypeDesc.int u8) (MapEntry.key i0))
 abbrev z0b:=Int.add 0 1
 abbrev z6y:=[]++[string (mkS [97]),slice noA 0 0,int i64 (z0b),bool false,int i64 0,int i64 0,string (mkS []),slice noA 0 0,slice noA 0 0]
 abbrev z9o:=int u8 (↑(bat (mkS x0) (toNat (Int.add (z0b) 1))):Int)
 abbrev z6x:=[]++[string (mkS [97]),slice noA 0 0,int i64 (z0b),bool false,int i64 0,int i64 0,string (mkS []),slice noA 0 0,slice noA 0 0]++[string (mkS [98]),slice noA 0 0,int i64 (Int.add (z0b) 1),bool false,int i64 0,int i64 0,string (mkS []),slice noA 0 0,slice noA 0 0]
 abbrev z9m:=Int.add (Int.add (z0b) 1) (1:Int)<(z0u x0)
 abbrev z0k:=Int.add (Int.add (z0b) 1) 1
 abbrev z6w:=[]++[string (mkS [97]),slice noA 0 0,int i64 (z0b),bool false,int i64 0,int i64 0,string (mkS []),slice noA 0 0,slice noA 0 0]++[string (mkS [98]),slice noA 0 0,int i64 (Int.add (z0b) 1),bool false,int i64 0,int i64 0,string (mkS []),slice noA 0 0,slice noA 0 0]++[string (mkS [99]),slice noA 0 0,int i64 (z0k),bool false,int i64 0,int i64 0,string (mkS []),slice noA 0 0,slice noA 0 0]
 abbrev z9p:=int u8 (↑(bat (mkS x0) (toNat (Int.add (z0k) 1))):Int)
 abbrev z6v:=[]++[string (mkS [97]),slice noA 0 0,int i64 (z0b),bool false,int i64 0,int i64 0,string (mkS []),slice noA 0 0,slice noA 0 0]++[string (mkS [98]),slice noA 0 0,int i64 (Int.add (z0b) 1),bool false,int i64 0,int i64 0,string (mkS []),slice noA 0 0,slice noA 0 0]++[string (mkS [99]),slice noA 0 0,int i64 (z0k),bool false,int i64 0,int i64 0,string (mkS []),slice noA 0 0,slice noA 0 0]++[string (mkS [100]),slice noA 0 0,int i64 (Int.add (z0k) 1),bool false,int i64 0,int i64 0,string (mkS []),slice noA 0 0,slice noA 0 0]
 abbrev z9n:=Int.add (Int.add (z0k) 1) (1:Int)<(z0u x0)
 abbrev z1h:=Int.add (Int.add (z0k) 1) 1
 abbrev zc4:=[]++[string (mkS [97]),slice noA 0 0,int i64 (z0b),bool false,int i64 0,int i64 0,string (mkS []),slice noA 0 0,slice noA 0 0]++[string (mkS [98]),slice noA 0 0,int i64 (Int.add (z0b) 1),bool false,int i64 0,int i64 0,string (mkS []),slice noA 0 0,slice noA 0 0]++[string (mkS [99]),slice noA 0 0,int i64 (z0k),bool false,int i64 0,int i64 0,string (mkS []),slice noA 0 0,slice noA 0 0]++[string (mkS [100]),slice noA 0 0,int i64 (Int.add (z0k) 1),bool false,int i64 0,int i64 0,string (mkS []),slice noA 0 0,slice noA 0 0]++[string (mkS [101]),slice noA 0 0,int i64 (z1h),bool false,int i64 0,int i64 0,string (mkS []),slice noA 0 0,slice noA 0 0]
 abbrev z9q:=int u8 (↑(bat (mkS x0) (toNat (Int.add (z1h) 1))):Int)
 abbrev zc3:=[]++[string (mkS [97]),slice noA 0 0,int i64 (z0b),bool false,int i64 0,int i64 0,string (mkS []),slice noA 0 0,slice noA 0 0]++[string (mkS [98]),slice noA 0 0,int i64 (Int.add (z0b) 1),bool false,int i64 0,int i64 0,string (mkS []),slice noA 0 0,slice noA 0 0]++[string (mkS [99]),slice noA 0 0,int i64 (z0k),bool false,int i64 0,int i64 0,string (mkS []),slice noA 0 0,slice noA 0 0]++[string (mkS [100]),slice noA 0 0,int i64 (Int.add (z0k) 1),bool false,int i64 0,int i64 0,string (mkS []),slice noA 0 0,slice noA 0 0]++[string (mkS [101]),slice noA 0 0,int i64 (z1h),bool false,int i64 0,int i64 0,string (mkS []),slice noA 0 0,slice noA 0 0]++[string (mkS [102]),slice noA 0 0,int i64 (Int.add (z1h) 1),bool false,int i64 0,int i64 0,string (mkS []),slice noA 0 0,slice noA 0 0]
 def zbi:=(0<=Int.add (z1h) 1/\Int.add (z1h) (1:Int)<(z0u x0))/\kOK (TypeDesc.int u8) (z9q x0)/\z7a/\∃(i0:Int),qkk (z9q x0) [MapEntry.mk (z02 105) (z01 3) 0,MapEntry.mk (z02 108) (z01 4) ((0:Nat)+1),MapEntry.mk (z02 102) (z01 5) (z21),MapEntry.mk (z02 100) (z01 6) (z20),MapEntry.mk (z02 115) (z01 8) (z1z),MapEntry.mk (z02 98) (z01 7) (z1y),MapEntry.mk (z02 110) (z01 1) (z1x),MapEntry.mk (z02 111) (z01 2) (z1w)] (z01 0)=int i64 i0/\((0:Int)<=0/\0<(↑(nat_lit 7+1):Int))/\length (zc3)=nat_lit 6*9/\(nat_lit 6+nat_lit 1)*136<=140737488355328/\((0:Int)<=0/\0<(↑(nat_lit 8):Int))/\AV.ssl (nat_lit 54) (nat_lit 0) (nat_lit 8) (nat_lit 10) (nat_lit 55)=AV.ssl (nat_lit 54) (nat_lit 0) (nat_lit 8) (nat_lit 10) (nat_lit 55)/\False
 def z9g:=(True/\nat_lit 6<=x6/\qk0 x7 x8 (take (nat_lit 6*nat_lit 9) (zc3)))/\nat_lit 7<=x9/\qk0 x7 x10 (take (nat_lit 7*nat_lit 10) [int i64 9,string (mkS [82]),slice noA 0 0,int i64 0,slice noA 0 0,bool false,string (mkS []),int i64 0,slice x8 (nat_lit 6) x6,slice noA 0 0,int i64 x1,string (mkS []),slice noA 0 0,int i64 0,slice noA 0 0,bool false,string (mkS []),int i64 0,slice noA 0 0,slice noA 0 0,int i64 x2,string (mkS []),slice noA 0 0,int i64 0,slice noA 0 0,bool false,string (mkS []),int i64 0,slice noA 0 0,slice noA 0 0,int i64 x3,string (mkS []),slice noA 0 0,int i64 0,slice noA 0 0,bool false,string (mkS []),int i64 0,slice noA 0 0,slice noA 0 0,int i64 x4,string (mkS []),slice noA 0 0,int i64 0,slice noA 0 0,bool false,string (mkS []),int i64 0,slice noA 0 0,slice noA 0 0,int i64 x5,string (mkS []),slice noA 0 0,int i64 0,slice noA 0 0,bool false,string (mkS []),int i64 0,slice noA 0 0,slice noA 0 0,int i64 x11,string (mkS []),slice noA 0 0,int i64 0,slice noA 0 0,bool false,string (mkS []),int i64 0,slice noA 0 0,slice noA 0 0])
 def z2v:=x12.2.2.2=x6/\True/\x13
 def zg7:=(0<=Int.add (Int.add (z0k) 1) 1/\z9n x0)/\kOK (TypeDesc.int u8) (int u8 (↑(bat (mkS x0) (toNat (z1h))):Int))/\z7a/\∃(i1:Int),qkk (int u8 (↑(bat (mkS x0) (toNat (z1h))):Int)) [MapEntry.mk (z02 105) (z01 3) 0,MapEntry.mk (z02 108) (z01 4) ((0:Nat)+1),MapEntry.mk (z02 102) (z01 5) (z21),MapEntry.mk (z02 100) (z01 6) (z20),MapEntry.mk (z02 115) (z01 8) (z1z),MapEntry.mk (z02 98) (z01 7) (z1y),MapEntry.mk (z02 110) (z01 1) (z1x),MapEntry.mk (z02 111) (z01 2) (z1w)] (z01 0)=int i64 i1/\((0:Int)<=0/\0<(↑(nat_lit 6+1):Int))/\length (zc4)=nat_lit 5*9/\(nat_lit 5+nat_lit 1)*136<=140737488355328/\((0:Int)<=0/\0<(↑(nat_lit 7):Int))/\AV.ssl (nat_lit 46) (nat_lit 0) (nat_lit 7) (nat_lit 10) (nat_lit 47)=AV.ssl (nat_lit 46) (nat_lit 0) (nat_lit 7) (nat_lit 10) (nat_lit 47)/\Ji (Int.add (z1h) (1:Int)<(z0u x0)) (zbi x0) (∀(i4 i5 i6:Nat) (i7:Option Addr) (i8 i9:Nat),(∃i10,True/\nat_lit 6<=i9/\qk0 i10 i7 (take (nat_lit 6*nat_lit 9) (zc3)))->∀(i11 i12 i13:Nat) (i14:Option Addr) (i15 i16:Nat),(∃i17,z9g x1 x2 x3 x4 x5 i9 i17 i7 i16 i14 i1)->∃(i18:(Option Addr×Nat×Nat)×Option Addr×Nat×Nat),i18.2.1=i14/\i18.2.2.1=nat_lit 7/\z2v i16 i18 ((∀i19,z9g x1 x2 x3 x4 x5 i9 i19 i7 i16 i14 i1->z03 (ofS i18.1 x0) i18.2 i19)/\True))
 def z9h:=(True/\nat_lit 5<=x6/\qk0 x7 x8 (take (nat_lit 5*nat_lit 9) (zc4)))/\nat_lit 6<=x9/\qk0 x7 x10 (take (nat_lit 6*nat_lit 10) [int i64 9,string (mkS [82]),slice noA 0 0,int i64 0,slice noA 0 0,bool false,string (mkS []),int i64 0,slice x8 (nat_lit 5) x6,slice noA 0 0,int i64 x1,string (mkS []),slice noA 0 0,int i64 0,slice noA 0 0,bool false,string (mkS []),int i64 0,slice noA 0 0,slice noA 0 0,int i64 x2,string (mkS []),slice noA 0 0,int i64 0,slice noA 0 0,bool false,string (mkS []),int i64 0,slice noA 0 0,slice noA 0 0,int i64 x3,string (mkS []),slice noA 0 0,int i64 0,slice noA 0 0,bool false,string (mkS []),int i64 0,slice noA 0 0,slice noA 0 0,int i64 x4,string (mkS []),slice noA 0 0,int i64 0,slice noA 0 0,bool false,string (mkS []),int i64 0,slice noA 0 0,slice noA 0 0,int i64 x5,string (mkS []),slice noA 0 0,int i64 0,slice noA 0 0,bool false,string (mkS []),int i64 0,slice noA 0 0,slice noA 0 0])
 def zg6:=(0<=Int.add (z0k) 1/\Int.add (z0k) (1:Int)<(z0u x0))/\kOK (TypeDesc.int u8) (z9p x0)/\z7a/\∃(i1:Int),qkk (z9p x0) [MapEntry.mk (z02 105) (z01 3) 0,MapEntry.mk (z02 108) (z01 4) ((0:Nat)+1),MapEntry.mk (z02 102) (z01 5) (z21),MapEntry.mk (z02 100) (z01 6) (z20),MapEntry.mk (z02 115) (z01 8) (z1z),MapEntry.mk (z02 98) (z01 7) (z1y),MapEntry.mk (z02 110) (z01 1) (z1x),MapEntry.mk (z02 111) (z01 2) (z1w)] (z01 0)=int i64 i1/\((0:Int)<=0/\0<(↑(nat_lit 5+1):Int))/\length (z6v)=nat_lit 4*9/\(nat_lit 4+nat_lit 1)*136<=140737488355328/\((0:Int)<=0/\0<(↑(nat_lit 6):Int))/\AV.ssl (nat_lit 38) (nat_lit 0) (nat_lit 6) (nat_lit 10) (nat_lit 39)=AV.ssl (nat_lit 38) (nat_lit 0) (nat_lit 6) (nat_lit 10) (nat_lit 39)/\Ji (z9n x0) (zg7 x0 x1 x2 x3 x4 i1) (∀(i22 i23 i24:Nat) (i25:Option Addr) (i26 i27:Nat),(∃i28,True/\nat_lit 5<=i27/\qk0 i28 i25 (take (nat_lit 5*nat_lit 9) (zc4)))->∀(i29 i30 i31:Nat) (i32:Option Addr) (i33 i34:Nat),(∃i35,z9h x1 x2 x3 x4 i1 i27 i35 i25 i34 i32)->∃(i36:(Option Addr×Nat×Nat)×Option Addr×Nat×Nat),i36.2.1=i32/\i36.2.2.1=nat_lit 6/\z2v i34 i36 ((∀i37,z9h x1 x2 x3 x4 i1 i27 i37 i25 i34 i32->z03 (ofS i36.1 x0) i36.2 i37)/\True))
 def z9i:=(True/\nat_lit 4<=x6/\qk0 x7 x8 (take (nat_lit 4*nat_lit 9) (z6v)))/\nat_lit 5<=x9/\qk0 x7 x10 (take (nat_lit 5*nat_lit 10) [int i64 9,string (mkS [82]),slice noA 0 0,int i64 0,slice noA 0 0,bool false,string (mkS []),int i64 0,slice x8 (nat_lit 4) x6,slice noA 0 0,int i64 x1,string (mkS []),slice noA 0 0,int i64 0,slice noA 0 0,bool false,string (mkS []),int i64 0,slice noA 0 0,slice noA 0 0,int i64 x2,string (mkS []),slice noA 0 0,int i64 0,slice noA 0 0,bool false,string (mkS []),int i64 0,slice noA 0 0,slice noA 0 0,int i64 x3,string (mkS []),slice noA 0 0,int i64 0,slice noA 0 0,bool false,string (mkS []),int i64 0,slice noA 0 0,slice noA 0 0,int i64 x4,string (mkS []),slice noA 0 0,int i64 0,slice noA 0 0,bool false,string (mkS []),int i64 0,slice noA 0 0,slice noA 0 0])
 def zg5:=(0<=Int.add (Int.add (z0b) 1) 1/\z9m x0)/\kOK (TypeDesc.int u8) (int u8 (↑(bat (mkS x0) (toNat (z0k))):Int))/\z7a/\∃(i1:Int),qkk (int u8 (↑(bat (mkS x0) (toNat (z0k))):Int)) [MapEntry.mk (z02 105) (z01 3) 0,MapEntry.mk (z02 108) (z01 4) ((0:Nat)+1),MapEntry.mk (z02 102) (z01 5) (z21),MapEntry.mk (z02 100) (z01 6) (z20),MapEntry.mk (z02 115) (z01 8) (z1z),MapEntry.mk (z02 98) (z01 7) (z1y),MapEntry.mk (z02 110) (z01 1) (z1x),MapEntry.mk (z02 111) (z01 2) (z1w)] (z01 0)=int i64 i1/\((0:Int)<=0/\0<(↑(nat_lit 4+1):Int))/\length (z6w)=nat_lit 3*9/\(nat_lit 3+nat_lit 1)*136<=140737488355328/\((0:Int)<=0/\0<(↑(nat_lit 5):Int))/\AV.ssl (nat_lit 30) (nat_lit 0) (nat_lit 5) (nat_lit 10) (nat_lit 31)=AV.ssl (nat_lit 30) (nat_lit 0) (nat_lit 5) (nat_lit 10) (nat_lit 31)/\Ji (Int.add (z0k) (1:Int)<(z0u x0)) (zg6 x0 x1 x2 x3 i1) (∀(i40 i41 i42:Nat) (i43:Option Addr) (i44 i45:Nat),(∃i46,True/\nat_lit 4<=i45/\qk0 i46 i43 (take (nat_lit 4*nat_lit 9) (z6v)))->∀(i47 i48 i49:Nat) (i50:Option Addr) (i51 i52:Nat),(∃i53,z9i x1 x2 x3 i1 i45 i53 i43 i52 i50)->∃(i54:(Option Addr×Nat×Nat)×Option Addr×Nat×Nat),i54.2.1=i50/\i54.2.2.1=nat_lit 5/\z2v i52 i54 ((∀i55,z9i x1 x2 x3 i1 i45 i55 i43 i52 i50->z03 (ofS i54.1 x0) i54.2 i55)/\True))
 def z9j:=(True/\nat_lit 3<=x6/\qk0 x7 x8 (take (nat_lit 3*nat_lit 9) (z6w)))/\nat_lit 4<=x9/\qk0 x7 x10 (take (nat_lit 4*nat_lit 10) [int i64 9,string (mkS [82]),slice noA 0 0,int i64 0,slice noA 0 0,bool false,string (mkS []),int i64 0,slice x8 (nat_lit 3) x6,slice noA 0 0,int i64 x1,string (mkS []),slice noA 0 0,int i64 0,slice noA 0 0,bool false,string (mkS []),int i64 0,slice noA 0 0,slice noA 0 0,int i64 x2,string (mkS []),slice noA 0 0,int i64 0,slice noA 0 0,bool false,string (mkS []),int i64 0,slice noA 0 0,slice noA 0 0,int i64 x3,string (mkS []),slice noA 0 0,int i64 0,slice noA 0 0,bool false,string (mkS []),int i64 0,slice noA 0 0,slice noA 0 0])
 def zg4:=(0<=Int.add (z0b) 1/\Int.add (z0b) (1:Int)<(z0u x0))/\kOK (TypeDesc.int u8) (z9o x0)/\z7a/\∃(i1:Int),qkk (z9o x0) [MapEntry.mk (z02 105) (z01 3) 0,MapEntry.mk (z02 108) (z01 4) ((0:Nat)+1),MapEntry.mk (z02 102) (z01 5) (z21),MapEntry.mk (z02 100) (z01 6) (z20),MapEntry.mk (z02 115) (z01 8) (z1z),MapEntry.mk (z02 98) (z01 7) (z1y),MapEntry.mk (z02 110) (z01 1) (z1x),MapEntry.mk (z02 111) (z01 2) (z1w)] (z01 0)=int i64 i1/\((0:Int)<=0/\0<(↑(nat_lit 3+1):Int))/\length (z6x)=nat_lit 2*9/\(nat_lit 2+nat_lit 1)*136<=140737488355328/\((0:Int)<=0/\0<(↑(nat_lit 4):Int))/\AV.ssl (nat_lit 22) (nat_lit 0) (nat_lit 4) (nat_lit 10) (nat_lit 23)=AV.ssl (nat_lit 22) (nat_lit 0) (nat_lit 4) (nat_lit 10) (nat_lit 23)/\Ji (z9m x0) (zg5 x0 x1 x2 i1) (∀(i58 i59 i60:Nat) (i61:Option Addr) (i62 i63:Nat),(∃i64,True/\nat_lit 3<=i63/\qk0 i64 i61 (take (nat_lit 3*nat_lit 9) (z6w)))->∀(i65 i66 i67:Nat) (i68:Option Addr) (i69 i70:Nat),(∃i71,z9j x1 x2 i1 i63 i71 i61 i70 i68)->∃(i72:(Option Addr×Nat×Nat)×Option Addr×Nat×Nat),i72.2.1=i68/\i72.2.2.1=nat_lit 4/\z2v i70 i72 ((∀i73,z9j x1 x2 i1 i63 i73 i61 i70 i68->z03 (ofS i72.1 x0) i72.2 i73)/\True))
 def z9l:=(True/\nat_lit 2<=x6/\qk0 x7 x8 (take (nat_lit 2*nat_lit 9) (z6x)))/\nat_lit 3<=x9/\qk0 x7 x10 (take (nat_lit 3*nat_lit 10) [int i64 9,string (mkS [82]),slice noA 0 0,int i64 0,slice noA 0 0,bool false,string (mkS []),int i64 0,slice x8 (nat_lit 2) x6,slice noA 0 0,int i64 x1,string (mkS []),slice noA 0 0,int i64 0,slice noA 0 0,bool false,string (mkS []),int i64 0,slice noA 0 0,slice noA 0 0,int i64 x2,string (mkS []),slice noA 0 0,int i64 0,slice noA 0 0,bool false,string (mkS []),int i64 0,slice noA 0 0,slice noA 0 0])
 def zg3:=(0<=Int.add 0 1/\Int.add 0 (1:Int)<(z0u x0))/\kOK (TypeDesc.int u8) (int u8 (↑(bat (mkS x0) (toNat (z0b))):Int))/\z7a/\∃(i1:Int),qkk (int u8 (↑(bat (mkS x0) (toNat (z0b))):Int)) [MapEntry.mk (z02 105) (z01 3) 0,MapEntry.mk (z02 108) (z01 4) ((0:Nat)+1),MapEntry.mk (z02 102) (z01 5) (z21),MapEntry.mk (z02 100) (z01 6) (z20),MapEntry.mk (z02 115) (z01 8) (z1z),MapEntry.mk (z02 98) (z01 7) (z1y),MapEntry.mk (z02 110) (z01 1) (z1x),MapEntry.mk (z02 111) (z01 2) (z1w)] (z01 0)=int i64 i1/\((0:Int)<=0/\0<(↑(nat_lit 2+1):Int))/\length (z6y)=nat_lit 1*9/\(nat_lit 1+nat_lit 1)*136<=140737488355328/\((0:Int)<=0/\0<(↑(nat_lit 3):Int))/\AV.ssl (nat_lit 14) (nat_lit 0) (nat_lit 3) (nat_lit 10) (nat_lit 15)=AV.ssl (nat_lit 14) (nat_lit 0) (nat_lit 3) (nat_lit 10) (nat_lit 15)/\Ji (Int.add (z0b) (1:Int)<(z0u x0)) (zg4 x0 x1 i1) (∀(i76 i77 i78:Nat) (i79:Option Addr) (i80 i81:Nat),(∃i82,True/\nat_lit 2<=i81/\qk0 i82 i79 (take (nat_lit 2*nat_lit 9) (z6x)))->∀(i83 i84 i85:Nat) (i86:Option Addr) (i87 i88:Nat),(∃i89,z9l x1 i1 i81 i89 i79 i88 i86)->∃(i90:(Option Addr×Nat×Nat)×Option Addr×Nat×Nat),i90.2.1=i86/\i90.2.2.1=nat_lit 3/\z2v i88 i90 ((∀i91,z9l x1 i1 i81 i91 i79 i88 i86->z03 (ofS i90.1 x0) i90.2 i91)/\True))
 def z9k:=(True/\nat_lit 1<=x6/\qk0 x7 x8 (take (nat_lit 1*nat_lit 9) (z6y)))/\nat_lit 2<=x9/\qk0 x7 x10 (take (nat_lit 2*nat_lit 10) [int i64 9,string (mkS [82]),slice noA 0 0,int i64 0,slice noA 0 0,bool false,string (mkS []),int i64 0,slice x8 (nat_lit 1) x6,slice noA 0 0,int i64 x1,string (mkS []),slice noA 0 0,int i64 0,slice noA 0 0,bool false,string (mkS []),int i64 0,slice noA 0 0,slice noA 0 0])
 def zg2:=((0:Int)<=0/\0<(z0u x0))/\kOK (TypeDesc.int u8) (int u8 (↑(bat (mkS x0) 0):Int))/\z7a/\∃(i1:Int),qkk (int u8 (↑(bat (mkS x0) 0):Int)) [MapEntry.mk (z02 105) (z01 3) 0,MapEntry.mk (z02 108) (z01 4) ((0:Nat)+1),MapEntry.mk (z02 102) (z01 5) (z21),MapEntry.mk (z02 100) (z01 6) (z20),MapEntry.mk (z02 115) (z01 8) (z1z),MapEntry.mk (z02 98) (z01 7) (z1y),MapEntry.mk (z02 110) (z01 1) (z1x),MapEntry.mk (z02 111) (z01 2) (z1w)] (z01 0)=int i64 i1/\((0:Int)<=0/\0<(↑(nat_lit 1+1):Int))/\((0:Nat)+1)*136<=140737488355328/\((0:Int)<=0/\0<(↑(nat_lit 2):Int))/\AV.ssl (nat_lit 6) (nat_lit 0) (nat_lit 2) (nat_lit 10) (nat_lit 7)=AV.ssl (nat_lit 6) (nat_lit 0) (nat_lit 2) (nat_lit 10) (nat_lit 7)/\Ji (Int.add 0 (1:Int)<(z0u x0)) (zg3 x0 i1) (∀(i94 i95 i96:Nat) (i97:Option Addr) (i98 i99:Nat),(∃i100,True/\nat_lit 1<=i99/\qk0 i100 i97 (take (nat_lit 1*nat_lit 9) (z6y)))->∀(i101 i102 i103:Nat) (i104:Option Addr) (i105 i106:Nat),(∃i107,z9k i1 i99 i107 i97 i106 i104)->∃(i108:(Option Addr×Nat×Nat)×Option Addr×Nat×Nat),i108.2.1=i104/\i108.2.2.1=nat_lit 2/\z2v i106 i108 ((∀i109,z9k i1 i99 i109 i97 i106 i104->z03 (ofS i108.1 x0) i108.2 i109)/\True))
 def zg1:=Ji (0<(z0u x0)) (zg2 x0) (∀(i110 i111 i112:Nat),(∃i113,True/\q3q i113 (Addr.mk i110 i111 none) [int i64 9,string (mkS [82]),slice noA 0 0,int i64 0,slice noA 0 0,bool false,string (mkS []),int i64 0,slice noA 0 0,slice noA 0 0])->∃(i114:(Option Addr×Nat×Nat)×Option Addr×Nat×Nat),i114.2.1=some (Addr.mk i110 (i111+nat_lit 0) none)/\i114.2.2.1=nat_lit 1/\i114.2.2.2=nat_lit 1/\True/\(∀i115,(True/\∀(i116:Nat) (i117:Value),[int i64 9,string (mkS [82]),slice noA 0 0,int i64 0,slice noA 0 0,bool false,string (mkS []),int i64 0,slice noA 0 0,slice noA 0 0][i116]? =some i117->q6s i115 (Addr.add (Addr.mk i110 i111 none) i116)=some i117)->z03 (ofS i114.1 x0) i114.2 i115)/\True)
end
def z62(s:List Nat):qm2 P (λ_=>none) (λ_=>none) Try.f12 z49 (zam) s=(okL s->zg1 s):=by kernel_rfl
def z85:=λs=>Eq.trans (z62 s) (by delta Ji Jt Jf z0u z02 z01 z21 z20 z1z z1y z1x z1w z7a z0b z6y z9o z6x z9m z0k z6w z9p z6v z9n z1h zc4 z9q zc3 zbi z9g z2v zg7 z9h zg6 z9i zg5 z9j zg4 z9l zg3 z9k zg2 zg1;exact rfl)
section
variable {ms:List MapEntry}
def z1j(hms:ms=[⟨.int .u8 105, .int .i64 3,0⟩,⟨.int .u8 108, .int .i64 4,0+1⟩,⟨.int .u8 102, .int .i64 5,0+1+1⟩,⟨.int .u8 100, .int .i64 6,0+1+1+1⟩,⟨.int .u8 115, .int .i64 8,0+1+1+1+1⟩,⟨.int .u8 98, .int .i64 7,0+1+1+1+1+1⟩,⟨.int .u8 110, .int .i64 1,0+1+1+1+1+1+1⟩,⟨.int .u8 111, .int .i64 2,0+1+1+1+1+1+1+1⟩]) {b:Nat} (h:b∈kdL) (z:Value):qkk (.int .u8 (b:Nat)) ms z= .int .i64 (kdK b):=by
 subst hms
 unfold kdL at h
 simp only[List.mem_cons,List.not_mem_nil,or_false]at h
 rcases h with rfl|rfl|rfl|rfl|rfl|rfl|rfl|rfl<;>rfl
def z0r(hms:ms=[⟨.int .u8 105, .int .i64 3,0⟩,⟨.int .u8 108, .int .i64 4,0+1⟩,⟨.int .u8 102, .int .i64 5,0+1+1⟩,⟨.int .u8 100, .int .i64 6,0+1+1+1⟩,⟨.int .u8 115, .int .i64 8,0+1+1+1+1⟩,⟨.int .u8 98, .int .i64 7,0+1+1+1+1+1⟩,⟨.int .u8 110, .int .i64 1,0+1+1+1+1+1+1⟩,⟨.int .u8 111, .int .i64 2,0+1+1+1+1+1+1+1⟩]):∀e∈ms,kOK (TypeDesc.int .u8) e.key:=by
 subst hms
 intro e he
 simp only[List.mem_cons,List.not_mem_nil,or_false]at he
 rcases he with rfl|rfl|rfl|rfl|rfl|rfl|rfl|rfl<;>rfl
def zcc{k:Int} {p:Pub}:(kT k).ok p:=⟨z07,z07,z07,z07,λf hf=>nomatch hf⟩
variable {s:List Nat}
def z13{a a2:Option Addr} {c c1:Nat} {p:Pub} {vs us:List Value} (hv:vs=z00 AF.cells ((List.range s.length).map ofF)) (hu:us=z00 AT.cells (ofS (a,s.length,c) s)) (hc:s.length<=c) (h1:qk0 p a vs) (hc1:s.length+1<=c1) (h2:qk0 p a2 us):z03 (ofS (a,s.length,c) s) (a2,s.length+1,c1) p:=by
 subst hv hu
 refine⟨⟨by unfold ofS;rw[List.length_cons,List.length_map],hc1,h2⟩,λe he=> ?_⟩
 unfold ofS at he
 rcases List.mem_cons.1 he with rfl|he
 ·refine⟨z07,z07,⟨by rw[show(ofR (a,s.length,c) s).fs=(List.range s.length).map ofF from rfl,List.length_map,List.length_range];rfl,hc,h1⟩,z07,λf hf=> ?_⟩
  obtain⟨i,_,rfl⟩:=List.mem_map.1 hf
  exact⟨z07,zcf p⟩
 ·obtain⟨b,_,rfl⟩:=List.mem_map.1 he
  exact zcc
def z2p{x:Int} (h:decide (x<((mkS s).size:Int))=true):x<s.length:=by
 have:=of_decide_eq_true h
 rwa [q0k]at this
def z2o{x:Int} (h:decide (x<((mkS s).size:Int))=false):(s.length:Int)<=x:=by
 have:=of_decide_eq_false h
 rw[q0k]at this
 omega
def z1i(h:okL s) {i:Nat} (hi:i<s.length):bat (mkS s) i=s.getD i 0/\s.getD i 0∈kdL:=by
 have hm:=h.2 _ (List.getElem_mem hi)
 have hd:s.getD i 0=s[i]:=by rw[List.getD_eq_getElem?_getD,List.getElem?_eq_getElem hi];rfl
 rw[hd]
 refine⟨z47 hi ?_,hm⟩
 unfold kdL at hm
 simp only[List.mem_cons,List.not_mem_nil,or_false]at hm
 omega
def z9s(h:s.length=0):s=[]:=by
 match s,h with
 | [],_=>exact rfl
def z9t(h:s.length=1):∃b0,s=[b0]:=by
 match s,h with
 | [b0],_=>exact⟨_,rfl⟩
def zg8(h:s.length=2):∃b0 b1,s=[b0,b1]:=by
 match s,h with
 | [b0,b1],_=>exact⟨_,_,rfl⟩
def zg9(h:s.length=3):∃b0 b1 b2,s=[b0,b1,b2]:=by
 match s,h with
 | [b0,b1,b2],_=>exact⟨_,_,_,rfl⟩
def zga(h:s.length=4):∃b0 b1 b2 b3,s=[b0,b1,b2,b3]:=by
 match s,h with
 | [b0,b1,b2,b3],_=>exact⟨_,_,_,_,rfl⟩
def zgb(h:s.length=5):∃b0 b1 b2 b3 b4,s=[b0,b1,b2,b3,b4]:=by
 match s,h with
 | [b0,b1,b2,b3,b4],_=>exact⟨_,_,_,_,_,rfl⟩
def zgc(h:s.length=6):∃b0 b1 b2 b3 b4 b5,s=[b0,b1,b2,b3,b4,b5]:=by
 match s,h with
 | [b0,b1,b2,b3,b4,b5],_=>exact⟨_,_,_,_,_,_,rfl⟩
def z86 : q39 P 12 z49:=by
 refine qla mixed z0n qmb (W:=zam) Try.func12 (by kernel_rfl) (by decide) (by decide) (λs=>by kernel_rfl) λs=>(z85 s).mpr ?_
 intro(hs:okL s)
 have hl:=hs.1
 refine⟨λhg0=> ?_,λhg0=> ?_⟩
 ·have hl0 := z2p hg0
  have hi0:0<s.length:=by have:(0:Int)<s.length:=hl0;omega
  obtain⟨he0,hm0⟩:=z1i hs hi0
  refine⟨⟨by decide,of_decide_eq_true hg0⟩,rfl,z0r rfl,kdK (s.getD 0 0),?_,?_⟩
  ·exact(congrArg (λb:Nat=>qkk (.int .u8 (b:Int)) _ _) he0).trans (z1j rfl hm0 _)
  refine⟨by decide,by decide,by decide,rfl,?_⟩
  refine⟨λhg1=> ?_,λhg1=> ?_⟩
  ·have hl1:=z2p hg1
   have hi1:1<s.length:=by have:(1:Int)<s.length:=hl1;omega
   obtain⟨he1,hm1⟩:=z1i hs hi1
   refine⟨⟨by decide,of_decide_eq_true hg1⟩,rfl,z0r rfl,kdK (s.getD 1 0),?_,?_⟩
   ·exact(congrArg (λb:Nat=>qkk (.int .u8 (b:Int)) _ _) he1).trans (z1j rfl hm1 _)
   refine⟨by decide,rfl,by decide,by decide,rfl,?_⟩
   refine⟨λhg2=> ?_,λhg2=> ?_⟩
   ·have hl2:=z2p hg2
    have hi2:2<s.length:=by have:(2:Int)<s.length:=hl2;omega
    obtain⟨he2,hm2⟩:=z1i hs hi2
    refine⟨⟨by decide,of_decide_eq_true hg2⟩,rfl,z0r rfl,kdK (s.getD 2 0),?_,?_⟩
    ·exact(congrArg (λb:Nat=>qkk (.int .u8 (b:Int)) _ _) he2).trans (z1j rfl hm2 _)
    refine⟨by decide,rfl,by decide,by decide,rfl,?_⟩
    refine⟨λhg3=> ?_,λhg3=> ?_⟩
    ·have hl3:=z2p hg3
     have hi3:3<s.length:=by have:(3:Int)<s.length:=hl3;omega
     obtain⟨he3,hm3⟩:=z1i hs hi3
     refine⟨⟨by decide,of_decide_eq_true hg3⟩,rfl,z0r rfl,kdK (s.getD 3 0),?_,?_⟩
     ·exact(congrArg (λb:Nat=>qkk (.int .u8 (b:Int)) _ _) he3).trans (z1j rfl hm3 _)
     refine⟨by decide,rfl,by decide,by decide,rfl,?_⟩
     refine⟨λhg4=> ?_,λhg4=> ?_⟩
     ·have hl4:=z2p hg4
      have hi4:4<s.length:=by have:(4:Int)<s.length:=hl4;omega
      obtain⟨he4,hm4⟩:=z1i hs hi4
      refine⟨⟨by decide,of_decide_eq_true hg4⟩,rfl,z0r rfl,kdK (s.getD 4 0),?_,?_⟩
      ·exact(congrArg (λb:Nat=>qkk (.int .u8 (b:Int)) _ _) he4).trans (z1j rfl hm4 _)
      refine⟨by decide,rfl,by decide,by decide,rfl,?_⟩
      refine⟨λhg5=> ?_,λhg5=> ?_⟩
      ·have hl5:=z2p hg5
       have hi5:5<s.length:=by have:(5:Int)<s.length:=hl5;omega
       obtain⟨he5,hm5⟩:=z1i hs hi5
       refine⟨⟨by decide,of_decide_eq_true hg5⟩,rfl,z0r rfl,kdK (s.getD 5 0),?_,?_⟩
       ·exact(congrArg (λb:Nat=>qkk (.int .u8 (b:Int)) _ _) he5).trans (z1j rfl hm5 _)
       refine⟨by decide,rfl,by decide,by decide,rfl,?_⟩
       refine⟨λhg6=> ?_,λhg6=> ?_⟩
       ·have hl6:=z2p hg6
        exact absurd hl6 (by show¬((6:Int)<_);omega)
       ·have hn:s.length=6:=by have:(s.length:Int)<=6:=z2o hg6;omega
        obtain⟨b0,b1,b2,b3,b4,b5,rfl⟩:=zgc hn
        rintro b s1 u a n c- b' s2 u' a2 n' c1 -
        exact⟨((a,6,c),(a2,7,c1)),rfl,rfl,rfl,trivial,λp hp=>z13 (s:=[b0,b1,b2,b3,b4,b5]) rfl rfl hp.1.2.1 hp.1.2.2 hp.2.1 hp.2.2,trivial⟩
      ·have hn:s.length=5:=by have:(s.length:Int)<=5:=z2o hg5;omega
       obtain⟨b0,b1,b2,b3,b4,rfl⟩:=zgb hn
       rintro b s1 u a n c- b' s2 u' a2 n' c1 -
       exact⟨((a,5,c),(a2,6,c1)),rfl,rfl,rfl,trivial,λp hp=>z13 (s:=[b0,b1,b2,b3,b4]) rfl rfl hp.1.2.1 hp.1.2.2 hp.2.1 hp.2.2,trivial⟩
     ·have hn:s.length=4:=by have:(s.length:Int)<=4:=z2o hg4;omega
      obtain⟨b0,b1,b2,b3,rfl⟩:=zga hn
      rintro b s1 u a n c- b' s2 u' a2 n' c1 -
      exact⟨((a,4,c),(a2,5,c1)),rfl,rfl,rfl,trivial,λp hp=>z13 (s:=[b0,b1,b2,b3]) rfl rfl hp.1.2.1 hp.1.2.2 hp.2.1 hp.2.2,trivial⟩
    ·have hn:s.length=3:=by have:(s.length:Int)<=3:=z2o hg3;omega
     obtain⟨b0,b1,b2,rfl⟩:=zg9 hn
     rintro b s1 u a n c- b' s2 u' a2 n' c1 -
     exact⟨((a,3,c),(a2,4,c1)),rfl,rfl,rfl,trivial,λp hp=>z13 (s:=[b0,b1,b2]) rfl rfl hp.1.2.1 hp.1.2.2 hp.2.1 hp.2.2,trivial⟩
   ·have hn:s.length=2:=by have:(s.length:Int)<=2:=z2o hg2;omega
    obtain⟨b0,b1,rfl⟩:=zg8 hn
    rintro b s1 u a n c- b' s2 u' a2 n' c1 -
    exact⟨((a,2,c),(a2,3,c1)),rfl,rfl,rfl,trivial,λp hp=>z13 (s:=[b0,b1]) rfl rfl hp.1.2.1 hp.1.2.2 hp.2.1 hp.2.2,trivial⟩
  ·have hn:s.length=1:=by have:(s.length:Int)<=1:=z2o hg1;omega
   obtain⟨b0,rfl⟩:=z9t hn
   rintro b s1 u a n c- b' s2 u' a2 n' c1 -
   exact⟨((a,1,c),(a2,2,c1)),rfl,rfl,rfl,trivial,λp hp=>z13 (s:=[b0]) rfl rfl hp.1.2.1 hp.1.2.2 hp.2.1 hp.2.2,trivial⟩
 ·have hn:s.length=0:=by have:(s.length:Int)<=0:=z2o hg0;omega
  obtain rfl:=z9s hn
  rintro b s1 u -
  exact⟨((none,0,0),(some ⟨b,s1+0,none⟩,1,1)),rfl,rfl,rfl,trivial,λp hp=>z13 (s:=[]) rfl rfl (Nat.le_refl 0) (.inl ⟨rfl,z46⟩) (Nat.le_refl 1) (.inr ⟨_,rfl,rfl,hp.2⟩),trivial⟩
end
section
 open Go.ChangeShapes Go.WideShapes Go.ChangeAt Go.Joins Go.Deep
abbrev zbo(w:World):Pub:=q17 (λ_ b=>b<w.heap.size) w
variable {w:World} {a:Addr}
def z32{v:Value} (h:w.cell? a=some v):q6s (zbo w) a=some v/\a.spot=none:=by
  unfold World.cell? at h
  cases ho:w.heap[a.block]? with
  |none=>rw[ho]at h;cases h
  | some o=>
    have hlt:a.block<w.heap.size:=(Array.getElem?_eq_some_iff.1 ho).1
    have hp:zbo w a.block=some o:=q04.2 ⟨hlt,ho⟩
    rw[ho]at h
    unfold q6s
    rw[hp]
    cases o<;>simp only at h<;>first|cases h|skip
    cases hs:a.spot with
    |none=>rw[hs]at h;simp[qc3,hs]at h⊢;exact h
    |some k=>rw[hs]at h;simp at h
def z3t{p:Pub} {x y:List Value} (h1:q3q p a x) (h2:q3q p (a.add x.length) y):q3q p a (x++y):=λj v hj=>by
 by_cases hx:j<x.length
 ·rw[List.getElem?_append_left hx]at hj;exact h1 j v hj
 ·rw[List.getElem?_append_right (by omega)]at hj
  have:=h2 _ v hj
  rw[Addr.add_add,show x.length+(j- x.length)=j by omega]at this;exact this
def z2b{α:Type} {f:α->List Value} {p:Pub} {k:Nat}:∀(l:List α) (a:Addr),(∀g∈l,(f g).length=k)->(∀(i:Nat) (h:i<l.length),q3q p (a.add (i*k)) (f l[i]))->q3q p a (z00 f l)
  | [],a,_,_=>λj v hj=>by simp[z00]at hj
  | g::l,a,hf,h=>by
    have h0:=h 0 (by simp)
    have e:a.add (0*k)=a:=by unfold Addr.add;rw[if_pos (by omega)]
    rw[e]at h0
    show q3q p a (f g++z00 f l)
    refine z3t h0 ?_
    rw[hf g List.mem_cons_self]
    refine z2b l (a.add k) (λg hg=>hf g (List.mem_cons_of_mem _ hg)) λi hi=> ?_
    have:=h (i+1) (by simp;omega)
    rw[Addr.add_add,show k+i*k=(i+1)*k by rw[Nat.succ_mul];omega]
    simpa using this
def z7u{f:Nat} {C:Ct} (h:q5s P f C) (s:C.σ) (vs:List Value) (ha:∀I,VRs I (C.args s) vs) (hh:C.h s=[]) (r:Value) (hr:C.r s= .sv r) (w:World) (hp:C.pre s) (hm:(C.mem s).ok (zbo w)):
  Calls P f ⟨vs⟩ w λe w'=>e= .returned r/\Below w.heap.size w w':=by
 obtain⟨h1,h2,_,h4⟩:=h
 obtain⟨h0,h1',e1,e2,h5⟩:=h4 s
 rw[hh]at e1
 cases e1
 refine(h5 (λ_ b=>b<w.heap.size) (λi=>if i=0 then some (0,0,0)else none) w vs (ha _) ⟨λid o b t h=> ?_,λid id' o o' b t t' h=> ?_,λid o b t h=> ?_⟩ (λ_ h=>h) (λ_ h=>h) hp hm (λi hi=>if_neg (by omega)) (if_pos rfl)).mono λe w' he=> ?_
 ·rw[T.get_e]at h;cases h
 ·rw[T.get_e]at h;cases h
 ·rw[T.get_e]at h;cases h
 obtain⟨z,I',rfl,hz,hg,_⟩:=he
 rw[hr]at hz
 cases hz
 exact⟨rfl,⟨hg.same.1,hg.same.2,hg.same.3,hg.size,λk hk=>hg.fr k hk⟩⟩
def z7b(w:World) (a:Option Addr) (len cap:Nat) (z:List Int):Prop:=(a=none/\len=0/\cap=0/\z=[])\/∃x,a=some x/\len<=cap/\cap<=maxLen/\z.length=cap/\(∀i,i<z.length->w.cell? (x.add i)=some (.int .u8 (z.getD i 0)))/\∀n∈z,(Lit.int .u8 n).wf=true
def z72{a:Option Addr} {len cap:Nat} {z:List Int} (h:z7b w a len cap z):∃L:List Int,slP byV (a,len,cap) L (zbo w)/\L.length<9223372036854775808/\∀b∈L,0<=b/\b<256:=by
  rcases h with⟨rfl,rfl,rfl,rfl⟩|⟨x,rfl,hl,hm,hz,hc,hw⟩
  · exact⟨[],⟨rfl,Nat.le_refl _, .inl ⟨rfl,trivial⟩⟩,by simp,λb hb=>by cases hb⟩
  have hlen:(z.take len).length=len:=by rw[List.length_take];omega
  have hat:∀(i:Nat) (hi:i<(z.take len).length),w.cell? (x.add i)=some (.int .u8 (z.take len)[i]):=λi hi=>by
    have hiz:i<z.length:=by omega
    have:=hc i hiz
    rw[List.getD_eq_getElem?_getD,List.getElem?_eq_getElem hiz]at this
    simpa using this
  refine⟨z.take len,⟨hlen.symm,hl,?_⟩,by unfold maxLen at hm;omega,λb hb=> ?_⟩
  · by_cases h0:z.take len=[]
    · rw[h0];exact .inl ⟨rfl,trivial⟩
    · have hpos:0<(z.take len).length:=List.length_pos_iff.2 h0
      have e0:x.add 0=x:=by unfold Addr.add;rw[if_pos rfl]
      have hp0:=z32 (hat 0 hpos)
      rw[e0]at hp0
      refine .inr ⟨x,rfl,hp0.2,z2b (k:=1) _ x (λg _=>rfl) λi hi j v hj=> ?_⟩
      cases j with
      |succ j=>simp[byV]at hj
      | zero=>
        have:=(z32 (hat i hi)).1
        rw[Addr.add_add,show i*1+0=i by omega,this,←hj];rfl
  · have hw:=hw b (List.mem_of_mem_take hb)
    simp only[Lit.wf,Bool.and_eq_true,decide_eq_true_eq]at hw
    have h1:IntKind.min .u8=0:=by decide
    have h2:IntKind.max .u8=255:=by decide
    omega
end
def numbers23_law_wf(a0:Option Addr) (z9s cap0:Nat) (z0:List Int) (a1:Option Addr) (z9t cap1:Nat) (z1:List Int) (w:World) (w0:z7b w a0 z9s cap0 z0) (w1:z7b w a1 z9t cap1 z1):Calls P 4 #[.slice a0 z9s cap0, .slice a1 z9t cap1] w λe w'=>e= .returned (.bool true)/\Below w.heap.size w w':=by
 obtain⟨L,hx,hL⟩:=z72 w0
 obtain⟨M,hy,hM⟩:=z72 w1
 exact z7u (z5x z86) ⟨(a0,z9s,cap0),L,(a1,z9t,cap1),M⟩ [.slice a0 z9s cap0, .slice a1 z9t cap1] (λI=> .cons (.sv _) (.cons (.sv _) .nil)) rfl (.bool true) rfl w ⟨hL,hM⟩ ⟨hx,hy⟩
end
end Go.Proofs.Ytpdddmchffpcfaa.Wd
