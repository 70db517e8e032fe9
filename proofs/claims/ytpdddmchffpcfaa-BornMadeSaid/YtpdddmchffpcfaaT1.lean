/-
  What the functions do: contracts, and their questions answered. No condition but what its theorems ask.
-/
import Derived.Test.YtpdddmchffpcfaaU6
import Derived.Test.YtpdddmchffpcfaaProg
import Derived.Laws.BitsAllLaws
namespace Go.Proofs.Ytpdddmchffpcfaa.Wd
open Go.Proofs.Ytpdddmchffpcfaa.Eng Go.Proofs.Ytpdddmchffpcfaa.Sen Go.RowKit
set_option linter.defProp false
set_option linter.unusedVariables false
set_option linter.unusedSimpArgs false
set_option maxRecDepth 1000000
open Go.Value (int string slice bool)
open Go.IntKind (i64 u64 u8 u32 i32)
open _root_.List (length take drop)
open _root_.ByteArray (size)
open _root_.Int (toNat)
noncomputable section
abbrev P:=Try.prog
def mixed:P.follows .mixedOrders=true:=by decide+kernel
theorem aok{calls:Nat->Option Ct} (hc:∀g C,calls g=some C->q3m P g C) {f:Nat} {fn:Func} {C:Ct} {W:C.σ->WayF} (hfn:P.funcs[f]? =some fn) (hv:∀s,qla P calls fn C W s) (hb:q2f P f fn=true:=by kernel_rfl) (h1:1<=C.m:=by exact Nat.le_of_ble_eq_true rfl) (hle:C.m<=C.m':=by exact Nat.le_of_ble_eq_true rfl) (hn:∀s,Nat.ble (C.args s).length fn.ntmps=true:=by exactλ_=>by kernel_rfl):q3m P f C:=qld mixed hc hfn hb h1 hle hn hv
theorem aokX{calls:Nat->Option Ct} (hc:∀g C,calls g=some C->q3m P g C) {rel:Nat->Option CtR} (hrel:∀g C,rel g=some C->q1v P g C) {f:Nat} {fn:Func} {C:Ct} {W:C.σ->WayF} (hfn:P.funcs[f]? =some fn) (hv:∀s,qlc P calls rel fn C W s) (hb:q2f P f fn=true:=by kernel_rfl) (h1:1<=C.m:=by exact Nat.le_of_ble_eq_true rfl) (hle:C.m<=C.m':=by exact Nat.le_of_ble_eq_true rfl) (hn:∀s,Nat.ble (C.args s).length fn.ntmps=true:=by exactλ_=>by kernel_rfl):q3m P f C:=qki mixed hc hrel hfn hb h1 hle hn hv
theorem aokR{calls:Nat->Option Ct} (hc:∀g C,calls g=some C->q3m P g C) {rel:Nat->Option CtR} (hrel:∀g C,rel g=some C->q1v P g C) {f:Nat} {fn:Func} {C:CtR} {W:C.σ->WayF} (hfn:P.funcs[f]? =some fn) (hv:∀s,qlb P calls rel fn C W s) (hb:q2f P f fn=true:=by kernel_rfl) (h1:1<=C.m:=by exact Nat.le_of_ble_eq_true rfl) (hle:C.m<=C.m':=by exact Nat.le_of_ble_eq_true rfl) (hn:∀s,Nat.ble (C.args s).length fn.ntmps=true:=by exactλ_=>by kernel_rfl):q1v P f C:=qkh mixed hc hrel hfn hb h1 hle hn hv
theorem sbS:(∀(p:Prop) [Decidable p],(decide p=true)=p)/\(∀(p:Prop) [Decidable p],(decide p=false)=¬p)/\(∀b:Bool,((!b)=true)=(b=false))/\(∀b:Bool,((!b)=false)=(b=true))/\(∀p,(True/\p)=p)/\(∀p,(p/\True)=p)/\(∀(α:Type) (a:α),(a=a)=True)/\(∀p:Prop,(p->p)=True)/\(∀α:Type,(α->True)=True)/\(∀p:Prop,(p->True)=True):=⟨λ_ _=>by simp,λ_ _=>by simp,by simp,by simp,by simp,by simp,by simp,by simp,by simp,by simp⟩
abbrev Jb(a:Int):Prop:=(-9223372036854775808:Int)<=a/\a<=9223372036854775807
abbrev Jt(p:Prop) [Decidable p]:Prop:=decide p=true
abbrev Jf(p:Prop) [Decidable p]:Prop:=decide p=false
abbrev Ji(p:Prop) [Decidable p] (a b:Prop):Prop:=(Jt p->a)/\(Jf p->b)
def z0o:∀g C,(λ_=>none:Nat->Option Ct) g=some C->q3m P g C:=λg C h=>by cases h
def slI(t:T AV) (k:Nat):Option Int:=match t.get k with
  | some a=>match gi a with
    |some (_,i)=>some i
    |none=>none
  |none=>none
def z9u:Pl noA:=trivial
def z00{α:Type} (f:α->List Value):List α->List Value
 | []=>[]
 |x::l=>f x++z00 f l
def z01{α:Type} {f:α->List Value} {e:Nat} (hf:∀x,(f x).length=e):∀l,(z00 f l).length=l.length*e
  | []=>by simp[z00]
  | x::l=>by
    rw[z00,List.length_append,hf,z01 hf l,List.length_cons,Nat.succ_mul];omega
def z05{α:Type} {f:α->List Value}:∀l m,z00 f (l++m)=z00 f l++z00 f m
  | [],m=>rfl
  | x::l,m=>by
    show f x++z00 f (l++m)=_
    rw[z05 l m,←List.append_assoc];rfl
def z23{α:Type} {f:α->List Value} {e:Nat} (hf:∀x,(f x).length=e):∀(l:List α) (i:Nat) (hi:i<l.length) (j:Nat),j<e->(z00 f l)[i*e+j]? =(f l[i])[j]?
  | x::l,0,_,j,hj=>by
    show(f x++z00 f l)[0*e+j]? =_
    rw[Nat.zero_mul,Nat.zero_add,List.getElem?_append_left (by rw[hf];exact hj)];rfl
  | x::l,i+1,hi,j,hj=>by
    show(f x++z00 f l)[(i+1)*e+j]? =_
    have:(i+1)*e=i*e+e:=Nat.succ_mul i e
    rw[List.getElem?_append_right (by rw[hf];omega),show(i+1)*e+j- (f x).length=i*e+j by rw[hf];omega]
    exact z23 hf l i (by simpa using hi) j hj
def j6a(x:Addr) (h:x.spot=none) (i j:Nat):(x.add i).add j=x.add (i+j):=by
 obtain⟨b,o,s⟩:=x
 simp only at h
 subst h
 unfold Addr.add
 by_cases hi:i=0
 ·subst hi;simp
 ·by_cases hj:j=0
  ·subst hj;simp[hi]
  ·rw[if_neg hi,if_neg hj,if_neg (by omega)]
   simp only[Nat.add_assoc]
def z95{α:Type} {f:α->List Value} {e:Nat} (hf:∀x,(f x).length=e) (he:0<e) {p:Pub} {a:Option Addr} {n c:Nat} {l:List α} (h:qhv p a n c (z00 f l)) {i:Nat} (hi:i<l.length):a≠noA/\q3i p (adr a (i*e)) (f l[i]):=by
 rcases h.2 with h|⟨x,rfl,h1,h2⟩
 ·have:=congrArg List.length h.1
  rw[z01 hf,List.length_nil]at this
  have:=Nat.mul_pos (show 0<l.length by omega) he
  omega
 ·refine⟨by simp,λj v hj=> ?_⟩
  have hje:j<e:=by have:=(List.getElem?_eq_some_iff.mp hj).1;rw[hf]at this;exact this
  show q6f p ((x.add (i*e)).add j)=some v
  rw[j6a x h1]
  exact h2 _ v (by rw[z23 hf l i hi j hje];exact hj)
def f1s:List Value->Option ByteArray
 | [.string s]=>some s
 |_=>none
def fsi:List Value->Option (ByteArray×Int)
 | [.string s, .int _ c]=>some (s,c)
 |_=>none
def f1i:List Value->Option Int
 | [.int _ c]=>some c
 |_=>none
def z3g(s:ByteArray) (j:Nat):bat s j<256:=by unfold bat;exact UInt8.toNat_lt _
def zip{s:ByteArray} {j:Nat} (h:s.size<=j):bat s j=0:=by
 unfold bat
 rw[getElem?_neg s j (by omega)];rfl
def ldN(c:Nat):Nat:=if c<128 then 1 else if 192<=c/\c<224 then 2 else if 224<=c/\c<240 then 3 else if 240<=c/\c<248 then 4 else 0
def ldV(c:Nat):Nat:=if c<128 then c else if 192<=c/\c<224 then c- 192 else if 224<=c/\c<240 then c- 224 else if 240<=c/\c<248 then c- 240 else 0
def ctC(c:Nat):Bool:=decide (128<=c)&&decide (c<192)
def vlF(s:ByteArray):Nat->Option Nat
  |0=>some 0
  |1=>some (ldV (bat s 0))
  | i+2=>match vlF s (i+1)with
    |some r=>if ctC (bat s (i+1))=true then some (r*64+(bat s (i+1)- 128))else none
    |none=>none
def lnN(r:Nat):Nat:=if r<128 then 1 else if r<2048 then 2 else if r<65536 then 3 else 4
def isC(r:Nat):Bool:=decide (r<=1114111)&& !(decide (55296<=r)&&decide (r<=57343))
def frt(s:ByteArray):Nat:=if s.size<ldN (bat s 0)then 0 else match vlF s (ldN (bat s 0))with
 |none=>0
 |some r=>if ldN (bat s 0)=0\/isC r=false\/lnN r≠ldN (bat s 0)then 0 else ldN (bat s 0)
def zc8:Nat->ByteArray->Bool
 |0,_=>true
 |f+1,s=>if s.size=0 then true else if frt s=0 then false else zc8 f (s.extract (frt s) s.size)
def vld(s:ByteArray):Bool:=zc8 s.size s
def z5o:Ct:=ctS ByteArray (λs=>[.string s]) f1s (λs=>s.size<9223372036854775808) (λ_=>{}) λs=> .sv (.bool (vld s))
def slS(t:T AV) (k:Nat):Option ByteArray:=match t.get k with
 |some a=>gs a
 |none=>none
def ptV(s:ByteArray):Nat:=if frt s=0 then 0 else(vlF s (frt s)).getD 0
def z2m:Ct:=ctS ByteArray (λs=>[.string s]) f1s (λs=>s.size<9223372036854775808) (λ_=>{}) λs=> .tup [.sv (.int .u32 (ptV s:Nat)), .sv (.int .i64 (frt s:Nat))]
def leN(n:Nat):Nat:=if n=2 then 128 else if n=3 then 2048 else 65536
def zib:z2m.σ->WayF:=λs=>{
 ann:=λ_ _ _=>some {σ:=Int×Int,pre:=λ⟨v,i⟩=>1<=i/\i<=ldN (bat s 0)/\∃q:Nat,v=q/\vlF s i.toNat=some q,find:=some λt _=>match slI t 6 with|some v=>(match slI t 8 with|some i=>some (v,i)|none=>none)|none=>none,t:=λ⟨v,i⟩=>[(6, .sv (.int .u32 v)),(8, .sv (.int .i64 i))],h:=λ_=>[],more:=0,μ:=λ⟨v,i⟩=>5- i.toNat,keep:=[0,5,7]}
 cut:=λr _ _=>match r with
  |14=>some {σ:=Unit,pre:=λ_=>0<s.size/\2<=ldN (bat s 0),find:=some λ_ _=>some (),t:=λ_=>[(5, .sv (.int .i64 (ldN (bat s 0):Nat))),(6, .sv (.int .u32 (ldV (bat s 0):Nat))),(7, .sv (.int .u32 (leN (ldN (bat s 0)):Nat)))],h:=λ_=>[],more:=0,μ:=λ_=>0,keep:=[0]}
  |_=>none}
def zce:z5o.σ->WayF:=λs=>{ann:=λ_ _ _=>some {σ:=ByteArray,pre:=λt=>t.size<=s.size/\vld t=vld s,find:=some λt _=>slS t 0,t:=λu=>[(0, .sv (.string u))],h:=λ_=>[],more:=0,μ:=λu=>u.size,keep:=[]}}
section
def zag{p q:Prop} [Decidable p] [Decidable q] (h:p↔q):decide p=decide q:=by simp[h]
abbrev svV(x:SV):Value:= .slice x.1 x.2.1 x.2.2
abbrev svA(x:SV):AV:= .sv (.slice x.1 x.2.1 x.2.2)
def txV(s:ByteArray):List Value:=[.string s]
def inV(i:Int):List Value:=[.int .i64 i]
def slP{α:Type} (f:α->List Value) (x:SV) (l:List α) (p:Pub):Prop:=x.2.1=l.length/\qhv p x.1 x.2.1 x.2.2 (z00 f l)
variable {α:Type}
def z0a{f:α->List Value} {x:SV} {l:List α} {p q:Pub} (h:Pub.le p q) (e:slP f x l p):slP f x l q:=⟨e.1,q57 h e.2⟩
def z0b{f:α->List Value} {e:Nat} (hf:∀x,(f x).length=e) (he:0<e) {p:Pub} {x:SV} {l:List α} (h:slP f x l p) {i:Nat} (hi:i<l.length):x.1≠noA/\q3i p (adr x.1 (i*e)) (f l[i]):=z95 hf he h.2 hi
variable {p:Pub}
def z04{f:α->List Value}:slP f (none,0,0) [] p:=⟨rfl,Nat.le_refl _, .inl ⟨rfl,z9u⟩⟩
inductive GJ where
 |mk (k n:Int) (s:ByteArray) (y:SV) (l:List GJ) (x:SV) (nm:List ByteArray)
def GJ.k:GJ->Int| .mk k _ _ _ _ _ _=>k
def GJ.n:GJ->Int| .mk _ n _ _ _ _ _=>n
def GJ.s:GJ->ByteArray| .mk _ _ s _ _ _ _=>s
def GJ.y:GJ->SV| .mk _ _ _ y _ _ _=>y
def GJ.l:GJ->List GJ| .mk _ _ _ _ l _ _=>l
def GJ.x:GJ->SV| .mk _ _ _ _ _ x _=>x
def GJ.nm:GJ->List ByteArray| .mk _ _ _ _ _ _ nm=>nm
def GJ.cells(g:GJ):List Value:=[.int .i64 g.k, .int .i64 g.n, .string g.s,svV g.y,svV g.x]
def GJ.av(g:GJ):AV:= .agg [.sv (.int .i64 g.k), .sv (.int .i64 g.n), .sv (.string g.s),svA g.y,svA g.x]
mutual
def GJ.ok:GJ->Pub->Prop
 | .mk k n s y l x nm,p=>slP GJ.cells y l p/\slP txV x nm p/\GJ.oks l p
def GJ.oks:List GJ->Pub->Prop
 | [],_=>True
 |g::l,p=>GJ.ok g p/\GJ.oks l p
end
mutual
def GJ.ok_mono:∀{g:GJ} {p q:Pub},Pub.le p q->g.ok p->g.ok q
  | .mk k n s y l x nm,p,q,h,e=>by
    unfold GJ.ok at e⊢
    exact⟨z0a h e.1,z0a h e.2.1,GJ.oks_mono h e.2.2⟩
def GJ.oks_mono:∀{l:List GJ} {p q:Pub},Pub.le p q->GJ.oks l p->GJ.oks l q
  | [],p,q,h,e=>by unfold GJ.oks;trivial
  | g::l,p,q,h,e=>by
    unfold GJ.oks at e⊢
    exact⟨GJ.ok_mono h e.1,GJ.oks_mono h e.2⟩
end
structure AF where
 nm:ByteArray
 al:SV
 als:List ByteArray
 ty:Int
 hd:Bool
 df:GJ
def AF.cells(f:AF):List Value:=[.string f.nm,svV f.al, .int .i64 f.ty, .bool f.hd, .int .i64 f.df.k, .int .i64 f.df.n, .string f.df.s,svV f.df.y,svV f.df.x]
def AF.ok(f:AF) (p:Pub):Prop:=slP txV f.al f.als p/\f.df.ok p
structure AT where
 k:Int
 nm:ByteArray
 al:SV
 als:List ByteArray
 it:Int
 sy:SV
 sys:List ByteArray
 hd:Bool
 df:ByteArray
 sz:Int
 f:SV
 fs:List AF
 br:SV
 brs:List Int
def AT.cells(e:AT):List Value:=[.int .i64 e.k, .string e.nm,svV e.al, .int .i64 e.it,svV e.sy, .bool e.hd, .string e.df, .int .i64 e.sz,svV e.f,svV e.br]
def AT.av(e:AT):AV:= .agg [.sv (.int .i64 e.k), .sv (.string e.nm),svA e.al, .sv (.int .i64 e.it),svA e.sy, .sv (.bool e.hd), .sv (.string e.df), .sv (.int .i64 e.sz),svA e.f,svA e.br]
def AT.ok(e:AT) (p:Pub):Prop:=slP txV e.al e.als p/\slP txV e.sy e.sys p/\slP AF.cells e.f e.fs p/\slP inV e.br e.brs p/\∀f∈e.fs,f.ok p
def AT.ok_mono{e:AT} {p q:Pub} (h:Pub.le p q) (g:e.ok p):e.ok q:=⟨z0a h g.1,z0a h g.2.1,z0a h g.2.2.1,z0a h g.2.2.2.1,λf hf=>⟨z0a h (g.2.2.2.2 f hf).1,GJ.ok_mono h (g.2.2.2.2 f hf).2⟩⟩
def z09(S:List AT) (x:SV) (p:Pub):Prop:=slP AT.cells x S p/\∀e∈S,e.ok p
def z0t{S:List AT} {x:SV} {p q:Pub} (h:Pub.le p q) (g:z09 S x p):z09 S x q:=⟨z0a h g.1,λe he=>AT.ok_mono h (g.2 e he)⟩
def z0y(e:AT):e.cells.length=10:=rfl
def z3f(f:AF):f.cells.length=9:=rfl
def z0s(s:ByteArray):(txV s).length=1:=rfl
def z1b(i:Int):(inV i).length=1:=rfl
def z2o(g:GJ):g.cells.length=5:=rfl
def small(S:List AT):Prop:=S.length<1000000/\∀e∈S,e.fs.length<1000000/\e.brs.length<1000000/\e.sys.length<1000000
inductive GV where
 |mk (n:Int) (s:ByteArray) (x:SV) (l:List GV) (y:SV) (ks:List ByteArray) (b:Int)
inductive PV where
 |mk (n:Int) (s:ByteArray) (l:List PV) (ks:List ByteArray) (b:Int)
def GV.n:GV->Int| .mk n _ _ _ _ _ _=>n
def GV.s:GV->ByteArray| .mk _ s _ _ _ _ _=>s
def GV.x:GV->SV| .mk _ _ x _ _ _ _=>x
def GV.l:GV->List GV| .mk _ _ _ l _ _ _=>l
def GV.y:GV->SV| .mk _ _ _ _ y _ _=>y
def GV.ks:GV->List ByteArray| .mk _ _ _ _ _ ks _=>ks
def GV.b:GV->Int| .mk _ _ _ _ _ _ b=>b
def GV.cells(v:GV):List Value:=[.int .u64 v.n, .string v.s,svV v.x,svV v.y, .int .i64 v.b]
def GV.av(v:GV):AV:= .agg [.sv (.int .u64 v.n), .sv (.string v.s),svA v.x,svA v.y, .sv (.int .i64 v.b)]
def z0z(v:GV):v.cells.length=5:=rfl
mutual
def GV.ok:GV->Pub->Prop
 | .mk n s x l y ks b,p=>slP GV.cells x l p/\slP txV y ks p/\GV.oks l p
def GV.oks:List GV->Pub->Prop
 | [],_=>True
 |v::l,p=>GV.ok v p/\GV.oks l p
end
mutual
def GV.ok_mono:∀{v:GV} {p q:Pub},Pub.le p q->v.ok p->v.ok q
  | .mk n s x l y ks b,p,q,h,e=>by
    unfold GV.ok at e⊢
    exact⟨z0a h e.1,z0a h e.2.1,GV.oks_mono h e.2.2⟩
def GV.oks_mono:∀{l:List GV} {p q:Pub},Pub.le p q->GV.oks l p->GV.oks l q
  | [],p,q,h,e=>by unfold GV.oks;trivial
  | g::l,p,q,h,e=>by
    unfold GV.oks at e⊢
    exact⟨GV.ok_mono h e.1,GV.oks_mono h e.2⟩
end
def GV.ok_eq(v:GV) (p:Pub):v.ok p=(slP GV.cells v.x v.l p/\slP txV v.y v.ks p/\GV.oks v.l p):=by cases v;unfold GV.ok;rfl
def GV.oks_at:∀{l:List GV} {p:Pub},GV.oks l p->∀{i:Nat} (h:i<l.length),l[i].ok p
 |v::l,p,e,0,h=>by unfold GV.oks at e;exact e.1
 |v::l,p,e,i+1,h=>by unfold GV.oks at e;exact GV.oks_at e.2 (by simpa using h)
mutual
def GV.pv:GV->PV
 | .mk n s x l y ks b=> .mk n s (GV.pvs l) ks b
def GV.pvs:List GV->List PV
 | []=>[]
 |v::l=>GV.pv v::GV.pvs l
end
def GV.pv_eq(v:GV):v.pv= .mk v.n v.s (GV.pvs v.l) v.ks v.b:=by cases v;rw[GV.pv];rfl
def GV.pvs_map:∀l:List GV,GV.pvs l=l.map GV.pv
 | []=>by rw[GV.pvs];rfl
 |v::l=>by rw[GV.pvs,GV.pvs_map l];rfl
def GV.pvs_len(l:List GV):(GV.pvs l).length=l.length:=by rw[GV.pvs_map,List.length_map]
mutual
def PV.sm:PV->Prop
 | .mk n s l ks b=>(0<=n/\n<18446744073709551616)/\s.size<9223372036854775808/\l.length<4611686018427387904/\ks.length<4611686018427387904/\(∀k∈ks,k.size<9223372036854775808)/\PV.sms l
def PV.sms:List PV->Prop
 | []=>True
 |v::l=>PV.sm v/\PV.sms l
end
def PV.sms_at:∀{l:List PV},PV.sms l->∀{i:Nat} (h:i<l.length),l[i].sm
 |v::l,e,0,h=>by unfold PV.sms at e;exact e.1
 |v::l,e,i+1,h=>by unfold PV.sms at e;exact PV.sms_at e.2 (by simpa using h)
def GV.sm_eq(v:GV):v.pv.sm=((0<=v.n/\v.n<18446744073709551616)/\v.s.size<9223372036854775808/\v.l.length<4611686018427387904/\v.ks.length<4611686018427387904/\(∀k∈v.ks,k.size<9223372036854775808)/\PV.sms (GV.pvs v.l)):=by rw[GV.pv_eq,PV.sm,GV.pvs_len]
variable {v:GV}
def GV.sm_at(h:v.pv.sm) {i:Nat} (hi:i<v.l.length):v.l[i].pv.sm:=by
 rw[GV.sm_eq]at h
 have:=PV.sms_at h.2.2.2.2.2 (i:=i) (by rw[GV.pvs_len];exact hi)
 simpa[GV.pvs_map]using this
def GV.ok_at(h:v.ok p) {i:Nat} (hi:i<v.l.length):v.l[i].ok p:=by
 rw[GV.ok_eq]at h;exact GV.oks_at h.2.2 hi
def GV.cells_at(h:v.ok p) {i:Nat} (hi:i<v.l.length):v.x.1≠noA/\q3i p (adr v.x.1 (i*5)) v.l[i].cells:=by
 rw[GV.ok_eq]at h;exact z0b z0z (by decide) h.1 hi
def GV.x_len(h:v.ok p):v.x.2.1=v.l.length:=by rw[GV.ok_eq]at h;exact h.1.1
def GV.y_len(h:v.ok p):v.y.2.1=v.ks.length:=by rw[GV.ok_eq]at h;exact h.2.1.1
def okN(a:AT) (n:Int):Bool:=if a.k=1 then decide (n=0)else if a.k=2 then decide (n<=1)else if a.k=3 then decide (n<2147483648\/18446744071562067968<=n)else if a.k=5 then decide (n<4294967296)else if a.k=10 then decide (n<a.sys.length)else true
def okT(a:AT) (s:ByteArray):Bool:=if a.k=8 then vld s else if a.k=11 then decide ((s.size:Int)=a.sz)else true
def z3w:List ByteArray->Bool
 | []=>true
 | [k]=>vld k
 |k::j::l=>vld k&&qeq k j&&z3w (j::l)
def okP(a:AT) (n:Nat) (ks:List ByteArray) (b:Int):Bool:=
 if ks.length>0/\a.k≠13\/b≠0/\a.k≠14 then false else
 if a.k=9 then decide (n=a.fs.length)else if a.k=14 then decide (0<=b/\b<a.brs.length/\n=1)else if a.k=13 then decide (n=ks.length)&&z3w ks else true
def isN(k:Int):Bool:=decide (k=1\/k=2\/k=3\/k=4\/k=5\/k=6\/k=10)
def isT(k:Int):Bool:=decide (k=7\/k=8\/k=11)
def isQ(k:Int):Bool:=decide (k=9\/k=12\/k=13\/k=14)
def z5g(n m:Nat) (b:Int):Bool:=decide (n=0)&&decide (m=0)&&decide (b=0)
def z2u(a:AT) (b:Int) (i:Nat):Int:=if a.k=9 then(match a.fs[i]? with|some f=>f.ty|none=>0)else if a.k=14 then a.brs.getD b.toNat 0 else a.it
mutual
def PV.fits(S:List AT) (t:Int):PV->Bool
  | .mk n s l ks b=>if t<0\/S.length<=t then false else match S[t.toNat]? with
    |none=>false
    | some a=>if isN a.k=true then okN a n&&decide (s.size=0)&&z5g l.length ks.length b else
      if isT a.k=true then okT a s&&decide (n=0)&&z5g l.length ks.length b else
      if isQ a.k=true then okP a l.length ks b&&PV.fitL S (z2u a b) 0 l&&decide (n=0)&&decide (s.size=0)else false
def PV.fitL(S:List AT) (f:Nat->Int) (i:Nat):List PV->Bool
 | []=>true
 |v::l=>PV.fits S (f i) v&&PV.fitL S f (i+1) l
end
end
def ctQ(σ:Type) (args:σ->List AV) (pre:σ->Prop) (mem:σ->PF) (r:σ->AV):Ct where
 σ:=σ
 args:=args
 h:=λ_=>[]
 m:=1
 pre:=pre
 mem:=mem
 r:=r
 h':=λ_=>[]
 m':=1
 g:=λ_=>none
def byV(b:Int):List Value:=[.int .u8 b]
def zp7(b:Int):(byV b).length=1:=rfl
def byM(x:SV) (L:List Int):PF:=⟨true,slP byV x L,λ_ _ h e=>z0a h e⟩
def z0p(L:List Int):Prop:=L.length<1000000/\∀b∈L,0<=b/\b<256
def z0r(L:List Int) (n m:Int):Int:=if L.length<=n then 0 else Int.tmod (L.getD n.toNat 0) m
def z06(L:List Int) (n:Int):Int:=if L.length<=n then n else n+1
def pkO(x:SV) (n:Int):List (Nat×AO):=[(1, .cells 56 (some 0) false [svA x, .sv (.int .i64 n)])]
def zve(h:T AO) (id:Nat):Option (SV×Int):=match h.get id with
  | some (.cells _ _ _ [a,i])=>match a with
    | .sv (.slice a n c)=>match gi i with
      |some (_,i)=>some ((a,n,c),i)
      |none=>none
    |_=>none
  |_=>none
def zpt(l:List AV) (h:T AO):Option (Sel (SV×List Int×Int×Int)):=match l with
  | [.ptr id _,m]=>match zve h id with
    | some (x,n)=>match gi m with
      |some (_,m)=>some ⟨List Int,λL=>(x,L,n,m)⟩
      |none=>none
    |none=>none
  |_=>none
def zor:Ct where
 σ:=SV×List Int×Int×Int
 args:=λ⟨x,L,n,m⟩=>[.ptr 1 0, .sv (.int .i64 m)]
 h:=λ⟨x,L,n,m⟩=>pkO x n
 m:=2
 pre:=λ⟨x,L,n,m⟩=>0<=n/\n<=L.length/\0<m/\m<1000000/\z0p L
 mem:=λ⟨x,L,n,m⟩=>byM x L
 sel:=some zpt
 r:=λ⟨x,L,n,m⟩=> .sv (.int .i64 (z0r L n m))
 h':=λ⟨x,L,n,m⟩=>pkO x (z06 L n)
 m':=2
 g:=λ_=>none
def zk8(l:List AV) (h:T AO):Option (Sel (SV×List Int×Int)):=match l with
  | [.ptr id _]=>match zve h id with
    |some (x,n)=>some ⟨List Int,λL=>(x,L,n)⟩
    |none=>none
  |_=>none
def zit:Ct where
 σ:=SV×List Int×Int
 args:=λ⟨x,L,n⟩=>[.ptr 1 0]
 h:=λ⟨x,L,n⟩=>pkO x n
 m:=2
 pre:=λ⟨x,L,n⟩=>True
 mem:=λ⟨x,L,n⟩=>byM x L
 sel:=some zk8
 r:=λ⟨x,L,n⟩=> .sv (.bool (decide ((L.length:Int)<=n)))
 h':=λ⟨x,L,n⟩=>pkO x n
 m':=2
 g:=λ_=>none
def z8n:Ct:={ctQ ByteArray (λs=>[.sv (.string s)]) (λ_=>True) (λ_=>{}) (λs=> .agg [.int .i64 4, .int .i64 0, .sv (.string s), .nsl, .nsl])with find:=some λl _=>match l with
 | [a]=>gs a
 |_=>none}
inductive N3 where
 |two
 |three
 |four
def N3.v:N3->Nat
 | .two=>2
 | .three=>3
 | .four=>4
def z4e:Ct where
  σ:=N3
  args:=λn=>[.sl 1 0 n.v n.v, .sl 2 0 n.v n.v]
  h:=λ_=>[]
  m:=3
  find:=some λl _=>match l with
    | [.sl _ _ n _,_]=>match n with
      |2=>some .two
      |3=>some .three
      |4=>some .four
      |_=>none
    |_=>none
  r:=λn=> .agg [.int .i64 6, .int .i64 0, .str [], .sl 2 0 n.v n.v, .sl 1 0 n.v n.v]
  h':=λ_=>[]
  m':=3
  g:=λ_=>none
mutual
def GJ.wf:GJ->Prop
 | .mk k n s y l x nm=>s.size<1000/\l.length<1000/\nm.length<=l.length/\(∀t∈nm,t.size<1000)/\(-9223372036854775808<=n/\n<9223372036854775808)/\(k=6->nm.length=l.length)/\GJ.wfs l
def GJ.wfs:List GJ->Prop
 | []=>True
 |g::l=>GJ.wf g/\GJ.wfs l
end
def GJ.wf_eq(g:GJ):g.wf=(g.s.size<1000/\g.l.length<1000/\g.nm.length<=g.l.length/\(∀t∈g.nm,t.size<1000)/\(-9223372036854775808<=g.n/\g.n<9223372036854775808)/\(g.k=6->g.nm.length=g.l.length)/\GJ.wfs g.l):=by cases g;rw[GJ.wf];rfl
def GJ.ok_eq(g:GJ) (p:Pub):g.ok p=(slP GJ.cells g.y g.l p/\slP txV g.x g.nm p/\GJ.oks g.l p):=by cases g;unfold GJ.ok;rfl
def GJ.wfs_at:∀{l:List GJ},GJ.wfs l->∀{i:Nat} (h:i<l.length),l[i].wf
 |v::l,e,0,h=>by unfold GJ.wfs at e;exact e.1
 |v::l,e,i+1,h=>by unfold GJ.wfs at e;exact GJ.wfs_at e.2 (by simpa using h)
def GJ.oks_at:∀{l:List GJ} {p:Pub},GJ.oks l p->∀{i:Nat} (h:i<l.length),l[i].ok p
 |v::l,p,e,0,h=>by unfold GJ.oks at e;exact e.1
 |v::l,p,e,i+1,h=>by unfold GJ.oks at e;exact GJ.oks_at e.2 (by simpa using h)
def gM(g:GJ):PF:=⟨true,g.ok,λ_ _ h e=>GJ.ok_mono h e⟩
def zJ:GJ:= .mk 0 0 (mkS []) (none,0,0) [] (none,0,0) []
def z2v(s:ByteArray):List ByteArray->List GJ->Option GJ
 |t::nm,g::l=>if t=s then some g else z2v s nm l
 |_,_=>none
def zuf:Ct:=ctQ (GJ×ByteArray) (λ⟨g,s⟩=>[g.av, .sv (.string s)]) (λ⟨g,s⟩=>g.wf) (λ⟨g,s⟩=>gM g) λ⟨g,s⟩=> .tup [((z2v s g.nm g.l).getD zJ).av, .sv (.bool (z2v s g.nm g.l).isSome)]
def zxk:zuf.σ->WayF:=λ⟨g,s⟩=>{
 ann:=λ_ _ _=>some {σ:=Nat,pre:=λj=>j<=g.nm.length/\z2v s (g.nm.drop j) (g.l.drop j)=z2v s g.nm g.l,t:=λj=>[(6, .sv (.int .i64 (j:Int)))],h:=λ_=>[],more:=0,μ:=λj=>g.nm.length- j,keep:=[1,2,4,5]}}
def isNum(s:ByteArray):Bool:=decide (s=mkS [105,110,116])||decide (s=mkS [108,111,110,103])||decide (s=mkS [102,108,111,97,116])||decide (s=mkS [100,111,117,98,108,101])
def z2w(s:ByteArray):Bool:=decide (s=mkS [115,116,114,105,110,103])||decide (s=mkS [98,121,116,101,115])
def z6n(s:ByteArray):Bool:=decide (s=mkS [98,111,111,108,101,97,110])
def z8x(s:ByteArray):Bool:=decide (s=mkS [110,117,108,108])
def zdy(i:Int):ByteArray:=if i=0 then mkS []else if i=1 then mkS [100]else mkS [195,164]
def z20(g:GJ) (L:List Int) (n:Int):Int×Int×ByteArray×Int:=
 if g.k=4/\isNum g.s=true then(3,z0r L n 200- 50,mkS [],z06 L n)else
 if g.k=4/\z2w g.s=true then(4,0,zdy (z0r L n 3),z06 L n)else
 if g.k=4/\z6n g.s=true then(2,z0r L n 2,mkS [],z06 L n)else
 if g.k=4/\z8x g.s=true then(1,0,mkS [],n)else
 if g.k=5 then(1,0,mkS [],n)else
 if((z2v (mkS [116,121,112,101]) g.nm g.l).getD zJ).s=mkS [97,114,114,97,121]then(5,0,mkS [],n)else
 if((z2v (mkS [116,121,112,101]) g.nm g.l).getD zJ).s=mkS [101,110,117,109]then(4,0,mkS [88],n)else(6,0,mkS [],n)
def zps(l:List AV) (h:T AO):Option (Sel (SV×List Int×Int×GJ)):=match l with
  | [.ptr id _,_]=>match zve h id with
    |some (x,n)=>some ⟨List Int×GJ,λL=>(x,L.1,n,L.2)⟩
    |none=>none
  |_=>none
def z3b:Ct where
 σ:=SV×List Int×Int×GJ
 args:=λ⟨x,L,n,g⟩=>[.ptr 1 0,g.av]
 h:=λ⟨x,L,n,g⟩=>pkO x n
 m:=2
 pre:=λ⟨x,L,n,g⟩=>0<=n/\n<=L.length/\z0p L/\g.wf
 mem:=λ⟨x,L,n,g⟩=>⟨true,λp=>slP byV x L p/\g.ok p,λ_ _ h e=>⟨z0a h e.1,GJ.ok_mono h e.2⟩⟩
 sel:=some zps
 r:=λ⟨x,L,n,g⟩=> .agg [.sv (.int .i64 (z20 g L n).1), .sv (.int .i64 (z20 g L n).2.1), .sv (.string (z20 g L n).2.2.1), .nsl, .nsl]
 h':=λ⟨x,L,n,g⟩=>pkO x (z20 g L n).2.2.2
 m':=2
 g:=λ_=>none
def swS(f:ByteArray->Bool) (i k:Nat) (keep:List Nat) (t:T AV):Option LT:=match slS t k with
 |some a=>some {σ:=Unit,t:=λ_=>[(i, .sv (.bool (f a)))],h:=λ_=>[],more:=0,μ:=λ_=>0,keep:=keep}
 |none=>none
def z8e:z3b.σ->WayF:=λ⟨x,L,n,g⟩=>{
 cut:=λi t _=>match i with
  |7=>swS isNum 12 11 [0,3,4,11] t
  |10=>swS z2w 21 11 [0,3,4,11] t
  |15=>some {σ:=Unit,pre:=λ_=>¬(g.k=4/\(isNum g.s=true\/z2w g.s=true\/z6n g.s=true\/z8x g.s=true)),t:=λ_=>[],h:=λ_=>[],more:=0,μ:=λ_=>0,keep:=[0,3,4]}
  |_=>none}
def mkO(S:List AT) (e:Int) (r k:Nat):List (Nat×AO):=[(1, .cells 85 (some 0) false [.ssl r 0 S.length 10 k, .sv (.int .i64 e)]),(r, .row 54 0 (z00 AT.cells S))]
def mkE(h:T AO) (id:Nat):Option Int:=match h.get id with
  | some (.cells _ _ _ [_,e])=>match gi e with
    |some (_,e)=>some e
    |none=>none
  |_=>none
def zk6(l:List AV) (h:T AO):Option (Sel (List AT×Int×Int)):=match l with
  | [.ptr id _,e]=>match mkE h id with
    | some e0=>match gi e with
      |some (_,e)=>some ⟨List AT,λS=>(S,e0,e)⟩
      |none=>none
    |none=>none
  |_=>none
def faE(e0 e:Int):Int:=if e0=0 then e else e0
def z1h:Ct where
 σ:=List AT×Int×Int
 args:=λ⟨S,e0,e⟩=>[.ptr 1 0, .sv (.int .i64 e)]
 h:=λ⟨S,e0,e⟩=>mkO S e0 2 3
 m:=4
 sel:=some zk6
 r:=λ⟨S,e0,e⟩=> .int .i64 0
 h':=λ⟨S,e0,e⟩=>mkO S (faE e0 e) 2 3
 m':=4
 g:=λ_=>none
def adS(S:List AT) (t:AT):List AT:=if 60<=S.length then S else S++[t]
def adE(S:List AT) (e:Int):Int:=if 60<=S.length then faE e 3 else e
def adR(S:List AT):Int:=if 60<=S.length then 0 else S.length
def zoq:Ct where
 σ:=List AT×Int×AT
 args:=λ⟨S,e,t⟩=>[.ptr 1 0,t.av]
 h:=λ⟨S,e,t⟩=>mkO S e 2 3
 m:=4
 r:=λ⟨S,e,t⟩=> .sv (.int .i64 (adR S))
 h':=λ⟨S,e,t⟩=>mkO (adS S t) (adE S e) 4 5
 m':=6
 g:=λ_=>none
def kinds:List ByteArray:=[mkS [110,117,108,108],mkS [98,111,111,108,101,97,110],mkS [105,110,116],mkS [108,111,110,103],mkS [102,108,111,97,116],mkS [100,111,117,98,108,101],mkS [98,121,116,101,115],mkS [115,116,114,105,110,103],mkS [114,101,99,111,114,100],mkS [101,110,117,109],mkS [102,105,120,101,100],mkS [97,114,114,97,121],mkS [109,97,112],mkS [117,110,105,111,110]]
def zht(s:ByteArray):List ByteArray->Nat->Int
 | [],_=>0
 |k::l,i=>if k=s then(i:Int)+1 else zht s l (i+1)
def z0d(s:ByteArray):Int:=zht s kinds 0
def za7:Ct:={ctQ ByteArray (λs=>[.sv (.string s)]) (λ_=>True) (λ_=>{}) (λs=> .sv (.int .i64 (z0d s)))with find:=some λl _=>match l with
 | [a]=>gs a
 |_=>none}
def zq6:za7.σ->WayF:=λs=>{
 ann:=λ_ _ _=>some {σ:=Nat,pre:=λj=>j<=14/\zht s (kinds.drop j) j=z0d s,t:=λj=>[(4, .sv (.int .i64 (j:Int)))],h:=λ_=>[],more:=0,μ:=λj=>14- j,keep:=[0,2,3]}}
def z2y(k:Int):ByteArray:=if k<1\/14<k then mkS []else kinds.getD (k.toNat- 1) (mkS [])
def ziu:Ct:=ctQ Int (λk=>[.sv (.int .i64 k)]) (λ_=>True) (λ_=>{}) λk=> .sv (.string (z2y k))
def findF(s:ByteArray):List AT->Nat->Option Nat
 | [],_=>none
 |a::l,i=>if a.nm=s/\9<=a.k/\a.k<=11 then some i else findF s l (i+1)
def fnI(o:Option Nat):Int:=match o with
 |some i=>i
 |none=>0
def zk7(l:List AV) (h:T AO):Option (Sel (List AT×Int×ByteArray)):=match l with
  | [.ptr id _,a]=>match mkE h id with
    | some e=>match gs a with
      |some s=>some ⟨List AT,λS=>(S,e,s)⟩
      |none=>none
    |none=>none
  |_=>none
def za4:Ct where
 σ:=List AT×Int×ByteArray
 args:=λ⟨S,e,s⟩=>[.ptr 1 0, .sv (.string s)]
 h:=λ⟨S,e,s⟩=>mkO S e 2 3
 m:=4
 pre:=λ⟨S,e,s⟩=>S.length<1000
 sel:=some zk7
 r:=λ⟨S,e,s⟩=> .tup [.sv (.int .i64 (fnI (findF s S 0))), .sv (.bool (findF s S 0).isSome)]
 h':=λ⟨S,e,s⟩=>mkO S e 2 3
 m':=4
 g:=λ_=>none
def zq4:za4.σ->WayF:=λ⟨S,e,s⟩=>{
 ann:=λ_ _ _=>some {σ:=Nat,pre:=λj=>j<=S.length/\findF s (S.drop j) j=findF s S 0,t:=λj=>[(6, .sv (.int .i64 (j:Int)))],h:=λ_=>[],more:=0,μ:=λj=>S.length- j,keep:=[0,1,4,5]}}
def zbu(S:List AT) (t:Int):ByteArray:=if t<0\/S.length<=t then mkS []else match S[t.toNat]? with
 |some a=>if a.nm=mkS []then z2y a.k else a.nm
 |none=>mkS []
def zvd:Ct where
 σ:=List AT×Int
 args:=λ⟨S,t⟩=>[.agg [.ssl 1 0 S.length 10 2], .sv (.int .i64 t)]
 h:=λ⟨S,t⟩=>[(1, .row 54 0 (z00 AT.cells S))]
 m:=3
 pre:=λ⟨S,t⟩=>S.length<1000
 r:=λ⟨S,t⟩=> .sv (.string (zbu S t))
 h':=λ⟨S,t⟩=>[(1, .row 54 0 (z00 AT.cells S))]
 m':=3
 g:=λ_=>none
def z1u(a b:ByteArray):ByteArray:=if a=mkS []\/b=mkS []then a++b else a++mkS [46]++b
def j6c(l:List AV):Option (ByteArray×ByteArray):=match l with
  | [a,b]=>match gs a with
    | some a=>match gs b with
      |some b=>some (a,b)
      |none=>none
    |none=>none
  |_=>none
def zdt:Ct:={ctQ (ByteArray×ByteArray) (λ⟨a,b⟩=>[.sv (.string a), .sv (.string b)]) (λ⟨a,b⟩=>a.size<1000000/\b.size<1000000) (λ_=>{}) (λ⟨a,b⟩=> .sv (.string (z1u a b)))with find:=some λl _=>j6c l}
def isLt(c:Nat):Bool:=(c==95)|| (decide (65<=c)&&decide (c<=90))|| (decide (97<=c)&&decide (c<=122))
def zja(c:Nat):Bool:=decide (48<=c)&&decide (c<=57)
def z6d:Ct:=ctS Int (λc=>[.int .u8 c]) f1i (λc=>0<=c/\c<256) (λ_=>{}) λc=> .sv (.bool (isLt c.toNat))
def za3:Ct:=ctS Int (λc=>[.int .u8 c]) f1i (λc=>0<=c/\c<256) (λ_=>{}) λc=> .sv (.bool (zja c.toNat))
def ptC(s:ByteArray) (i:Nat):Bool:=isLt (bat s i)|| (decide (0<i)&&zja (bat s i))
def ptA(s:ByteArray):Nat->Nat->Bool
 |0,_=>true
 |f+1,i=>if i<s.size then ptC s i&&ptA s f (i+1)else true
def z1v(s:ByteArray):Bool:=ptA s s.size 0&&decide (0<s.size)
def z8m:Ct:={ctQ ByteArray (λs=>[.sv (.string s)]) (λs=>s.size<1000000) (λ_=>{}) (λs=> .sv (.bool (z1v s)))with find:=some λl _=>match l with
 | [a]=>gs a
 |_=>none}
def zqa:z8m.σ->WayF:=λs=>{
 ann:=λ_ _ _=>some {σ:=Nat,pre:=λj=>j<=s.size/\ptA s (s.size- j) j=ptA s s.size 0,t:=λj=>[(3, .sv (.int .i64 (j:Int)))],h:=λ_=>[],more:=0,μ:=λj=>s.size- j,keep:=[0,2]}}
def zdn(s:ByteArray):Nat->Nat->ByteArray->Bool
 |0,_,_=>true
 |f+1,i,q=>if i<s.size/\bat s i≠46 then zdn s f (i+1) (q++s.extract i (i+1))else if z1v q=true then zdn s f (i+1) (mkS [])else false
def z2p(s:ByteArray):Bool:=zdn s (s.size+1) 0 (mkS [])
def z7g:Ct:={ctQ ByteArray (λs=>[.sv (.string s)]) (λs=>s.size<100000) (λ_=>{}) (λs=> .sv (.bool (z2p s)))with find:=some λl _=>match l with
 | [a]=>gs a
 |_=>none}
def zia:z7g.σ->WayF:=λs=>{
 ann:=λ_ _ _=>some {σ:=Nat×ByteArray,pre:=λ⟨j,q⟩=>j<=s.size+1/\q.size<=j/\zdn s (s.size+1- j) j q=z2p s,t:=λ⟨j,q⟩=>[(3, .sv (.string q)),(4, .sv (.int .i64 (j:Int)))],h:=λ_=>[],more:=0,μ:=λ⟨j,q⟩=>s.size+1- j,keep:=[0,2]}}
def z4m(s:ByteArray):Nat->ByteArray
 |0=>mkS []
 |i+1=>if bat s i=46 then s.extract 0 i else z4m s i
def z4n:Ct:={ctQ ByteArray (λs=>[.sv (.string s)]) (λs=>s.size<1000000) (λ_=>{}) (λs=> .sv (.string (z4m s s.size)))with find:=some λl _=>match l with
 | [a]=>gs a
 |_=>none}
def zca:z4n.σ->WayF:=λs=>{
 ann:=λ_ _ _=>some {σ:=Nat,pre:=λj=>j<=s.size/\z4m s j=z4m s s.size,t:=λj=>[(3, .sv (.int .i64 ((j:Int)- 1)))],h:=λ_=>[],more:=0,μ:=λj=>j,keep:=[0,2]}}
def zhp(s:ByteArray):Nat->Nat->Bool
 |0,_=>false
 |f+1,i=>if i<s.size then decide (bat s i=46)||zhp s f (i+1)else false
def zpc(s:ByteArray):Bool:=zhp s s.size 0
def z10(nm sp:ByteArray):ByteArray:=if zpc nm=true then nm else z1u sp nm
def whE(nm sp:ByteArray) (e:Int):Int:=if nm=mkS []\/z2p (z10 nm sp)=false then faE e 6 else e
def zff(l:List AV) (h:T AO):Option (Sel (List AT×Int×ByteArray×ByteArray)):=match l with
  | [.ptr id _,a,b]=>match mkE h id with
    | some e=>match gs a with
      | some a=>match gs b with
        |some b=>some ⟨List AT,λS=>(S,e,a,b)⟩
        |none=>none
      |none=>none
    |none=>none
  |_=>none
def z4s:Ct where
 σ:=List AT×Int×ByteArray×ByteArray
 args:=λ⟨S,e,a,b⟩=>[.ptr 1 0, .sv (.string a), .sv (.string b)]
 h:=λ⟨S,e,a,b⟩=>mkO S e 2 3
 m:=4
 pre:=λ⟨S,e,a,b⟩=>a.size<10000/\b.size<50000
 sel:=some zff
 r:=λ⟨S,e,a,b⟩=> .sv (.string (z10 a b))
 h':=λ⟨S,e,a,b⟩=>mkO S (whE a b e) 2 3
 m':=4
 g:=λ_=>none
def zih:z4s.σ->WayF:=λ⟨S,e,a,b⟩=>{
 ann:=λ_ _ _=>some {σ:=Nat×ByteArray,pre:=λ⟨j,q⟩=>j<=a.size/\((if zhp a (a.size- j) j=true then a else q)=z10 a b),t:=λ⟨j,q⟩=>[(7, .sv (.string q)),(8, .sv (.int .i64 (j:Int)))],h:=λ_=>[],more:=0,μ:=λ⟨j,q⟩=>a.size- j,keep:=[0,1,2,6]}}
def z0e(s:ByteArray) (g:GJ):Option GJ:=if g.k=6 then z2v s g.nm g.l else none
def z3y:Ct:=ctQ (GJ×ByteArray) (λ⟨g,s⟩=>[g.av, .sv (.string s)]) (λ⟨g,s⟩=>g.wf) (λ⟨g,s⟩=>gM g) λ⟨g,s⟩=> .tup [((z0e s g).getD zJ).av, .sv (.bool (z0e s g).isSome)]
def zq5:z3y.σ->WayF:=λ⟨g,s⟩=>{
 ann:=λ_ _ _=>some {σ:=Nat,pre:=λj=>j<=g.nm.length/\(if g.k=6 then z2v s (g.nm.drop j) (g.l.drop j)else none)=z0e s g,t:=λj=>[(6, .sv (.int .i64 (j:Int)))],h:=λ_=>[],more:=0,μ:=λj=>g.nm.length- j,keep:=[1,2,4,5]}}
def woR(g:GJ) (s:ByteArray) (must:Bool) (e:Int):ByteArray×Int:=match z0e s g with
 |none=>if must=true then(mkS [],faE e 2)else(mkS [],e)
 |some t=>if t.k=4 then(t.s,e)else(mkS [],faE e 2)
def z5p:Ct where
 σ:=List AT×Int×GJ×ByteArray×Bool
 args:=λ⟨S,e,g,s,b⟩=>[.ptr 1 0,g.av, .sv (.string s), .sv (.bool b)]
 h:=λ⟨S,e,g,s,b⟩=>mkO S e 2 3
 m:=4
 pre:=λ⟨S,e,g,s,b⟩=>g.wf
 mem:=λ⟨S,e,g,s,b⟩=>gM g
 r:=λ⟨S,e,g,s,b⟩=> .sv (.string (woR g s b e).1)
 h':=λ⟨S,e,g,s,b⟩=>mkO S (woR g s b e).2 2 3
 m':=4
 g:=λ_=>none
def ze3(S:List AT) (e0 e:Int):qla P (λ_=>none) Try.f44 z1h (λ_=>{}) ⟨S,e0,e⟩=(True->(decide (e0=(0:Int))=true->List.length S=List.length S/\faE e0 e=e/\z00 AT.cells S=z00 AT.cells S/\True)/\(decide (e0=(0:Int))=false->List.length S=List.length S/\faE e0 e=e0/\z00 AT.cells S=z00 AT.cells S/\True)):=by kernel_rfl
def zil(S:List AT) (e:Int) (t:AT):qla P (qgc [(44,z1h)]) Try.f50 zoq (λ_=>{}) ⟨S,e,t⟩=(True->(decide ((60:Int)<=(↑(length S):Int))=true->∃(b:List AT),(3:Int)=(3:Int)/\length b=length S/\e=e/\z00 AT.cells b=z00 AT.cells S/\True/\adR S=(0:Int)/\length (adS S t)=length b/\adE S e=faE e (3:Int)/\z00 AT.cells (adS S t)=z00 AT.cells b/\True)/\(decide ((60:Int)<=(↑(length S):Int))=false->length (z00 AT.cells S)=length S*(10:Nat)/\(length S+nat_lit 1)*(160:Nat)<=(140737488355328:Nat)/\((-9223372036854775808:Int)<=(↑(length S+nat_lit 1):Int)- (1:Int)/\(↑(length S+nat_lit 1):Int)- (1:Int)<=(9223372036854775807:Int))/\adR S=(↑(length S+nat_lit 1):Int)- (1:Int)/\length (adS S t)=length S+nat_lit 1/\adE S e=e/\z00 AT.cells (adS S t)=z00 AT.cells S++[int i64 (AT.k t),string (AT.nm t),slice (Prod.fst (AT.al t)) (Prod.fst (Prod.snd (AT.al t))) (Prod.snd (Prod.snd (AT.al t))),int i64 (AT.it t),slice (Prod.fst (AT.sy t)) (Prod.fst (Prod.snd (AT.sy t))) (Prod.snd (Prod.snd (AT.sy t))),bool (AT.hd t),string (AT.df t),int i64 (AT.sz t),slice (Prod.fst (AT.f t)) (Prod.fst (Prod.snd (AT.f t))) (Prod.snd (Prod.snd (AT.f t))),slice (Prod.fst (AT.br t)) (Prod.fst (Prod.snd (AT.br t))) (Prod.snd (Prod.snd (AT.br t)))]/\True)):=by kernel_rfl
section
variable (x0:ByteArray) (x1:Nat)
 abbrev zun:=x1<=14/\zht x0 (drop x1 kinds) x1=z0d x0
 abbrev zvl:=Jb ((↑x1:Int)+1)
 def zxu:=zvl x1/\z0d x0=(↑x1:Int)+1/\True
 def zxt:=zvl x1/\∃(i0:Nat),x0=x0/\(↑i0:Int)=(↑x1:Int)+1/\(zun x0 i0)/\(14:Nat)- i0<14- x1/\True
 def zxs:=(0<=(↑x1:Int)/\(↑x1:Int)<(↑(nat_lit 14):Int))/\∃i0,(∀(i1:Nat) (i2:Value),[string i0][i1]? =some i2->[string (mkS [110,117,108,108]),string (mkS [98,111,111,108,101,97,110]),string (mkS [105,110,116]),string (mkS [108,111,110,103]),string (mkS [102,108,111,97,116]),string (mkS [100,111,117,98,108,101]),string (mkS [98,121,116,101,115]),string (mkS [115,116,114,105,110,103]),string (mkS [114,101,99,111,114,100]),string (mkS [101,110,117,109]),string (mkS [102,105,120,101,100]),string (mkS [97,114,114,97,121]),string (mkS [109,97,112]),string (mkS [117,110,105,111,110])][nat_lit 0+toNat (↑x1:Int)*1+i1]? =some i2)/\Ji (i0=x0) (zxu x0 x1) (zxt x0 x1)
 def zxr:=Ji ((↑x1:Int)<Int.ofNat (nat_lit 14)) (zxs x0 x1) (z0d x0=0/\True)
 def zxq:=(∃(i0:Nat),x0=x0/\(↑i0:Int)=0/\(zun x0 i0)/\True)/\∀(i1:Nat),zun x0 i1->zxr x0 i1
end
def zel(s:ByteArray):qla P (λ_=>none) Try.f49 za7 (zq6) s=(True->zxq s):=by kernel_rfl
def zjb:=λs=>Eq.trans (zel s) (by delta Ji Jb Jt Jf zun zvl zxu zxt zxs zxr zxq;exact rfl)
section
variable (x0:Int)
 abbrev zxx:=(0<=x0/\x0<(↑(nat_lit 15):Int))/\∃i0,(∀(i1:Nat) (i2:Value),[string i0][i1]? =some i2->[string (mkS []),string (mkS [110,117,108,108]),string (mkS [98,111,111,108,101,97,110]),string (mkS [105,110,116]),string (mkS [108,111,110,103]),string (mkS [102,108,111,97,116]),string (mkS [100,111,117,98,108,101]),string (mkS [98,121,116,101,115]),string (mkS [115,116,114,105,110,103]),string (mkS [114,101,99,111,114,100]),string (mkS [101,110,117,109]),string (mkS [102,105,120,101,100]),string (mkS [97,114,114,97,121]),string (mkS [109,97,112]),string (mkS [117,110,105,111,110])][nat_lit 0+toNat x0*1+i1]? =some i2)/\z2y x0=i0/\True
 def zxw:=Ji (14<x0) (z2y x0=mkS []/\True) (zxx x0)
 def zxv:=Ji (x0<1) (z2y x0=mkS []/\True) (zxw x0)
end
def zch(k:Int):qla P (λ_=>none) Try.f92 ziu (λ_=>{}) k=(True->zxv k):=by kernel_rfl
def zfx:=λk=>Eq.trans (zch k) (by delta Ji Jt Jf zxx zxw zxv;exact rfl)
section
variable (x0:ByteArray) (x1:List AT) (x2:Int) (x3:Nat) (x4:Int) (x5:Prop)
 abbrev zqh:=length x1=length x1/\x2=x2/\z00 AT.cells x1=z00 AT.cells x1/\x5
 def zup:=x3<=length x1/\findF x0 (drop x3 x1) x3=findF x0 x1 0
 def zuo:=Jb ((↑x3:Int)+1)/\∃(i0:Nat),x0=x0/\(↑i0:Int)=(↑x3:Int)+1/\zqh x1 x2 ((zup x0 x1 i0)/\length x1- i0<length x1- x3/\True)
 def zy2:=Ji (x2<=11) (fnI (findF x0 x1 0)=(↑x3:Int)/\Option.isSome (findF x0 x1 0)=true/\zqh x1 x4 True) (zuo x0 x1 x4 x3)
 def zy1:=Ji (9<=x2) (zy2 x0 x1 x2 x3 x4) (zuo x0 x1 x4 x3)
 def zy0:=(0<=(↑x3:Int)/\(↑x3:Int)<(↑(length x1):Int))/\∃(i0:Int),∃i1,∃i2,∃(i3:Nat),∃(i4:Nat),∃(i5:Int),∃i6,∃(i7:Nat),∃(i8:Nat),∃(i9:Bool),∃i10,∃(i11:Int),∃i12,∃(i13:Nat),∃(i14:Nat),∃i15,∃(i16:Nat),∃(i17:Nat),(∀(i18:Nat) (i19:Value),[int i64 i0,string i1,slice i2 i3 i4,int i64 i5,slice i6 i7 i8,bool i9,string i10,int i64 i11,slice i12 i13 i14,slice i15 i16 i17][i18]? =some i19->(z00 AT.cells x1)[nat_lit 0+toNat (↑x3:Int)*nat_lit 10+i18]? =some i19)/\Ji (i1=x0) (zy1 x0 x1 i0 x3 x2) (zuo x0 x1 x2 x3)
 def zy3:=fnI (findF x0 x1 0)=0/\Option.isSome (findF x0 x1 0)=false/\zqh x1 x2 True
 def zxz:=Ji ((↑x3:Int)<(↑(length x1):Int)) (zy0 x0 x1 x2 x3) (zy3 x0 x1 x2)
 def zxy:=(∃(i0:Nat),x0=x0/\(↑i0:Int)=0/\zqh x1 x2 ((zup x0 x1 i0)/\True))/\∀(i1:Nat),zup x0 x1 i1->zxz x0 x1 x2 i1
end
def zaj(S:List AT) (e:Int) (s:ByteArray):qla P (λ_=>none) Try.f68 za4 (zq4) ⟨S,e,s⟩=(length S<1000->zxy s S e):=by kernel_rfl
def ze5:=λS e s=>Eq.trans (zaj S e s) (by delta Ji Jb Jt Jf zqh zup zuo zy2 zy1 zy0 zy3 zxz zxy;exact rfl)
def zpz(S:List AT) (t:Int):qla P (qgc [(92,ziu)]) Try.f70 zvd (λ_=>{}) ⟨S,t⟩=(length S<(1000:Nat)->(decide (t<(0:Int))=true->zbu S t=mkS []/\z00 AT.cells S=z00 AT.cells S/\True)/\(decide (t<(0:Int))=false->(decide ((↑(length S):Int)<=t)=true->zbu S t=mkS []/\z00 AT.cells S=z00 AT.cells S/\True)/\(decide ((↑(length S):Int)<=t)=false->((0:Int)<=t/\t<(↑(length S):Int))/\∃(s:ByteArray),(∀(j:Nat) (v:Value),[string s][j]? =some v->(z00 AT.cells S)[nat_lit 0+toNat t*nat_lit 10+(1:Nat)+j]? =some v)/\((!decide (s=mkS []))=true->((0:Int)<=t/\t<(↑(length S):Int))/\∃(s:ByteArray),(∀(j:Nat) (v:Value),[string s][j]? =some v->(z00 AT.cells S)[nat_lit 0+toNat t*nat_lit 10+(1:Nat)+j]? =some v)/\zbu S t=s/\z00 AT.cells S=z00 AT.cells S/\True)/\((!decide (s=mkS []))=false->((0:Int)<=t/\t<(↑(length S):Int))/\∃(n:Int),(∀(j:Nat) (v:Value),[int i64 n][j]? =some v->(z00 AT.cells S)[nat_lit 0+toNat t*nat_lit 10+(0:Nat)+j]? =some v)/\∃(s:Int),s=n/\True/\zbu S t=z2y s/\z00 AT.cells S=z00 AT.cells S/\True)))):=by kernel_rfl
def join_eq(a b:ByteArray):qla P (λ_=>none) Try.f69 zdt (λ_=>{}) ⟨a,b⟩=(size a<(1000000:Nat)/\size b<(1000000:Nat)->(decide (a=mkS [])=true->size a+size b<=(9223372036854775807:Nat)/\z1u a b=a++b/\True)/\(decide (a=mkS [])=false->(decide (b=mkS [])=true->size a+size b<=(9223372036854775807:Nat)/\z1u a b=a++b/\True)/\(decide (b=mkS [])=false->size a+size (mkS [(46:Nat)])<=(9223372036854775807:Nat)/\size (a++mkS [(46:Nat)])+size b<=(9223372036854775807:Nat)/\z1u a b=a++mkS [(46:Nat)]++b/\True))):=by kernel_rfl
def zb2(c:Int):qla P (λ_=>none) Try.f104 z6d (λ_=>{}) c=((0:Int)<=c/\c<(256:Int)->(decide ((97:Int)<=c)=true->(decide (c<=(122:Int))=true->isLt (toNat c)=true/\True)/\(decide (c<=(122:Int))=false->(decide ((65:Int)<=c)=true->(decide (c<=(90:Int))=true->isLt (toNat c)=true/\True)/\(decide (c<=(90:Int))=false->isLt (toNat c)=decide (c=(95:Int))/\True))/\(decide ((65:Int)<=c)=false->isLt (toNat c)=decide (c=(95:Int))/\True)))/\(decide ((97:Int)<=c)=false->(decide ((65:Int)<=c)=true->(decide (c<=(90:Int))=true->isLt (toNat c)=true/\True)/\(decide (c<=(90:Int))=false->isLt (toNat c)=decide (c=(95:Int))/\True))/\(decide ((65:Int)<=c)=false->isLt (toNat c)=decide (c=(95:Int))/\True))):=by kernel_rfl
def ze0(c:Int):qla P (λ_=>none) Try.f105 za3 (λ_=>{}) c=((0:Int)<=c/\c<(256:Int)->(decide ((48:Int)<=c)=true->zja (Int.toNat c)=decide (c<=(57:Int))/\True)/\(decide ((48:Int)<=c)=false->zja (Int.toNat c)=false/\True)):=by kernel_rfl
section
variable (x0:ByteArray) (x1:Nat) (x2:Prop)
 abbrev zuq:=x1<=size x0/\ptA x0 (size x0- x1) x1=ptA x0 (size x0) 0
 abbrev zg1:=(↑(bat x0 (toNat (↑x1:Int))):Int)
 def zvn:=(0<=(↑x1:Int)/\(↑x1:Int)<(↑(size x0):Int))/\(zg1 x0 x1)=(zg1 x0 x1)/\(0<=(zg1 x0 x1)/\(zg1 x0 x1)<256)/\x2
 def zvm:=Jb ((↑x1:Int)+1)/\∃(i0:Nat),x0=x0/\(↑i0:Int)=(↑x1:Int)+1/\(zuq x0 i0)/\size x0- i0<size x0- x1/\True
 def zy8:=zvn x0 x1 (((!zja (toNat (zg1 x0 x1)))=true->z1v x0=false/\True)/\((!zja (toNat (zg1 x0 x1)))=false->zvm x0 x1))
 def zy7:=Ji ((↑x1:Int)=0) (z1v x0=false/\True) (zy8 x0 x1)
 def zy6:=zvn x0 x1 (((!isLt (toNat (zg1 x0 x1)))=true->zy7 x0 x1)/\((!isLt (toNat (zg1 x0 x1)))=false->zvm x0 x1))
 def zy5:=Ji ((↑x1:Int)<(↑(size x0):Int)) (zy6 x0 x1) (z1v x0=decide (0<(↑(size x0):Int))/\True)
 def zy4:=(∃(i0:Nat),x0=x0/\(↑i0:Int)=0/\(zuq x0 i0)/\True)/\∀(i1:Nat),zuq x0 i1->zy5 x0 i1
end
def zf0(s:ByteArray):qla P (qgc [(104,z6d),(105,za3)]) Try.f94 z8m (zqa) s=(size s<1000000->zy4 s):=by kernel_rfl
def zjw:=λs=>Eq.trans (zf0 s) (by delta Ji Jb Jt Jf zuq zg1 zvn zvm zy8 zy7 zy6 zy5 zy4;exact rfl)
section
variable (x0:ByteArray) (x1 x2:Nat×ByteArray)
 abbrev zur:=x1.1<=size x0+1/\size x1.2<=x1.1/\zdn x0 (size x0+1- x1.1) x1.1 x1.2=z2p x0
 abbrev zus:=Jb ((↑x1.1:Int)+1)
 def zvp:=(↑x1.1:Int)=(↑x2.1:Int)+1/\(zur x0 x1)/\size x0+1- x1.1<size x0+1- x2.1/\True
 def zyd:=zus x1/\(0<=(↑x1.1:Int)/\(↑x1.1:Int)<=(↑x1.1:Int)+1/\(↑x1.1:Int)+1<=(↑(size x0):Int))/\size x1.2+size (ByteArray.extract x0 (toNat (↑x1.1:Int)) (toNat ((↑x1.1:Int)+1)))<=9223372036854775807/\zus x1/\∃(i0:Nat×ByteArray),x0=x0/\i0.2=x1.2++ByteArray.extract x0 (toNat (↑x1.1:Int)) (toNat ((↑x1.1:Int)+1))/\zvp x0 i0 x1
 def zye:=zus x1/\∃(i0:Nat×ByteArray),x0=x0/\i0.2=mkS []/\zvp x0 i0 x1
 def zvo:=x1.2=x1.2/\size x1.2<1000000/\((!z1v x1.2)=true->z2p x0=false/\True)/\((!z1v x1.2)=false->zye x0 x1)
 def zyc:=(0<=(↑x1.1:Int)/\(↑x1.1:Int)<(↑(size x0):Int))/\((!decide ((↑(bat x0 (toNat (↑x1.1:Int))):Int)=46))=true->zyd x0 x1)/\((!decide ((↑(bat x0 (toNat (↑x1.1:Int))):Int)=46))=false->zvo x0 x1)
 def zyb:=Ji ((↑x1.1:Int)<(↑(size x0):Int)) (zyc x0 x1) (zvo x0 x1)
 def zya:=Ji ((↑x1.1:Int)<=(↑(size x0):Int)) (zyb x0 x1) (z2p x0=true/\True)
 def zy9:=(∃(i0:Nat×ByteArray),x0=x0/\i0.2=mkS []/\(↑i0.1:Int)=0/\(zur x0 i0)/\True)/\∀(i1:Nat×ByteArray),zur x0 i1->zya x0 i1
end
def zbc(s:ByteArray):qla P (qgc [(94,z8m)]) Try.f93 z7g (zia) s=(size s<100000->zy9 s):=by kernel_rfl
def zf1:=λs=>Eq.trans (zbc s) (by delta Ji Jb Jt Jf zur zus zvp zyd zye zvo zyc zyb zya zy9;exact rfl)
section
variable (x0:ByteArray) (x1:Nat)
 abbrev zut:=x1<=size x0/\z4m x0 x1=z4m x0 (size x0)
 abbrev zuu:=0<=(↑x1:Int)- 1
 def zyj:=(zuu x1/\(↑x1:Int)- 1<=(↑(size x0):Int))/\z4m x0 (size x0)=ByteArray.extract x0 0 (toNat ((↑x1:Int)- 1))/\True
 def zyi:=Jb ((↑x1:Int)- 1- 1)/\∃(i0:Nat),x0=x0/\(↑i0:Int)- 1=(↑x1:Int)- 1- 1/\(zut x0 i0)/\i0<x1/\True
 def zyh:=(zuu x1/\(↑x1:Int)- 1<(↑(size x0):Int))/\Ji ((↑(bat x0 (toNat ((↑x1:Int)- 1))):Int)=46) (zyj x0 x1) (zyi x0 x1)
 def zyg:=Ji (zuu x1) (zyh x0 x1) (z4m x0 (size x0)=mkS []/\True)
 def zyf:=Jb ((↑(size x0):Int)- 1)/\(∃(i0:Nat),x0=x0/\(↑i0:Int)- 1=(↑(size x0):Int)- 1/\(zut x0 i0)/\True)/\∀(i1:Nat),zut x0 i1->zyg x0 i1
end
def z8j(s:ByteArray):qla P (λ_=>none) Try.f73 z4n (zca) s=(size s<1000000->zyf s):=by kernel_rfl
def za0:=λs=>Eq.trans (z8j s) (by delta Ji Jb Jt Jf zut zuu zyj zyi zyh zyg zyf;exact rfl)
section
variable (x0 x1:ByteArray) (x2:List AT) (x3:Int) (x4:Nat×ByteArray) (x5:Prop) (x6:Nat×ByteArray)
 abbrev zvs:=x4.1<=size x0/\(if zhp x0 (size x0- x4.1) x4.1=true then x0 else x4.2)=z10 x0 x1
 def zvq:=length x2=length x2/\x3=x3/\z00 AT.cells x2=z00 AT.cells x2/\(zvs x0 x1 x4)/\x5
 abbrev zkk:=Jb ((↑x4.1:Int)+1)
 def zkl:=x0=x0/\(↑x4.1:Int)=(↑x6.1:Int)+1/\zvq x1 x0 x2 x3 x4 (size x1- x4.1<size x1- x6.1/\True)
 def zyp:=zkk x4/\∃(i0:Nat×ByteArray),x0=x0/\i0.2=x0/\zkl x1 x0 x2 x3 i0 x4
 def zyo:=zkk x4/\∃(i0:Nat×ByteArray),x0=x0/\i0.2=x4.2/\zkl x1 x0 x2 x3 i0 x4
 def zym:=(0<=(↑x4.1:Int)/\(↑x4.1:Int)<(↑(size x0):Int))/\Ji ((↑(bat x0 (toNat (↑x4.1:Int))):Int)=46) (zyp x0 x1 x2 x3 x4) (zyo x0 x1 x2 x3 x4)
 def zvr:=∃(i0:List AT),(6:Int)=6/\length i0=length x2/\x3=x3/\z00 AT.cells i0=z00 AT.cells x2/\True/\z10 x0 x1=x4.2/\length x2=length i0/\whE x0 x1 x3=faE x3 6/\z00 AT.cells x2=z00 AT.cells i0/\True
 def zyq:=x4.2=x4.2/\size x4.2<100000/\((!z2p x4.2)=true->zvr x0 x1 x2 x3 x4)/\((!z2p x4.2)=false->z10 x0 x1=x4.2/\length x2=length x2/\whE x0 x1 x3=x3/\z00 AT.cells x2=z00 AT.cells x2/\True)
 def zyn:=Ji (x0=mkS []) (zvr x0 x1 x2 x3 x4) (zyq x0 x1 x2 x3 x4)
 def zyl:=Ji ((↑x4.1:Int)<(↑(size x0):Int)) (zym x0 x1 x2 x3 x4) (zyn x0 x1 x2 x3 x4)
 def zyk:=x0=x0/\x1=x1/\(size x0<1000000/\size x1<1000000)/\(∃(i0:Nat×ByteArray),x1=x1/\i0.2=z1u x0 x1/\x0=x0/\(↑i0.1:Int)=0/\zvq x1 x0 x2 x3 i0 True)/\∀(i1:Nat×ByteArray),zvs x1 x0 i1->zyl x1 x0 x2 x3 i1
end
def z98(S:List AT) (e:Int) (a b:ByteArray):qla P (qgc [(69,zdt),(93,z7g),(44,z1h)]) Try.f72 z4s (zih) ⟨S,e,a,b⟩=(size a<10000/\size b<50000->zyk b a S e):=by kernel_rfl
def zcf:=λS e a b=>Eq.trans (z98 S e a b) (by delta Ji Jb Jt Jf zvs zvq zkk zkl zyp zyo zym zvr zyq zyn zyl zyk;exact rfl)
section
variable (x0:ByteArray) (x1:GJ) (x2:Nat) (x3:Prop)
 abbrev zvu:=x2<=length (GJ.nm x1)/\(if GJ.k x1=6 then z2v x0 (drop x2 (GJ.nm x1)) (drop x2 (GJ.l x1))else none)=z0e x0 x1
 def zvt:=GJ.k x1=GJ.k x1/\GJ.n x1=GJ.n x1/\GJ.s x1=GJ.s x1/\(GJ.y x1).1=(GJ.y x1).1/\(GJ.y x1).2.1=(GJ.y x1).2.1/\(GJ.y x1).2.2=(GJ.y x1).2.2/\(GJ.x x1).1=(GJ.x x1).1/\(GJ.x x1).2.1=(GJ.x x1).2.1/\(GJ.x x1).2.2=(GJ.x x1).2.2/\(∀i0,True/\GJ.ok x1 i0->True/\GJ.ok x1 i0)/\(zvu x0 x1 x2)/\x3
 abbrev zkm:=(↑x2:Int)<(↑(GJ.x x1).2.1:Int)
 abbrev zkn:=(↑x2:Int)<(↑(GJ.y x1).2.1:Int)
 abbrev z6r:=GJ.y (Option.getD (z0e x0 x1) zJ)
 abbrev z6s:=GJ.x (Option.getD (z0e x0 x1) zJ)
 def zyw:=(0<=(↑x2:Int)/\zkn x1 x2)/\(GJ.y x1).1≠noA/\∃(i0:Int),∃(i1:Int),∃i2,∃i3,∃(i4:Nat),∃(i5:Nat),∃i6,∃(i7:Nat),∃(i8:Nat),(∀i9,True/\GJ.ok x1 i9->q3i i9 (adr (GJ.y x1).1 (toNat (↑x2:Int)*5)) [int i64 i0,int i64 i1,string i2,slice i3 i4 i5,slice i6 i7 i8])/\GJ.k (Option.getD (z0e x0 x1) zJ)=i0/\GJ.n (Option.getD (z0e x0 x1) zJ)=i1/\GJ.s (Option.getD (z0e x0 x1) zJ)=i2/\(z6r x0 x1).1=i3/\(z6r x0 x1).2.1=i4/\(z6r x0 x1).2.2=i5/\(z6s x0 x1).1=i6/\(z6s x0 x1).2.1=i7/\(z6s x0 x1).2.2=i8/\Option.isSome (z0e x0 x1)=true/\True
 def zyx:=Jb ((↑x2:Int)+1)/\∃(i0:Nat),x0=x0/\(↑i0:Int)=(↑x2:Int)+1/\zvt x0 x1 i0 (length (GJ.nm x1)- i0<length (GJ.nm x1)- x2/\True)
 def zyv:=(0<=(↑x2:Int)/\zkm x1 x2)/\(GJ.x x1).1≠noA/\∃i0,(∀i1,True/\GJ.ok x1 i1->q3i i1 (adr (GJ.x x1).1 (toNat (↑x2:Int)*1)) [string i0])/\Ji (i0=x0) (zyw x0 x1 x2) (zyx x0 x1 x2)
 def zuv:=GJ.k (Option.getD (z0e x0 x1) zJ)=0/\GJ.n (Option.getD (z0e x0 x1) zJ)=0/\GJ.s (Option.getD (z0e x0 x1) zJ)=mkS []/\(z6r x0 x1).1=noA/\(z6r x0 x1).2.1=0/\(z6r x0 x1).2.2=0/\(z6s x0 x1).1=noA/\(z6s x0 x1).2.1=0/\(z6s x0 x1).2.2=0/\Option.isSome (z0e x0 x1)=false/\True
 abbrev zyu:=Ji (zkn x1 x2) (zyv x0 x1 x2) (zuv x0 x1)
 abbrev zyt:=Ji (zkm x1 x2) (zyu x0 x1 x2) (zuv x0 x1)
 def zys:=Ji (GJ.k x1=6) (zyt x0 x1 x2) (zuv x0 x1)
 def zyr:=(∃(i0:Nat),x0=x0/\(↑i0:Int)=0/\zvt x0 x1 i0 True)/\∀(i2:Nat),zvu x0 x1 i2->zys x0 x1 i2
end
def zef(g:GJ) (s:ByteArray):qla P (λ_=>none) Try.f47 z3y (zq5) ⟨g,s⟩=(GJ.wf g->(∃(p:Pub),True/\GJ.ok g p)->zyr s g):=by kernel_rfl
def zj4:=λg s=>Eq.trans (zef g s) (by delta Ji Jb Jt Jf zvu zvt zkm zkn z6r z6s zyw zyx zyv zuv zyu zyt zys zyr;exact rfl)
section
variable (x0:GJ×ByteArray) (x1:List AT) (x2:Int) (x3:GJ) (x4:ByteArray) (x5:Bool)
 def zz1:=(woR x3 x4 x5 x2).1=mkS []/\length x1=length x1/\(woR x3 x4 x5 x2).2=x2/\z00 AT.cells x1=z00 AT.cells x1/\True
 def zvw:=∃(i0:List AT),(2:Int)=2/\length i0=length x1/\x2=x2/\z00 AT.cells i0=z00 AT.cells x1/\True/\(woR x3 x4 x5 x2).1=mkS []/\length x1=length i0/\(woR x3 x4 x5 x2).2=faE x2 2/\z00 AT.cells x1=z00 AT.cells i0/\True
 def zz0:=(woR x3 x4 x5 x2).1=GJ.s (Option.getD (z0e x0.2 x0.1) zJ)/\length x1=length x1/\(woR x3 x4 x5 x2).2=x2/\z00 AT.cells x1=z00 AT.cells x1/\True
 def zyy:=((!decide (GJ.k (Option.getD (z0e x0.2 x0.1) zJ)=4))=true->zvw x1 x2 x3 x4 x5)/\((!decide (GJ.k (Option.getD (z0e x0.2 x0.1) zJ)=4))=false->zz0 x0 x1 x2 x3 x4 x5)
 def zvv:=((!Option.isSome (z0e x0.2 x0.1))=true->zvw x1 x2 x3 x4 x5)/\((!Option.isSome (z0e x0.2 x0.1))=false->zyy x0 x1 x2 x3 x4 x5)
 def zyz:=((!x5)=true->zz1 x1 x2 x3 x4 x5)/\((!x5)=false->zvv x0 x1 x2 x3 x4 x5)
end
def zci(S:List AT) (e:Int) (g:GJ) (s:ByteArray) (b:Bool):qla P (qgc [(47,z3y),(44,z1h)]) Try.f71 z5p (λ_=>{}) ⟨S,e,g,s,b⟩=(GJ.wf g->(∃(p:Pub),True/\GJ.ok g p)->∃(s_1:GJ×ByteArray),GJ.k s_1.1=GJ.k g/\GJ.n s_1.1=GJ.n g/\GJ.s s_1.1=GJ.s g/\(GJ.y s_1.1).1=(GJ.y g).1/\(GJ.y s_1.1).2.1=(GJ.y g).2.1/\(GJ.y s_1.1).2.2=(GJ.y g).2.2/\(GJ.x s_1.1).1=(GJ.x g).1/\(GJ.x s_1.1).2.1=(GJ.x g).2.1/\(GJ.x s_1.1).2.2=(GJ.x g).2.2/\s_1.2=s/\GJ.wf s_1.1/\(∀(p:Pub),True/\GJ.ok g p->GJ.ok s_1.1 p)/\((!Option.isSome (z0e s_1.2 s_1.1))=true->zyz s_1 S e g s b)/\((!Option.isSome (z0e s_1.2 s_1.1))=false->zvv s_1 S e g s b)):=by kernel_rfl
def zfz:=λS e g s b=>Eq.trans (zci S e g s b) (by delta zz1 zvw zz0 zyy zvv zyz;exact rfl)
section
variable (x0:SV) (x1:Int) (x2:List Int) (x3:Int) (x4:Prop)
 abbrev zvx:=x0.1=x0.1/\x0.2.1=x0.2.1/\x0.2.2=x0.2.2/\x4
 def zz4:=z0r x2 x1 x3=0/\zvx x0 (z06 x2 x1=x1/\True)
 def zz3:=Jb (x1+1)/\Jb (x1+1- 1)/\(0<=x1+1- 1/\x1+1- 1<(↑x0.2.1:Int))/\x0.1≠noA/\∃(i0:Int),(∀i1,True/\slP byV x0 x2 i1->q3i i1 (adr x0.1 (toNat (x1+1- 1)*1)) [int u8 i0])/\Jb (i0)/\x3≠0/\z0r x2 x1 x3=Int.tmod i0 x3/\zvx x0 (z06 x2 x1=x1+1/\True)
 def zz2:=Ji ((↑x0.2.1:Int)<=x1) (zz4 x0 x1 x2 x3) (zz3 x0 x1 x2 x3)
end
def zjt(x:SV) (L:List Int) (n m:Int):qla P (λ_=>none) Try.f51 zor (λ_=>{}) ⟨x,L,n,m⟩=(0<=n/\n<=(↑(length L):Int)/\0<m/\m<1000000/\z0p L->(∃(p:Pub),True/\slP byV x L p)->zz2 x n L m):=by kernel_rfl
def zpk:=λx L n m=>Eq.trans (zjt x L n m) (by delta Ji Jb Jt Jf zvx zz4 zz3 zz2;exact rfl)
def zju(x:SV) (L:List Int) (n:Int):qla P (λ_=>none) Try.f77 zit (λ_=>{}) ⟨x,L,n⟩=(True->(∃(p:Nat->Option Obj),True/\slP byV x L p)->decide ((↑(List.length L):Int)<=n)=decide ((↑(Prod.fst (Prod.snd x)):Int)<=n)/\Prod.fst x=Prod.fst x/\Prod.fst (Prod.snd x)=Prod.fst (Prod.snd x)/\Prod.snd (Prod.snd x)=Prod.snd (Prod.snd x)/\n=n/\True):=by kernel_rfl
def zke(s:ByteArray):qla P (λ_=>none) Try.f54 z8n (λ_=>{}) s=(True->s=s/\True):=by kernel_rfl
def zbr(u:Unit):qla P (λ_=>none) Try.f53 z4e (λ_=>{}) N3.two=(True->True):=by kernel_rfl
def zbs(u:Unit):qla P (λ_=>none) Try.f53 z4e (λ_=>{}) N3.three=(True->True):=by kernel_rfl
def zbt(u:Unit):qla P (λ_=>none) Try.f53 z4e (λ_=>{}) N3.four=(True->True):=by kernel_rfl
section
variable (x0:ByteArray) (x1:GJ) (x2:Nat) (x3:Prop)
 abbrev zvz:=x2<=length (GJ.nm x1)/\z2v x0 (drop x2 (GJ.nm x1)) (drop x2 (GJ.l x1))=z2v x0 (GJ.nm x1) (GJ.l x1)
 def zvy:=GJ.k x1=GJ.k x1/\GJ.n x1=GJ.n x1/\GJ.s x1=GJ.s x1/\(GJ.y x1).1=(GJ.y x1).1/\(GJ.y x1).2.1=(GJ.y x1).2.1/\(GJ.y x1).2.2=(GJ.y x1).2.2/\(GJ.x x1).1=(GJ.x x1).1/\(GJ.x x1).2.1=(GJ.x x1).2.1/\(GJ.x x1).2.2=(GJ.x x1).2.2/\(∀i0,True/\GJ.ok x1 i0->True/\GJ.ok x1 i0)/\(zvz x0 x1 x2)/\x3
 abbrev zw0:=(↑x2:Int)<(↑(GJ.x x1).2.1:Int)
 abbrev z53:=Option.getD (z2v x0 (GJ.nm x1) (GJ.l x1)) zJ
 def zz8:=(0<=(↑x2:Int)/\(↑x2:Int)<(↑(GJ.y x1).2.1:Int))/\(GJ.y x1).1≠noA/\∃(i0:Int),∃(i1:Int),∃i2,∃i3,∃(i4:Nat),∃(i5:Nat),∃i6,∃(i7:Nat),∃(i8:Nat),(∀i9,True/\GJ.ok x1 i9->q3i i9 (adr (GJ.y x1).1 (toNat (↑x2:Int)*5)) [int i64 i0,int i64 i1,string i2,slice i3 i4 i5,slice i6 i7 i8])/\GJ.k (z53 x0 x1)=i0/\GJ.n (z53 x0 x1)=i1/\GJ.s (z53 x0 x1)=i2/\(GJ.y (z53 x0 x1)).1=i3/\(GJ.y (z53 x0 x1)).2.1=i4/\(GJ.y (z53 x0 x1)).2.2=i5/\(GJ.x (z53 x0 x1)).1=i6/\(GJ.x (z53 x0 x1)).2.1=i7/\(GJ.x (z53 x0 x1)).2.2=i8/\Option.isSome (z2v x0 (GJ.nm x1) (GJ.l x1))=true/\True
 def zz9:=Jb ((↑x2:Int)+1)/\∃(i0:Nat),x0=x0/\(↑i0:Int)=(↑x2:Int)+1/\zvy x0 x1 i0 (length (GJ.nm x1)- i0<length (GJ.nm x1)- x2/\True)
 def zz7:=(0<=(↑x2:Int)/\zw0 x1 x2)/\(GJ.x x1).1≠noA/\∃i0,(∀i1,True/\GJ.ok x1 i1->q3i i1 (adr (GJ.x x1).1 (toNat (↑x2:Int)*1)) [string i0])/\Ji (i0=x0) (zz8 x0 x1 x2) (zz9 x0 x1 x2)
 def zza:=GJ.k (z53 x0 x1)=0/\GJ.n (z53 x0 x1)=0/\GJ.s (z53 x0 x1)=mkS []/\(GJ.y (z53 x0 x1)).1=noA/\(GJ.y (z53 x0 x1)).2.1=0/\(GJ.y (z53 x0 x1)).2.2=0/\(GJ.x (z53 x0 x1)).1=noA/\(GJ.x (z53 x0 x1)).2.1=0/\(GJ.x (z53 x0 x1)).2.2=0/\Option.isSome (z2v x0 (GJ.nm x1) (GJ.l x1))=false/\True
 abbrev zz6:=Ji (zw0 x1 x2) (zz7 x0 x1 x2) (zza x0 x1)
 def zz5:=(∃(i0:Nat),x0=x0/\(↑i0:Int)=0/\zvy x0 x1 i0 True)/\∀(i2:Nat),zvz x0 x1 i2->zz6 x0 x1 i2
end
def zj6(g:GJ) (s:ByteArray):qla P (λ_=>none) Try.f79 zuf (zxk) ⟨g,s⟩=(GJ.wf g->(∃(p:Pub),True/\GJ.ok g p)->zz5 s g):=by kernel_rfl
def get_eq:=λg s=>Eq.trans (zj6 g s) (by delta Ji Jb Jt Jf zvz zvy zw0 z53 zz8 zz9 zz7 zza zz6 zz5;exact rfl)
section
variable (x0:GJ) (x1:SV) (x2:Int) (x3:List Int) (x4:Prop) (x5:Int) (x6:GJ×ByteArray) (x7:List Int)
 abbrev zks:=GJ.s x0=mkS [105,110,116]
 def zdo:=x1.1=x1.1/\x1.2.1=x1.2.1/\x1.2.2=x1.2.2/\x4
 def zg4:=zdo x1 (x2=x2/\GJ.k x0=GJ.k x0/\GJ.n x0=GJ.n x0/\GJ.s x0=GJ.s x0/\(GJ.y x0).1=(GJ.y x0).1/\(GJ.y x0).2.1=(GJ.y x0).2.1/\(GJ.y x0).2.2=(GJ.y x0).2.2/\(GJ.x x0).1=(GJ.x x0).1/\(GJ.x x0).2.1=(GJ.x x0).2.1/\(GJ.x x0).2.2=(GJ.x x0).2.2/\(∀i0,True/\slP byV x1 x3 i0/\GJ.ok x0 i0->True/\slP byV x1 x3 i0/\GJ.ok x0 i0)/\x4)
 abbrev zkr:=GJ.s x0=mkS [108,111,110,103]
 abbrev zkp:=GJ.s x0=mkS [102,108,111,97,116]
 def zqk:=Ji (zkp x0) (∃(i0:Unit),GJ.s x0=GJ.s x0/\isNum (GJ.s x0)=decide (zkp x0)/\zg4 x0 x1 x2 x3 (True/\True)) (∃(i1:Unit),GJ.s x0=GJ.s x0/\isNum (GJ.s x0)=decide (GJ.s x0=mkS [100,111,117,98,108,101])/\zg4 x0 x1 x2 x3 (True/\True))
 def zqi:=Ji (zkr x0) (∃(i0:Unit),GJ.s x0=GJ.s x0/\isNum (GJ.s x0)=decide (zkr x0)/\zg4 x0 x1 x2 x3 (True/\True)) (zqk x0 x1 x2 x3)
 def zg2:=x2=x2/\(0<=x2/\x2<=(↑(length x3):Int)/\0<x5/\x5<1000000/\z0p x3)/\(∀i0,True/\slP byV x1 x7 i0/\GJ.ok x0 i0->slP byV (x1.1,x1.2.1,x1.2.2) x3 i0)/\x4
 abbrev z3r:=(z20 x0 x3 x2).2.2
 abbrev zko:=GJ.s x0=mkS [115,116,114,105,110,103]
 abbrev zqn:=GJ.s x0=mkS [98,111,111,108,101,97,110]
 def zqp:=(z20 x0 x3 x2).1=x5/\(z20 x0 x3 x2).2.1=0/\(z3r x0 x2 x3).1=mkS []/\zdo x1 ((z3r x0 x2 x3).2=x2/\True)
 def zg3:=GJ.k x0=4/\(isNum (GJ.s x0)=true\/z2w (GJ.s x0)=true\/z6n (GJ.s x0)=true\/z8x (GJ.s x0)=true)
 def zql:=Ji (GJ.s x0=mkS [110,117,108,108]) (zqp x0 x1 x2 x3 1) (∃(i0:Unit),zg4 x0 x1 x2 x3 (¬(zg3 x0)/\True))
 def zzh:=Ji (zqn x0) (∃(i0:List Int),(2:Int)=2/\zdo x1 (zg2 x0 x1 x2 i0 ((z20 x0 x3 x2).1=2/\(z20 x0 x3 x2).2.1=z0r i0 x2 2/\(z3r x0 x2 x3).1=mkS []/\zdo x1 ((z3r x0 x2 x3).2=z06 i0 x2/\True)) 2 x3)) (zql x0 x1 x2 x3)
 def zzf:=(z2w (GJ.s x0)=true->∃(i0:List Int),(3:Int)=3/\zdo x1 (zg2 x0 x1 x2 i0 ((0<=z0r i0 x2 3/\z0r i0 x2 (3:Int)<(↑(nat_lit 3):Int))/\∃i2,(∀(i3:Nat) (i4:Value),[string i2][i3]? =some i4->[string (mkS []),string (mkS [100]),string (mkS [195,164])][nat_lit 0+toNat (z0r i0 x2 3)*1+i3]? =some i4)/\i2=i2/\True/\(z20 x0 x3 x2).1=4/\(z20 x0 x3 x2).2.1=0/\(z3r x0 x2 x3).1=i2/\zdo x1 ((z3r x0 x2 x3).2=z06 i0 x2/\True)) 3 x3))/\(z2w (GJ.s x0)=false->zzh x0 x1 x2 x3)
 def zze:=(Ji (zko x0) (∃(i0:Unit),GJ.s x0=GJ.s x0/\z2w (GJ.s x0)=decide (zko x0)/\zg4 x0 x1 x2 x3 (True/\True)) (∃(i2:Unit),GJ.s x0=GJ.s x0/\z2w (GJ.s x0)=decide (GJ.s x0=mkS [98,121,116,101,115])/\zg4 x0 x1 x2 x3 (True/\True)))/\∀(i4:Unit),True->zzf x0 x1 x2 x3
 def zzd:=(isNum (GJ.s x0)=true->∃(i0:List Int),(200:Int)=200/\zdo x1 (zg2 x0 x1 x2 i0 (Jb (z0r i0 x2 200- 50)/\(z20 x0 x3 x2).1=3/\(z20 x0 x3 x2).2.1=z0r i0 x2 200- 50/\(z3r x0 x2 x3).1=mkS []/\zdo x1 ((z3r x0 x2 x3).2=z06 i0 x2/\True)) 200 x3))/\(isNum (GJ.s x0)=false->zze x0 x1 x2 x3)
 def zzc:=(Ji (zks x0) (∃(i0:Unit),GJ.s x0=GJ.s x0/\isNum (GJ.s x0)=decide (zks x0)/\zg4 x0 x1 x2 x3 (True/\True)) (zqi x0 x1 x2 x3))/\∀(i8:Unit),True->zzd x0 x1 x2 x3
 abbrev zkq:=Option.getD (z2v x6.2 (GJ.nm x6.1) (GJ.l x6.1)) zJ
 abbrev zqo:=GJ.s (zkq x6)=mkS [97,114,114,97,121]
 def zqm:=mkS [88]=mkS [88]/\True/\(z20 x0 x3 x2).1=4/\(z20 x0 x3 x2).2.1=0/\(z3r x0 x2 x3).1=mkS [88]/\zdo x1 ((z3r x0 x2 x3).2=x2/\True)
 def zqj:=Ji (GJ.s (zkq x6)=mkS [101,110,117,109]) (zqm x0 x1 x2 x3) (zqp x0 x1 x2 x3 6)
 def zzg:=Ji (GJ.k x0=5) (zqp x0 x1 x2 x3 1) (∃(i0:GJ×ByteArray),GJ.k i0.1=GJ.k x0/\GJ.n i0.1=GJ.n x0/\GJ.s i0.1=GJ.s x0/\(GJ.y i0.1).1=(GJ.y x0).1/\(GJ.y i0.1).2.1=(GJ.y x0).2.1/\(GJ.y i0.1).2.2=(GJ.y x0).2.2/\(GJ.x i0.1).1=(GJ.x x0).1/\(GJ.x i0.1).2.1=(GJ.x x0).2.1/\(GJ.x i0.1).2.2=(GJ.x x0).2.2/\i0.2=mkS [116,121,112,101]/\GJ.wf i0.1/\(∀i1,True/\slP byV x1 x3 i1/\GJ.ok x0 i1->GJ.ok i0.1 i1)/\Ji (zqo i0) (zqp x0 x1 x2 x3 5) (zqj x0 x1 x2 x3 i0))
 def zzb:=(Ji (GJ.k x0=4) (zzc x0 x1 x2 x3) (∃(i25:Unit),zg4 x0 x1 x2 x3 (¬(zg3 x0)/\True)))/\∀(i27:Unit),¬(zg3 x0)->zzg x0 x1 x2 x3
end
def zdz(x:SV) (L:List Int) (n:Int) (g:GJ):qla P (qgc [(51,zor),(54,z8n),(79,zuf)]) Try.f55 z3b (z8e) ⟨x,L,n,g⟩=(0<=n/\n<=(↑(length L):Int)/\z0p L/\GJ.wf g->(∃(p:Pub),True/\slP byV x L p/\GJ.ok g p)->zzb g x n L):=by kernel_rfl
def ziw:=λx L n g=>Eq.trans (zdz x L n g) (by delta Ji Jb Jt Jf zks zdo zg4 zkr zkp zqk zqi zg2 z3r zko zqn zqp zg3 zql zzh zzf zze zzd zzc zkq zqo zqm zqj zzg zzb;exact rfl)
def zph(c:Nat):ldV c<128:=by
 unfold ldV;repeat' split
 all_goals omega
def zi3(s:ByteArray):∀(i r:Nat),vlF s i=some r->i<=4->r<128*64 ^ (i- 1)
  |0,r,h,_=>by simp[vlF]at h;subst h;decide
  | 1,r,h,_=>by
    simp[vlF]at h
    have:=zph (bat s 0)
    rw[h]at this;simpa using this
  | i + 2,r,h,hi=>by
    simp only[vlF]at h
    split at h
    · rename_i q hq
      have ih:=zi3 s (i+1) q hq (by omega)
      split at h
      · rename_i hc
        cases h
        have:=z3g s (i+1)
        simp[ctC]at hc
        have e:i+1- 1=i:=by omega
        have e2:i+2- 1=i+1:=by omega
        rw[e]at ih
        rw[e2,Nat.pow_succ]
        omega
      · cases h
    · cases h
def zfw(s:ByteArray) (i j:Nat) (hij:i<=j) (h1:1<=i) (h:vlF s i=none):vlF s j=none:=by
  induction j with
  |zero=>omega
  | succ j ih=>
    by_cases e:i=j+1
    · subst e;exact h
    · have:=ih (by omega)
      cases j with
      |zero=>omega
      |succ j=>simp only[vlF];rw[this]
def zhq(s:ByteArray):frt s<=s.size:=by
 unfold frt
 split
 ·omega
 ·split
  ·omega
  ·split<;>omega
def z61:∀(f g:Nat) (s:ByteArray),s.size<=f->s.size<=g->zc8 f s=zc8 g s
  |0,0,s,_,_=>rfl
  |0,g+1,s,h,_=>by rw[zc8,zc8,if_pos (by omega)]
  |f+1,0,s,_,h=>by rw[zc8,zc8,if_pos (by omega)]
  | f +1,g+1,s,h1,h2=>by
    rw[zc8,zc8]
    split
    · rfl
    · split
      · rfl
      · exact z61 f g _ (by simp;omega) (by simp;omega)
def z8b(s:ByteArray) (h:0<s.size):vld s=if frt s=0 then false else vld (s.extract (frt s) s.size):=by
 unfold vld
 obtain⟨f,hf⟩:∃f,s.size=f+1:=⟨s.size- 1,by omega⟩
 rw[hf,zc8,if_neg (by omega)]
 split
 ·rfl
 ·rw[hf]
  refine z61 _ _ _ ?_ (Nat.le_refl _)
  simp;omega
def zc9(s:ByteArray) (h:s.size=0):vld s=true:=by unfold vld;rw[h];rfl
def zg0(x:Int):IntKind.u8.wrap x=x % 256:=by
 unfold IntKind.wrap;simp[IntKind.bits,IntKind.signed]
def tn1(n:Nat):((n:Int)+1).toNat=n+1:=by omega
def wrap32(x:Int):IntKind.u32.wrap x=x % 4294967296:=by
 unfold IntKind.wrap;simp[IntKind.bits,IntKind.signed]
def z7u(b:Nat):(b<128/\ldN b=1/\ldV b=b)\/(192<=b/\b<224/\ldN b=2/\ldV b=b- 192)\/(224<=b/\b<240/\ldN b=3/\ldV b=b- 224)\/(240<=b/\b<248/\ldN b=4/\ldV b=b- 240)\/(((128<=b/\b<192)\/248<=b)/\ldN b=0):=by
 unfold ldN ldV
 repeat' split
 all_goals omega
def zpi(n q:Nat) (hn:n=2\/n=3\/n=4) (hq:q<128*64 ^ (n- 1)) (h2:n=2->q<2048) (h3:n=3->q<65536):lnN q=n↔leN n<=q:=by
 unfold lnN leN
 rcases hn with rfl|rfl|rfl
 all_goals (repeat' split)
 all_goals (first|omega| (have:=h2 rfl;omega)| (have:=h3 rfl;omega))
section
variable (x0:ByteArray) (x1:Int×Int) (x2 x3 x4:Int)
 abbrev z43:=(↑(ptV x0):Int)=0/\(↑(frt x0):Int)=0/\True
 abbrev zcm:=IntKind.wrap u32 (↑(bat x0 0):Int)<x2
 def zqv:=(↑(ptV x0):Int)=IntKind.wrap u32 (↑(bat x0 0):Int)/\(↑(frt x0):Int)=1/\True
 abbrev zg6:=x2<=IntKind.wrap u32 (↑(bat x0 0):Int)
 abbrev z6t:=(↑(leN (ldN (bat x0 0))):Int)
 abbrev z30:=(↑(ldN (bat x0 0)):Int)
 def zuw:=x0=x0/\(z6t x0)=x2/\(z30 x0)=x3/\(↑(ldV (bat x0 0)):Int)=IntKind.wrap u32 (IntKind.wrap u32 (↑(bat x0 0):Int)- x4)/\(0<size x0/\2<=ldN (bat x0 0))/\True
 abbrev zqw:=Ji (zcm x0 248) (zuw x0 65536 4 240) (z43 x0)
 abbrev zw2:=Ji (zg6 x0 240) (zqw x0) (z43 x0)
 abbrev zqx:=Ji (zcm x0 240) (zuw x0 2048 3 224) (zw2 x0)
 abbrev zw1:=Ji (zg6 x0 224) (zqx x0) (zw2 x0)
 abbrev zqy:=Ji (zcm x0 224) (zuw x0 128 2 192) (zw1 x0)
 abbrev zqt:=Ji (zg6 x0 192) (zqy x0) (zw1 x0)
 def zg7:=(0<=x1.2/\x1.2<(↑(size x0):Int))
 abbrev zg5:=IntKind.wrap u32 (x1.1*64)+IntKind.wrap u32 (IntKind.wrap u8 ((↑(bat x0 (toNat x1.2)):Int)- 128))
 def zqq:=zg7 x0 x1/\Jb (x1.2+1)/\x0=x0/\(z6t x0)=(z6t x0)/\(z30 x0)=(z30 x0)/\x1.2+1=x1.2+1/\IntKind.wrap u32 (zg5 x0 x1)=IntKind.wrap u32 (zg5 x0 x1)/\(1<=x1.2+1/\x1.2+1<=(z30 x0)/\∃(i0:Nat),IntKind.wrap u32 (zg5 x0 x1)=(↑i0:Int)/\vlF x0 (toNat (x1.2+1))=some i0)/\(5:Nat)- toNat (x1.2+1)<5- toNat x1.2/\True
 def zzo:=zg7 x0 x1/\Ji (191<(↑(bat x0 (toNat x1.2)):Int)) (z43 x0) (zqq x0 x1)
 def zzn:=zg7 x0 x1/\Ji ((↑(bat x0 (toNat x1.2)):Int)<128) (z43 x0) (zzo x0 x1)
 def zkt:=(↑(ptV x0):Int)=x1.1/\(↑(frt x0):Int)=(z30 x0)/\True
 def zqz:=Ji (x1.1<=57343) (z43 x0) (zkt x0 x1)
 def zqu:=Ji (55296<=x1.1) (zqz x0 x1) (zkt x0 x1)
 def zqs:=Ji (1114111<x1.1) (z43 x0) (zqu x0 x1)
 def zqr:=Ji (x1.1<(z6t x0)) (z43 x0) (zqs x0 x1)
 def zzm:=Ji (x1.2<(z30 x0)) (zzn x0 x1) (zqr x0 x1)
 def zzl:=(x0=x0/\(z6t x0)=(z6t x0)/\(z30 x0)=(z30 x0)/\(1:Int)=1/\(↑(ldV (bat x0 0)):Int)=(↑(ldV (bat x0 0)):Int)/\((1:Int)<=1/\1<=(z30 x0)/\∃(i0:Nat),(↑(ldV (bat x0 0)):Int)=(↑i0:Int)/\vlF x0 (1:Nat)=some i0)/\True)/\∀(i1:Int×Int),(1<=i1.2/\i1.2<=(z30 x0)/\∃(i2:Nat),i1.1=(↑i2:Int)/\vlF x0 (toNat i1.2)=some i2)->zzm x0 i1
 def zzk:=Ji ((↑(size x0):Int)<(z30 x0)) (z43 x0) (zzl x0)
 def zzj:=((0:Int)<=0/\0<(↑(size x0):Int))/\(Ji (zcm x0 128) (zqv x0) (zqt x0))/\∀(i0:Unit),0<size x0/\2<=ldN (bat x0 0)->zzk x0
 def zzi:=Ji ((↑(size x0):Int)=0) (z43 x0) (zzj x0)
end
def zbf(s:ByteArray):qla P (λ_=>none) Try.f35 z2m (zib) s=(size s<9223372036854775808->zzi s):=by kernel_rfl
def zf5:=λs=>Eq.trans (zbf s) (by delta Ji Jb Jt Jf z43 zcm zqv zg6 z6t z30 zuw zqw zw2 zqx zw1 zqy zqt zg7 zg5 zqq zzo zzn zkt zqz zqu zqs zqr zzm zzl zzk zzj zzi;exact rfl)
def zpg(b:Nat):(ldN b=2->ldV b<32)/\(ldN b=3->ldV b<16):=by
 have:=z7u b;omega
def zvg(s:ByteArray) (q:Nat) (h:vlF s 2=some q) (h2:ldN (bat s 0)=2):q<2048:=by
 have b:=(zpg (bat s 0)).1 h2
 simp only[vlF]at h
 split at h
 ·rename_i hc
  have hb:=z3g s 1
  simp only[ctC,Bool.and_eq_true,decide_eq_true_eq]at hc
  cases h
  simp only[Nat.zero_add]at hc⊢
  omega
 ·cases h
def zvh(s:ByteArray) (q:Nat) (h:vlF s 3=some q) (h2:ldN (bat s 0)=3):q<65536:=by
 have b:=(zpg (bat s 0)).2 h2
 simp only[vlF]at h
 split at h
 ·rename_i r hr
  split at hr
  ·cases hr
   rename_i hc0
   split at h
   ·rename_i hc
    have hb:=z3g s 1
    have hb2:=z3g s 2
    simp only[ctC,Bool.and_eq_true,decide_eq_true_eq]at hc hc0
    cases h
    simp only[Nat.zero_add,show 1+1=2 from rfl]at hc hc0⊢
    omega
   ·cases h
  ·cases hr
 ·cases h
def zhu(q:Nat):isC q=true↔q<=1114111/\¬(55296<=q/\q<=57343):=by
 simp[isC];omega
def zpa(b:Nat):ctC b=true↔128<=b/\b<192:=by simp[ctC]
def z81:q3m P 35 z2m:=by
 refine qld mixed z0o (W:=zib) Try.func35 (by kernel_rfl) (by decide) (by decide) (λc=>by kernel_rfl) λ(s:ByteArray)=>(zf5 s).mpr ?_
 intro h2
 have b0:=z3g s 0
 obtain⟨n,hn⟩:∃n,n=ldN (bat s 0):=⟨_,rfl⟩
 have hc:=z7u (bat s 0)
 have hz:frt s=0->ptV s=0:=λh=>by unfold ptV;rw[if_pos h]
 have hfr:frt s=if s.size<n then 0 else match vlF s n with
  |none=>0
  |some r=>if n=0\/isC r=false\/lnN r≠n then 0 else n:=by rw[hn];rfl
 rw[←hn]at hc
 have A0:s.size=0->frt s=0:=λh=>by
  have:=zip (s:=s) (j:=0) (by omega)
  rw[hfr,if_pos (by omega)]
 have A1:s.size≠0->bat s 0<128->ptV s=bat s 0/\frt s=1:=λh h1=>by
  have e1:n=1:=by omega
  have ev:ldV (bat s 0)=bat s 0:=by omega
  have ef:frt s=1:=by
   rw[hfr,if_neg (by omega),e1]
   simp only[vlF]
   rw[ev,if_neg]
   have hi:=(zhu (bat s 0)).mpr (by omega)
   have hl:lnN (bat s 0)=1:=by unfold lnN;rw[if_pos h1]
   rw[hi,hl];simp
  refine⟨?_,ef⟩
  unfold ptV
  rw[if_neg (by omega),ef]
  simp only[vlF,ev];rfl
 have A5:n=0->frt s=0:=λh=>by
  rw[hfr,if_neg (by omega),h];simp[vlF]
 have hle:(n=2->leN n=128)/\(n=3->leN n=2048)/\(n=4->leN n=65536):=by
  refine⟨λh=> ?_,λh=> ?_,λh=> ?_⟩<;>rw[h]<;>rfl
 have e0:IntKind.u32.wrap (bat s 0:Nat)=(bat s 0:Nat):=by rw[wrap32];omega
 simp only[Int.toNat_natCast,Int.toNat_zero,and_true,true_and,decide_eq_true_eq,decide_eq_false_iff_not,Bool.not_eq_true',Bool.not_eq_false',e0,←hn]
 refine⟨?_,λg0=>⟨by omega,?_,?_⟩⟩
 ·intro h;have:=A0 (by omega);have:=hz this;omega
 ·simp only[wrap32]
  clear hfr A0 e0
  rcases hc with⟨c1,c2,c3⟩|⟨c0,c1,c2,c3⟩|⟨c0,c1,c2,c3⟩|⟨c0,c1,c2,c3⟩|⟨c1,c2⟩
  ·obtain⟨p,f⟩:=A1 (by omega) c1
   clear A1 A5 hle hz
   refine⟨λ_=>by omega,λh=>absurd (by omega) h⟩
  ·have l:=hle.1 c2
   clear A1 A5 hle hz
   refine⟨λh=>by omega,λh=>⟨λ_=>⟨λ_=>by omega,λk=>absurd (by omega) k⟩,λk=>absurd (by omega) k⟩⟩
  ·have l:=hle.2.1 c2
   clear A1 A5 hle hz
   refine⟨λh=>by omega,λh=>⟨λ_=>⟨λk=>by omega,λ_=>⟨λ_=>⟨λ_=>by omega,λk=>absurd (by omega) k⟩,λk=>absurd (by omega) k⟩⟩,λk=>absurd (by omega) k⟩⟩
  ·have l:=hle.2.2 c2
   clear A1 A5 hle hz
   refine⟨λh=>by omega,λh=>⟨λ_=>⟨λk=>by omega,λ_=>⟨λ_=>⟨λk=>by omega,λ_=>⟨λ_=>⟨λ_=>by omega,λk=>absurd (by omega) k⟩,λk=>absurd (by omega) k⟩⟩,λk=>absurd (by omega) k⟩⟩,λk=>absurd (by omega) k⟩⟩
  ·have f:=A5 c2
   have p:=hz f
   clear A1 A5 hle hz
   repeat' first|intro _|apply And.intro
   all_goals omega
 ·clear A0 A1 A5
  rintro _ ⟨g1,g2⟩
  have Z:frt s=0->((ptV s:Nat):Int)=0/\((frt s:Nat):Int)=0:=λh=>by have:=hz h;omega
  refine⟨λk=>Z ?_,λk=>⟨⟨by omega,by omega,ldV (bat s 0),rfl,rfl⟩,?_⟩⟩
  ·rw[hfr,if_pos (by omega)]
  rw[if_neg (by omega)]at hfr
  rintro⟨v,i⟩ ⟨i1,i2,q,hq,hv⟩
  simp only at i1 i2 hq hv⊢
  obtain⟨m,rfl⟩:=Int.eq_ofNat_of_zero_le (show 0<=i by omega)
  subst hq
  simp only[Int.toNat_natCast,tn1]at hv⊢
  have hbd:=zi3 s m q hv (by omega)
  have bm:=z3g s m
  obtain⟨m',rfl⟩:∃m',m=m'+1:=⟨m- 1,by omega⟩
  have cn:¬(128<=bat s (m'+1)/\bat s (m'+1)<192)->((m'+1:Nat):Int)<n->frt s=0:=λh hl=>by
   have:vlF s (m'+2)=none:=by
    simp only[vlF];rw[hv];simp only[]
    rw[if_neg (by rw[zpa];exact h)]
   rw[hfr,zfw s (m'+2) n (by omega) (by omega) this]
  refine⟨λk1=>⟨by omega,λk2=>Z (cn (by omega) k1),λk2=>⟨by omega,λk3=>Z (cn (by omega) k1),λk3=>⟨by omega,by omega,⟨by omega,by omega,?_⟩,by omega⟩⟩⟩,λk1=> ?_⟩
  ·have hq26:q<67108864:=by
    have:m'+1<=3:=by omega
    rcases m' with _|_|_|m'<;>simp at hbd<;>omega
   refine⟨q*64+(bat s (m'+1)- 128),?_,?_⟩
   ·rw[zg0,wrap32,wrap32,wrap32];omega
   ·simp only[vlF];rw[hv];simp only[]
    rw[if_pos (by rw[zpa];omega)]
  ·have em:m'+1=n:=by omega
   rw[em]at hv hbd
   rw[hv]at hfr
   simp only at hfr
   have nn:n=2\/n=3\/n=4:=by omega
   have ln:=zpi n q nn hbd (λh=>zvg s q (h ▸ hv) (by omega)) (λh=>zvh s q (h ▸ hv) (by omega))
   have ic:=zhu q
   have bad:¬(leN n<=q)\/¬(q<=1114111/\¬(55296<=q/\q<=57343))->frt s=0:=λh=>by
    rw[hfr,if_pos]
    rcases h with h|h
    ·exact .inr (.inr λe=>h (ln.mp e))
    ·exact .inr (.inl (by rw[←Bool.not_eq_true];exactλe=>h (ic.mp e)))
   have good:leN n<=q->(q<=1114111/\¬(55296<=q/\q<=57343))->((ptV s:Nat):Int)=q/\((frt s:Nat):Int)=n:=λh1 h2=>by
    have ef:frt s=n:=by
     rw[hfr,if_neg]
     rw[ic.mpr h2,ln.mpr h1];simp;omega
    refine⟨?_,by omega⟩
    unfold ptV
    rw[if_neg (by omega),ef,hv];rfl
   refine⟨λc1=>Z (bad (.inl (by omega))),λc1=>⟨λc2=>Z (bad (.inr (by omega))),λc2=>⟨λc3=>⟨λc4=>Z (bad (.inr (by omega))),λc4=>good (by omega) (by omega)⟩,λc3=>good (by omega) (by omega)⟩⟩⟩
def zc5(s:ByteArray):qla P (qgc [(35,z2m)]) Try.f22 z5o (zce) s=(size s<(9223372036854775808:Nat)->(s=s/\(size s<=size s/\vld s=vld s)/\True)/\∀(s_1:ByteArray),size s_1<=size s/\vld s_1=vld s->(decide ((0:Int)<(↑(size s_1):Int))=true->s_1=s_1/\size s_1<(9223372036854775808:Nat)/\(decide ((↑(frt s_1):Int)=(0:Int))=true->vld s=false/\True)/\(decide ((↑(frt s_1):Int)=(0:Int))=false->((0:Int)<=(↑(frt s_1):Int)/\(↑(frt s_1):Int)<=(↑(size s_1):Int))/\ByteArray.extract s_1 (toNat (↑(frt s_1):Int)) (size s_1)=ByteArray.extract s_1 (toNat (↑(frt s_1):Int)) (size s_1)/\(size (ByteArray.extract s_1 (toNat (↑(frt s_1):Int)) (size s_1))<=size s/\vld (ByteArray.extract s_1 (toNat (↑(frt s_1):Int)) (size s_1))=vld s)/\size (ByteArray.extract s_1 (toNat (↑(frt s_1):Int)) (size s_1))<size s_1/\True))/\(decide ((0:Int)<(↑(size s_1):Int))=false->vld s=true/\True)):=by kernel_rfl
def z60:q3m P 22 z5o:=by
 refine qld mixed (qdw (qhr z81 qkx)) (W:=zce) Try.func22 (by kernel_rfl) (by decide) (by decide) (λc=>by kernel_rfl) λ(s:ByteArray)=>(zc5 s).mpr ?_
 intro h
 simp only[Int.toNat_natCast,and_true,true_and,decide_eq_true_eq,decide_eq_false_iff_not]
 refine⟨Nat.le_refl _,λt ht=>⟨λg=>⟨by omega,λg2=> ?_,λg2=> ?_⟩,λg=> ?_⟩⟩
 ·rw[←ht.2,z8b t (by omega),if_pos (by omega)]
 ·have:=zhq t
  rw[←ht.2,z8b t (by omega),if_neg (by omega)]
  refine⟨by omega,⟨?_,rfl⟩,?_⟩
  ·simp;omega
  ·simp;omega
 ·rw[←ht.2];exact zc9 t (by omega)
section
def z4y:q3m P 54 z8n:=by
 refine qld mixed z0o (W:=λ_=>{}) Try.func54 (by kernel_rfl) (by decide) (by decide) (λs=>by kernel_rfl) λ(s:ByteArray)=>(zke s).mpr ?_
 intro _;exact⟨rfl,trivial⟩
def z86:q3m P 53 z4e:=by
 refine qld mixed z0o (W:=λ_=>{}) Try.func53 (by kernel_rfl) (by decide) (by decide) (λs=>by kernel_rfl) λn=> ?_
 cases n with
 |two=>exact(zbr ()).mpr λ_=>trivial
 |three=>exact(zbs ()).mpr λ_=>trivial
 |four=>exact(zbt ()).mpr λ_=>trivial
variable {L:List Int} {p:Pub}
def zp6{x:SV} (h:slP byV x L p) {i:Nat} (hi:i<L.length):x.1≠noA/\q3i p (adr x.1 (i*1)) [.int .u8 L[i]]:=z0b zp7 (by decide) h hi
def z7z:q3m P 51 zor:=by
 refine qld mixed z0o (W:=λ_=>{}) Try.func51 (by kernel_rfl) (by decide) (by decide) (λs=>by kernel_rfl) λ⟨(x:SV),(L:List Int),(n:Int),(m:Int)⟩=>(zpk x L n m).mpr ?_
 rintro⟨hn0,hn1,hm0,hm1,hL,hb⟩ ⟨p,_,hp⟩
 have hx:x.2.1=L.length:=hp.1
 simp only[sbS,Int.toNat_natCast,hx]
 obtain⟨i,rfl⟩:=Int.eq_ofNat_of_zero_le hn0
 have e:((i:Int)+1- 1).toNat=i:=by omega
 refine⟨λh=>⟨?_,?_⟩,λh=> ?_⟩
 ·unfold z0r;rw[if_pos h]
 ·unfold z06;rw[if_pos h]
 ·have hi:i<L.length:=by omega
  rw[e]
  refine⟨by omega,by omega,by omega,(zp6 hp hi).1,L[i],λq hq=>(zp6 hq hi).2,?_⟩
  have r:z0r L i m=Int.tmod L[i] m:=by
   unfold z0r
   rw[if_neg h,Int.toNat_natCast,List.getD_eq_getElem?_getD,List.getElem?_eq_getElem hi];rfl
  have hbi:=hb L[i] (List.getElem_mem hi)
  have nn:z06 L i=i+1:=by unfold z06;rw[if_neg h]
  rw[r,nn]
  exact⟨by omega,by omega,rfl,rfl⟩
def zjv:q3m P 77 zit:=by
 refine qld mixed z0o (W:=λ_=>{}) Try.func77 (by kernel_rfl) (by decide) (by decide) (λs=>by kernel_rfl) λ⟨(x:SV),(L:List Int),(n:Int)⟩=>(zju x L n).mpr ?_
 rintro _ ⟨p,_,hp⟩
 have hx:x.2.1=L.length:=hp.1
 simp only[true_and,and_true,eq_self,hx]
variable {l:List GJ}
def z5r{s:ByteArray} {nm:List ByteArray} {j:Nat} (h1:j<nm.length) (h2:j<l.length):z2v s (nm.drop j) (l.drop j)=if nm[j]=s then some l[j]else z2v s (nm.drop (j+1)) (l.drop (j+1)):=by
 rw[List.drop_eq_getElem_cons h1,List.drop_eq_getElem_cons h2,z2v]
def zeh{y:SV} (h:slP GJ.cells y l p) {i:Nat} (hi:i<l.length):y.1≠noA/\q3i p (adr y.1 (i*5)) l[i].cells:=z0b z2o (by decide) h hi
def z87{y:SV} {ks:List ByteArray} (h:slP txV y ks p) {i:Nat} (hi:i<ks.length):y.1≠noA/\q3i p (adr y.1 (i*1)) [.string ks[i]]:=z0b z0s (by decide) h hi
def zpb:q3m P 79 zuf:=by
 refine qld mixed z0o (W:=zxk) Try.func79 (by kernel_rfl) (by decide) (by decide) (λs=>by kernel_rfl) λ⟨g,s⟩=>(get_eq g s).mpr ?_
 rintro hw ⟨p,_,hp⟩
 rw[GJ.wf_eq]at hw
 obtain⟨_,hl,hnl,_⟩:=hw
 have gx:=λq (hq:g.ok q)=>(by rw[GJ.ok_eq]at hq;exact hq.2.1:slP txV g.x g.nm q)
 have gy:=λq (hq:g.ok q)=>(by rw[GJ.ok_eq]at hq;exact hq.1:slP GJ.cells g.y g.l q)
 have xl:g.x.2.1=g.nm.length:=(gx p hp).1
 have yl:g.y.2.1=g.l.length:=(gy p hp).1
 simp only[sbS,Int.toNat_natCast,xl,yl]
 refine⟨⟨0,rfl,by omega,by simp⟩,?_⟩
 rintro j ⟨hj,ht⟩
 refine⟨λhlt=> ?_,λhge=> ?_⟩
 ·have h1:j<g.nm.length:=by omega
  have h2:j<g.l.length:=by omega
  have hd:=z5r (s:=s) h1 h2
  rw[ht]at hd
  refine⟨⟨by omega,by omega⟩,(z87 (gx p hp) h1).1,g.nm[j],λq hq=>(z87 (gx q hq) h1).2,λhs=> ?_,λhs=>⟨by omega,j+1,by omega,⟨by omega,?_⟩,by omega⟩⟩
  ·rw[if_pos hs]at hd
   refine⟨⟨by omega,by omega⟩,(zeh (gy p hp) h2).1,g.l[j].k,g.l[j].n,g.l[j].s,g.l[j].y.1,g.l[j].y.2.1,g.l[j].y.2.2,g.l[j].x.1,g.l[j].x.2.1,g.l[j].x.2.2,λq hq=>(zeh (gy q hq) h2).2,?_⟩
   rw[hd]
   exact⟨rfl,rfl,rfl,rfl,rfl,rfl,rfl,rfl,rfl,rfl⟩
  ·rw[if_neg hs]at hd
   exact hd.symm
 ·have:g.nm.drop j=[]:=List.drop_of_length_le (by omega)
  rw[this,z2v]at ht
  ·rw[←ht]
   exact⟨rfl,rfl,rfl,rfl,rfl,rfl,rfl,rfl,rfl,rfl⟩
  ·intros;simp at*
def z19{n m:Int} (hL:z0p L) (h:0<m):0<=z0r L n m/\z0r L n m<m:=by
 unfold z0r
 split
 ·omega
 ·have:0<=L.getD n.toNat 0:=by
   rw[List.getD_eq_getElem?_getD]
   cases hg:L[n.toNat]? with
   |none=>simp
   |some b=>exact(hL.2 b (List.mem_of_getElem? hg)).1
  rw[Int.tmod_eq_emod_of_nonneg this]
  exact⟨Int.emod_nonneg _ (by omega),Int.emod_lt_of_pos _ h⟩
def z1g{n:Int} (h:n<=L.length):n<=z06 L n/\z06 L n<=L.length/\z06 L n<=n+1:=by
 unfold z06;split<;>omega
def zix:q3m P 55 z3b:=by
  refine qld mixed (qdw (qhr z7z (qhr z4y (qhr zpb qkx)))) (W:=z8e) Try.func55 (by kernel_rfl) (by decide) (by decide) (λs=>by kernel_rfl) λ⟨(x:SV),(L:List Int),(n:Int),g⟩=>(ziw x L n g).mpr ?_
  rintro⟨hn0,hn1,hL,hw⟩ ⟨p,_,hp,hg⟩
  simp only[sbS,Int.toNat_natCast,exists_const]
  have hnum:=λm (h:0<m)=>z19 (n:=n) (m:=m) hL h
  refine⟨⟨λh4=>⟨⟨λh=> ?_,λh1=>⟨λh=> ?_,λh2=>⟨λh=> ?_,λh3=> ?_⟩⟩⟩,?_⟩,λh4=>λh=>h4 h.1⟩,?_⟩
  · unfold isNum;rw[h];decide
  · unfold isNum;rw[h];decide
  · unfold isNum;rw[h];decide
  · unfold isNum;rw[decide_eq_false h1,decide_eq_false h2,decide_eq_false h3];rfl
  · rintro _ _
    have d0:∀{a b c d:Int×Int×ByteArray×Int},True:=λ{_ _ _ _}=>trivial
    refine⟨λhN=>⟨L,⟨hn0,hn1,by omega,by omega,hL⟩,λq hq=>hq.1,?_,?_⟩,λhN=>⟨⟨λh=> ?_,λh=> ?_⟩,?_⟩⟩
    · have:=hnum 200 (by omega);omega
    · unfold z20;rw[if_pos ⟨h4,hN⟩];exact⟨rfl,rfl,rfl,rfl⟩
    · unfold z2w;rw[h];decide
    · unfold z2w;rw[decide_eq_false h];rfl
    rintro _ _
    have n1:¬(g.k=4/\isNum g.s=true):=λh=>by rw[hN]at h;exact absurd h.2 (by simp)
    refine⟨λhT=>⟨L,⟨hn0,hn1,by omega,by omega,hL⟩,λq hq=>hq.1,hnum 3 (by omega),zdy (z0r L n 3),?_,?_⟩,λhT=> ?_⟩
    · have h3:=hnum 3 (by omega)
      generalize z0r L n 3=r at h3⊢
      intro j v hj
      cases j with
      |succ j=>simp at hj
      | zero=>
        have:r=0\/r=1\/r=2:=by omega
        rcases this with rfl|rfl|rfl<;>exact hj
    · unfold z20;rw[if_neg n1,if_pos ⟨h4,hT⟩];exact⟨rfl,rfl,rfl,rfl⟩
    have n2:¬(g.k=4/\z2w g.s=true):=λh=>by rw[hT]at h;exact absurd h.2 (by simp)
    refine⟨λhB=>⟨L,⟨hn0,hn1,by omega,by omega,hL⟩,λq hq=>hq.1,?_⟩,λhB=>⟨λhU=> ?_,λhU=> ?_⟩⟩
    · unfold z20;rw[if_neg n1,if_neg n2,if_pos ⟨h4,by unfold z6n;rw[hB];decide⟩];exact⟨rfl,rfl,rfl,rfl⟩
    · unfold z20;rw[if_neg n1,if_neg n2,if_neg (λh=>by unfold z6n at h;exact absurd h.2 (by rw[decide_eq_false hB];simp)),if_pos ⟨h4,by unfold z8x;rw[hU];decide⟩];exact⟨rfl,rfl,rfl,rfl⟩
    · rintro⟨_,h|h|h|h⟩
      · rw[hN]at h;cases h
      · rw[hT]at h;cases h
      · unfold z6n at h;rw[decide_eq_false hB]at h;cases h
      · unfold z8x at h;rw[decide_eq_false hU]at h;cases h
  · rintro _ hno
    have n1:¬(g.k=4/\isNum g.s=true):=λh=>hno ⟨h.1, .inl h.2⟩
    have n2:¬(g.k=4/\z2w g.s=true):=λh=>hno ⟨h.1, .inr (.inl h.2)⟩
    have n3:¬(g.k=4/\z6n g.s=true):=λh=>hno ⟨h.1, .inr (.inr (.inl h.2))⟩
    have n4:¬(g.k=4/\z8x g.s=true):=λh=>hno ⟨h.1, .inr (.inr (.inr h.2))⟩
    unfold z20
    rw[if_neg n1,if_neg n2,if_neg n3,if_neg n4]
    refine⟨λh5=>by rw[if_pos h5];exact⟨rfl,rfl,rfl,rfl⟩,λh5=>⟨⟨g,mkS [116,121,112,101]⟩,?_⟩⟩
    simp only[true_and,eq_self]
    rw[if_neg h5]
    refine⟨hw,λq hq=>hq.2,λh=>by rw[if_pos h];exact⟨rfl,rfl,rfl,rfl⟩,λh=>⟨λh2=>by rw[if_neg h,if_pos h2];exact⟨rfl,rfl,rfl,rfl⟩,λh2=>by rw[if_neg h,if_neg h2];exact⟨rfl,rfl,rfl,rfl⟩⟩⟩
def ziv{g:GJ} {n:Int} (hL:z0p L) (h:n<=L.length):(n<=(z20 g L n).2.2.2/\(z20 g L n).2.2.2<=L.length)/\(-50<=(z20 g L n).2.1/\(z20 g L n).2.1<200)/\(z20 g L n).2.2.1.size<10:=by
 have b:=z1g h
 have h1:=z19 (n:=n) (m:=200) hL (by omega)
 have h2:=z19 (n:=n) (m:=2) hL (by omega)
 have t:(zdy (z0r L n 3)).size<10:=by
  unfold zdy
  split
  ·decide
  ·split<;>decide
 have z:(mkS []).size<10:=by decide
 have z1:(mkS [88]).size<10:=by decide
 unfold z20
 repeat' split
 all_goals refine⟨⟨?_,?_⟩,⟨?_,?_⟩,?_⟩
 all_goals first|exact t|exact z|exact z1| (simp only;omega)
end
section
def z0w:q3m P 44 z1h:=by
 refine qld mixed z0o (W:=λ_=>{}) Try.func44 (by kernel_rfl) (by decide) (by decide) (λs=>by kernel_rfl) λ⟨S,(e0:Int),(e:Int)⟩=>(ze3 S e0 e).mpr ?_
 simp only[decide_eq_true_eq,decide_eq_false_iff_not,true_and,and_true,eq_self]
 intro _
 exact⟨λh=>if_pos h,λh=>if_neg h⟩
def z4l:q3m P 50 zoq:=by
 refine qld mixed (qdw (qhr z0w qkx)) (W:=λ_=>{}) Try.func50 (by kernel_rfl) (by decide) (by decide) (λs=>by kernel_rfl) λ⟨S,(e:Int),t⟩=>(zil S e t).mpr ?_
 simp only[decide_eq_true_eq,decide_eq_false_iff_not,true_and,and_true,eq_self]
 intro _
 refine⟨λh=>⟨S,rfl,rfl,?_,?_,?_,?_⟩,λh=>⟨z01 z0y S,by omega,by omega,?_,?_,?_,?_⟩⟩
 ·unfold adR;rw[if_pos (by omega)]
 ·unfold adS;rw[if_pos (by omega)]
 ·unfold adE;rw[if_pos (by omega)]
 ·unfold adS;rw[if_pos (by omega)]
 ·unfold adR;rw[if_neg (by omega)];omega
 ·unfold adS;rw[if_neg (by omega)];simp
 ·unfold adE;rw[if_neg (by omega)]
 ·unfold adS;rw[if_neg (by omega),z05];rfl
variable {s:ByteArray} {l:List ByteArray} {j:Nat}
def zas(h:j<l.length):zht s (l.drop j) j=if l[j]=s then(j:Int)+1 else zht s (l.drop (j+1)) (j+1):=by
 rw[List.drop_eq_getElem_cons h,zht]
def zi1{i:Nat} (h:i<l.length):∀(j:Nat) (v:Value),[Value.string l[i]][j]? =some v->(z00 txV l)[0+i*1+j]? =some v:=λj v hj=>by
 cases j with
 |zero=>rw[Nat.zero_add,z23 z0s l i h 0 (by decide)];exact hj
 |succ j=>simp at hj
def zay:q3m P 49 za7:=by
 refine qld mixed z0o (W:=zq6) Try.func49 (by kernel_rfl) (by decide) (by decide) (λs=>by kernel_rfl) λ(s:ByteArray)=>(zjb s).mpr ?_
 simp only[decide_eq_true_eq,decide_eq_false_iff_not,true_and,and_true,eq_self,Int.toNat_natCast]
 intro _
 refine⟨⟨0,rfl,by omega,rfl⟩,?_⟩
 rintro j ⟨hj,ht⟩
 refine⟨λhlt=> ?_,λhge=> ?_⟩
 ·have hl:j<kinds.length:=by show j<14;have:(j:Int)<14:=hlt;omega
  have hd:=zas (s:=s) hl
  rw[ht]at hd
  refine⟨⟨by omega,by have:(j:Int)<14:=hlt;exact this⟩,kinds[j],zi1 hl,λh=>⟨by omega,by rw[hd,if_pos h]⟩,λh=>⟨by omega,j+1,by omega,⟨by have:(j:Int)<14:=hlt;omega,by rw[hd,if_neg h]⟩,by have:(j:Int)<14:=hlt;omega⟩⟩
 ·have:¬((j:Int)<14):=hge
  rw[List.drop_of_length_le (by show 14<=j;omega),zht]at ht
  exact ht.symm
def zfy:q3m P 92 ziu:=by
 refine qld mixed z0o (W:=λ_=>{}) Try.func92 (by kernel_rfl) (by decide) (by decide) (λs=>by kernel_rfl) λ(k:Int)=>(zfx k).mpr ?_
 simp only[decide_eq_true_eq,decide_eq_false_iff_not,true_and,and_true,eq_self,Int.toNat_natCast]
 intro _
 refine⟨λh=>by unfold z2y;rw[if_pos (.inl h)],λh=>⟨λh2=>by unfold z2y;rw[if_pos (.inr h2)],λh2=>⟨⟨by omega,by show k<15;omega⟩,z2y k,?_,rfl⟩⟩⟩
 obtain⟨j,rfl⟩:=Int.eq_ofNat_of_zero_le (show 0<=k by omega)
 obtain⟨i,rfl⟩:∃i,j=i+1:=⟨j- 1,by omega⟩
 have hi:i+1<(mkS []::kinds).length:=by show i+1<15;omega
 have e:z2y ((i+1:Nat):Int)=(mkS []::kinds)[i+1]:=by
  unfold z2y
  rw[if_neg (by omega),Int.toNat_natCast,Nat.add_sub_cancel,List.getD_eq_getElem?_getD,List.getElem?_eq_getElem (by simpa using hi)];rfl
 rw[e,Int.toNat_natCast]
 exact zi1 (l:=mkS []::kinds) hi
def z8v{l:List AT} (h:j<l.length):findF s (l.drop j) j=if l[j].nm=s/\9<=l[j].k/\l[j].k<=11 then some j else findF s (l.drop (j+1)) (j+1):=by
 rw[List.drop_eq_getElem_cons h,findF]
def z7d{l:List AT} {i:Nat} (h:i<l.length):∀(j:Nat) (v:Value),l[i].cells[j]? =some v->(z00 AT.cells l)[0+i*10+j]? =some v:=λj v hj=>by
 have hl:j<10:=(List.getElem?_eq_some_iff.mp hj).1
 rw[Nat.zero_add,z23 z0y l i h j hl];exact hj
def z7m:q3m P 68 za4:=by
 refine qld mixed z0o (W:=zq4) Try.func68 (by kernel_rfl) (by decide) (by decide) (λs=>by kernel_rfl) λ⟨S,(e:Int),s⟩=>(ze5 S e s).mpr ?_
 simp only[decide_eq_true_eq,decide_eq_false_iff_not,true_and,and_true,eq_self,Int.toNat_natCast]
 intro hl
 refine⟨⟨0,rfl,by omega,rfl⟩,?_⟩
 rintro j ⟨hj,ht⟩
 refine⟨λhlt=> ?_,λhge=> ?_⟩
 ·have hjl:j<S.length:=by omega
  have hd:=z8v (s:=s) hjl
  rw[ht]at hd
  refine⟨⟨by omega,by omega⟩,S[j].k,S[j].nm,S[j].al.1,S[j].al.2.1,S[j].al.2.2,S[j].it,S[j].sy.1,S[j].sy.2.1,S[j].sy.2.2,S[j].hd,S[j].df,S[j].sz,S[j].f.1,S[j].f.2.1,S[j].f.2.2,S[j].br.1,S[j].br.2.1,S[j].br.2.2,z7d hjl,λh1=>⟨λh2=>⟨λh3=> ?_,λh3=>⟨by omega,j+1,by omega,⟨by omega,?_⟩,by omega⟩⟩,λh2=>⟨by omega,j+1,by omega,⟨by omega,?_⟩,by omega⟩⟩,λh1=>⟨by omega,j+1,by omega,⟨by omega,?_⟩,by omega⟩⟩
  ·rw[hd,if_pos ⟨h1,h2,h3⟩];exact⟨rfl,rfl⟩
  ·rw[hd,if_neg (λh=>h3 h.2.2)]
  ·rw[hd,if_neg (λh=>h2 h.2.1)]
  ·rw[hd,if_neg (λh=>h1 h.1)]
 ·rw[List.drop_of_length_le (by omega),findF]at ht
  rw[←ht];exact⟨rfl,rfl⟩
def zq0:q3m P 70 zvd:=by
 refine qld mixed (qdw (qhr zfy qkx)) (W:=λ_=>{}) Try.func70 (by kernel_rfl) (by decide) (by decide) (λs=>by kernel_rfl) λ⟨S,(t:Int)⟩=>(zpz S t).mpr ?_
 simp only[decide_eq_true_eq,decide_eq_false_iff_not,Bool.not_eq_true',Bool.not_eq_false',true_and,and_true,eq_self,Int.toNat_natCast]
 intro hl
 refine⟨λh=>by unfold zbu;rw[if_pos (.inl h)],λh=>⟨λh2=>by unfold zbu;rw[if_pos (.inr h2)],λh2=> ?_⟩⟩
 obtain⟨j,rfl⟩:=Int.eq_ofNat_of_zero_le (show 0<=t by omega)
 have hj:j<S.length:=by omega
 rw[Int.toNat_natCast]
 have e1:zbu S (j:Int)=if S[j].nm=mkS []then z2y S[j].k else S[j].nm:=by
  unfold zbu
  rw[if_neg (by omega),Int.toNat_natCast,List.getElem?_eq_getElem hj]
 have c1:∀(i:Nat) (v:Value),[Value.string S[j].nm][i]? =some v->(z00 AT.cells S)[0+j*10+1+i]? =some v:=λi v hi=>by
  cases i with
  |zero=>exact z7d hj 1 v hi
  |succ i=>simp at hi
 refine⟨⟨by omega,by omega⟩,S[j].nm,c1,λh3=>⟨⟨by omega,by omega⟩,S[j].nm,c1,by rw[e1,if_neg h3]⟩,λh3=>⟨⟨by omega,by omega⟩,S[j].k,λi v hi=> ?_,S[j].k,rfl,by rw[e1,if_pos h3]⟩⟩
 cases i with
 |zero=>exact z7d hj 0 v hi
 |succ i=>simp at hi
def zb3:q3m P 104 z6d:=by
 refine qld mixed z0o (W:=λ_=>{}) Try.func104 (by kernel_rfl) (by decide) (by decide) (λc=>by kernel_rfl) λ(c:Int)=>(zb2 c).mpr ?_
 rintro⟨h1,h2⟩
 obtain⟨n,rfl⟩:=Int.eq_ofNat_of_zero_le h1
 simp only[decide_eq_true_eq,decide_eq_false_iff_not,Int.toNat_natCast,and_true]
 repeat' first|intro _|apply And.intro
 all_goals (rw[Bool.eq_iff_iff];simp[isLt];omega)
def ze1:q3m P 105 za3:=by
 refine qld mixed z0o (W:=λ_=>{}) Try.func105 (by kernel_rfl) (by decide) (by decide) (λc=>by kernel_rfl) λ(c:Int)=>(ze0 c).mpr ?_
 rintro⟨h1,h2⟩
 obtain⟨n,rfl⟩:=Int.eq_ofNat_of_zero_le h1
 simp only[decide_eq_true_eq,decide_eq_false_iff_not,Int.toNat_natCast,and_true]
 repeat' first|intro _|apply And.intro
 all_goals (rw[Bool.eq_iff_iff];simp[zja];omega)
def zpl(h:j<s.size):ptA s (s.size- j) j=(ptC s j&&ptA s (s.size- (j+1)) (j+1)):=by
 rw[show s.size- j=s.size- (j+1)+1 by omega,ptA,if_pos h]
def z6p:q3m P 94 z8m:=by
 refine qld mixed (qdw (qhr zb3 (qhr ze1 qkx))) (W:=zqa) Try.func94 (by kernel_rfl) (by decide) (by decide) (λs=>by kernel_rfl) λ(s:ByteArray)=>(zjw s).mpr ?_
 simp only[decide_eq_true_eq,decide_eq_false_iff_not,Bool.not_eq_true',Bool.not_eq_false',true_and,and_true,eq_self,Int.toNat_natCast]
 intro hs
 refine⟨⟨0,rfl,by omega,rfl⟩,?_⟩
 rintro j ⟨hj,ht⟩
 have hb:=z3g s j
 refine⟨λhlt=> ?_,λhge=> ?_⟩
 ·have hd:=zpl (s:=s) (j:=j) (by omega)
  rw[ht]at hd
  refine⟨⟨by omega,by omega⟩,⟨by omega,by omega⟩,λh1=>⟨λh2=> ?_,λh2=>⟨⟨by omega,by omega⟩,⟨by omega,by omega⟩,λh3=> ?_,λh3=>⟨by omega,j+1,by omega,⟨by omega,?_⟩,by omega⟩⟩⟩,λh1=>⟨by omega,j+1,by omega,⟨by omega,?_⟩,by omega⟩⟩
  ·unfold z1v;rw[hd];unfold ptC;rw[h1,decide_eq_false (by omega)];rfl
  ·unfold z1v;rw[hd];unfold ptC;rw[h1,h3,Bool.and_false];rfl
  ·rw[hd];unfold ptC;rw[h1,h3,decide_eq_true (by omega)];rfl
  ·rw[hd];unfold ptC;rw[h1];rfl
 ·rw[show s.size- j=0 by omega,ptA]at ht
  unfold z1v;rw[←ht]
  exact zag (by omega)
def zjx{s q:ByteArray} (h:j<s.size+1):zdn s (s.size+1- j) j q=if j<s.size/\bat s j≠46 then zdn s (s.size+1- (j+1)) (j+1) (q++s.extract j (j+1))else if z1v q=true then zdn s (s.size+1- (j+1)) (j+1) (mkS [])else false:=by
 rw[show s.size+1- j=s.size+1- (j+1)+1 by omega,zdn]
def zf2:q3m P 93 z7g:=by
 refine qld mixed (qdw (qhr z6p qkx)) (W:=zia) Try.func93 (by kernel_rfl) (by decide) (by decide) (λs=>by kernel_rfl) λ(s:ByteArray)=>(zf1 s).mpr ?_
 simp only[decide_eq_true_eq,decide_eq_false_iff_not,Bool.not_eq_true',Bool.not_eq_false',true_and,and_true,eq_self,Int.toNat_natCast]
 intro hs
 refine⟨⟨⟨0,mkS []⟩,rfl,rfl,by omega,Nat.le_refl _,rfl⟩,?_⟩
 rintro⟨j,q⟩ ⟨hj,hq,ht⟩
 simp only at hj hq ht⊢
 have t1:((j:Int)+1).toNat=j+1:=by omega
 refine⟨λhle=> ?_,λhge=> ?_⟩
 ·have hd:=zjx (s:=s) (q:=q) (j:=j) (by omega)
  rw[ht]at hd
  rw[t1]
  refine⟨λhlt=>⟨⟨by omega,by omega⟩,λh46=>⟨by omega,⟨by omega,by omega,by omega⟩,?_,by omega,⟨j+1,q++s.extract j (j+1)⟩,rfl,rfl,⟨by show j+1<=_;omega,?_,?_⟩,by show s.size+1- (j+1)<_;omega⟩,λh46=>⟨by omega,λhp=> ?_,λhp=>⟨by omega,⟨j+1,mkS []⟩,rfl,rfl,⟨by show j+1<=_;omega,Nat.zero_le _,?_⟩,by show s.size+1- (j+1)<_;omega⟩⟩⟩,λhge=>⟨by omega,λhp=> ?_,λhp=>⟨by omega,⟨j+1,mkS []⟩,rfl,rfl,⟨by show j+1<=_;omega,Nat.zero_le _,?_⟩,by show s.size+1- (j+1)<_;omega⟩⟩⟩
  ·rw[ByteArray.size_extract];omega
  ·show(q++s.extract j (j+1)).size<=j+1
   rw[ByteArray.size_append,ByteArray.size_extract];omega
  ·rw[hd,if_pos ⟨by omega,by omega⟩]
  ·rw[hd,if_neg (by omega),hp];rfl
  ·rw[hd,if_neg (by omega),if_pos hp]
  ·rw[hd,if_neg (by omega),hp];rfl
  ·rw[hd,if_neg (by omega),if_pos hp]
 ·rw[show s.size+1- j=0 by omega,zdn]at ht
  exact ht.symm
def za1:q3m P 73 z4n:=by
 refine qld mixed z0o (W:=zca) Try.func73 (by kernel_rfl) (by decide) (by decide) (λs=>by kernel_rfl) λ(s:ByteArray)=>(za0 s).mpr ?_
 simp only[decide_eq_true_eq,decide_eq_false_iff_not,Bool.not_eq_true',Bool.not_eq_false',true_and,and_true,eq_self,Int.toNat_natCast]
 intro hs
 refine⟨by omega,⟨s.size,rfl,Nat.le_refl _,rfl⟩,?_⟩
 rintro j ⟨hj,ht⟩
 refine⟨λh0=> ?_,λh0=> ?_⟩
 ·obtain⟨i,rfl⟩:∃i,j=i+1:=⟨j- 1,by omega⟩
  have e:((i+1:Nat):Int)- 1=(i:Int):=by omega
  rw[z4m]at ht
  rw[e,Int.toNat_natCast]
  refine⟨⟨by omega,by omega⟩,λh=>⟨⟨by omega,by omega⟩,?_⟩,λh=>⟨by omega,i,by omega,⟨by omega,?_⟩,by omega⟩⟩
  ·rw[←ht,if_pos (by omega)]
  ·rw[←ht,if_neg (by omega)]
 ·obtain rfl:j=0:=by omega
  rw[z4m]at ht;exact ht.symm
def zaw:q3m P 69 zdt:=by
 refine qld mixed z0o (W:=λ_=>{}) Try.func69 (by kernel_rfl) (by decide) (by decide) (λs=>by kernel_rfl) λ⟨a,b⟩=>(join_eq a b).mpr ?_
 simp only[decide_eq_true_eq,decide_eq_false_iff_not,Bool.not_eq_true',Bool.not_eq_false',true_and,and_true,eq_self,Int.toNat_natCast]
 rintro⟨ha,hb⟩
 have z:(mkS [46]).size=1:=rfl
 unfold z1u
 refine⟨λh=>⟨by omega,if_pos (.inl h)⟩,λh=>⟨λh2=>⟨by omega,if_pos (.inr h2)⟩,λh2=>⟨by omega,by rw[ByteArray.size_append];omega,if_neg (by simp[h,h2])⟩⟩⟩
def ziy(h:j<s.size):zhp s (s.size- j) j=(decide (bat s j=46)||zhp s (s.size- (j+1)) (j+1)):=by
 rw[show s.size- j=s.size- (j+1)+1 by omega,zhp,if_pos h]
def z8y{a b:ByteArray}:(z1u a b).size<=a.size+b.size+1:=by
 have z:(mkS [46]).size=1:=rfl
 unfold z1u
 split
 ·rw[ByteArray.size_append];omega
 ·rw[ByteArray.size_append,ByteArray.size_append];omega
def z3q{a b:ByteArray}:(z10 a b).size<=a.size+b.size+1:=by
 unfold z10
 split
 ·omega
 ·have:=z8y (a:=b) (b:=a);omega
def zcg:q3m P 72 z4s:=by
 refine qld mixed (qdw (qhr zaw (qhr zf2 (qhr z0w qkx)))) (W:=zih) Try.func72 (by kernel_rfl) (by decide) (by decide) (λs=>by kernel_rfl) λ⟨S,(e:Int),a,b⟩=>(zcf S e a b).mpr ?_
 simp only[decide_eq_true_eq,decide_eq_false_iff_not,Bool.not_eq_true',Bool.not_eq_false',true_and,and_true,eq_self,Int.toNat_natCast]
 rintro⟨ha,hb⟩
 have hw:=z3q (a:=a) (b:=b)
 refine⟨⟨by omega,by omega⟩,⟨⟨0,z1u b a⟩,rfl,rfl,Nat.zero_le _,rfl⟩,?_⟩
 rintro⟨j,q⟩ ⟨hj,ht⟩
 simp only at hj ht⊢
 refine⟨λhlt=> ?_,λhge=> ?_⟩
 ·have hd:=ziy (s:=a) (j:=j) (by omega)
  rw[hd]at ht
  refine⟨⟨by omega,by omega⟩,λh=>⟨by omega,⟨j+1,a⟩,rfl,by show((j+1:Nat):Int)=_;omega,⟨by show j+1<=_;omega,?_⟩,by show a.size- (j+1)<_;omega⟩,λh=>⟨by omega,⟨j+1,q⟩,rfl,by show((j+1:Nat):Int)=_;omega,⟨by show j+1<=_;omega,?_⟩,by show a.size- (j+1)<_;omega⟩⟩
  ·rw[decide_eq_true (by omega),Bool.true_or,if_pos rfl]at ht
   rw[←ht];exact ite_self _
  ·rw[decide_eq_false (by omega),Bool.false_or]at ht
   exact ht
 ·rw[show a.size- j=0 by omega,zhp,if_neg (by simp)]at ht
  rw[ht]
  unfold whE
  refine⟨λh=>⟨S,rfl,rfl,rfl,rfl,if_pos (.inl h),rfl⟩,λh=>⟨by omega,λh2=>⟨S,rfl,rfl,rfl,rfl,if_pos (.inr h2),rfl⟩,λh2=>⟨rfl,if_neg (by rw[h2];simp[h])⟩⟩⟩
def z21:q3m P 47 z3y:=by
 refine qld mixed z0o (W:=zq5) Try.func47 (by kernel_rfl) (by decide) (by decide) (λs=>by kernel_rfl) λ⟨g,s⟩=>(zj4 g s).mpr ?_
 rintro hw ⟨p,_,hp⟩
 rw[GJ.wf_eq]at hw
 obtain⟨_,hl,hnl,_⟩:=hw
 have gx:=λq (hq:g.ok q)=>(by rw[GJ.ok_eq]at hq;exact hq.2.1:slP txV g.x g.nm q)
 have gy:=λq (hq:g.ok q)=>(by rw[GJ.ok_eq]at hq;exact hq.1:slP GJ.cells g.y g.l q)
 have xl:g.x.2.1=g.nm.length:=(gx p hp).1
 have yl:g.y.2.1=g.l.length:=(gy p hp).1
 simp only[sbS,Int.toNat_natCast,xl,yl]
 refine⟨⟨0,rfl,by omega,rfl⟩,?_⟩
 rintro j ⟨hj,ht⟩
 have none0:z0e s g=none->(((z0e s g).getD zJ).k=0/\((z0e s g).getD zJ).n=0/\((z0e s g).getD zJ).s=mkS []/\((z0e s g).getD zJ).y.1=noA/\((z0e s g).getD zJ).y.2.1=0/\((z0e s g).getD zJ).y.2.2=0/\((z0e s g).getD zJ).x.1=noA/\((z0e s g).getD zJ).x.2.1=0/\((z0e s g).getD zJ).x.2.2=0/\(z0e s g).isSome=false):=λh=>by
  rw[h];exact⟨rfl,rfl,rfl,rfl,rfl,rfl,rfl,rfl,rfl,rfl⟩
 have endd:g.nm.length<=j->z0e s g=none:=λh=>by
  rw[←ht,List.drop_of_length_le h]
  split
  ·rw[z2v];intros;simp at*
  ·rfl
 refine⟨λh6=>⟨λhlt=>⟨λhlt2=> ?_,λh=>by omega⟩,λh=>none0 (endd (by omega))⟩,λh6=>none0 (by rw[←ht,if_neg h6])⟩
 have h1:j<g.nm.length:=by omega
 have h2:j<g.l.length:=by omega
 have hd:=z5r (s:=s) h1 h2
 rw[if_pos h6]at ht
 rw[ht]at hd
 refine⟨⟨by omega,by omega⟩,(z87 (gx p hp) h1).1,g.nm[j],λq hq=>(z87 (gx q hq) h1).2,λhs=> ?_,λhs=>⟨by omega,j+1,by omega,⟨by omega,?_⟩,by omega⟩⟩
 ·rw[if_pos hs]at hd
  refine⟨⟨by omega,by omega⟩,(zeh (gy p hp) h2).1,g.l[j].k,g.l[j].n,g.l[j].s,g.l[j].y.1,g.l[j].y.2.1,g.l[j].y.2.2,g.l[j].x.1,g.l[j].x.2.1,g.l[j].x.2.2,λq hq=>(zeh (gy q hq) h2).2,?_⟩
  rw[hd]
  exact⟨rfl,rfl,rfl,rfl,rfl,rfl,rfl,rfl,rfl,rfl⟩
 ·rw[if_neg hs]at hd
  rw[if_pos h6]
  exact hd.symm
def z52:q3m P 71 z5p:=by
  refine qld mixed (qdw (qhr z21 (qhr z0w qkx))) (W:=λ_=>{}) Try.func71 (by kernel_rfl) (by decide) (by decide) (λs=>by kernel_rfl) λ⟨S,(e:Int),g,s,b⟩=>(zfz S e g s b).mpr ?_
  rintro hw ⟨p,_,hp⟩
  simp only[sbS,Int.toNat_natCast]
  refine⟨⟨g,s⟩,rfl,rfl,rfl,rfl,rfl,rfl,rfl,rfl,rfl,rfl,hw,λq hq=>hq,?_⟩
  simp only
  unfold woR
  cases hk:z0e s g with
  | none=>
    refine⟨λ_=>⟨λhb=> ?_,λhb=>⟨λ_=>⟨S,rfl,rfl,?_,rfl,?_,rfl⟩,λh=>absurd h (by simp)⟩⟩,λh=>absurd h (by simp)⟩
    · simp only[hb];refine⟨?_,?_⟩<;>first|rfl|trivial
    · simp only[hb];rfl
    · simp only[hb];rfl
  | some t=>
    refine⟨λh=>absurd h (by simp),λ_=>⟨λh=>absurd h (by simp),λ_=>⟨λh4=>⟨S,rfl,rfl,?_,rfl,?_,rfl⟩,λh4=> ?_⟩⟩⟩
    · have h4:¬t.k=4:=h4
      simp only[if_neg h4]
    · have h4:¬t.k=4:=h4
      simp only[if_neg h4]
    · have h4:t.k=4:=h4
      simp only[if_pos h4];refine⟨?_,?_⟩<;>first|rfl|trivial
end
def z2t:List GJ->Int->List ByteArray->List ByteArray×Int
 | [],e,acc=>(acc,e)
 |g::l,e,acc=>if e=0 then z2t l (if g.k=4 then 0 else 2) (acc++[g.s])else(acc,e)
def tyE(g:GJ) (s:ByteArray) (e:Int):Int:=if((z0e s g).getD zJ).k=5 then e else faE e 2
def z1j(g:GJ) (s:ByteArray) (e:Int):List ByteArray×Bool×Int:=if(z0e s g).isSome=true then((z2t ((z0e s g).getD zJ).l (tyE g s e) []).1,true,(z2t ((z0e s g).getD zJ).l (tyE g s e) []).2)else([],false,e)
def j6i(l:List ByteArray):List SV->PF
 | [x]=>⟨true,slP txV x l,λ_ _ h e=>z0a h e⟩
 |_=>{}
def z4f:Ct where
 σ:=List AT×Int×GJ×ByteArray
 args:=λ⟨S,e,g,s⟩=>[.ptr 1 0,g.av, .sv (.string s)]
 h:=λ⟨S,e,g,s⟩=>mkO S e 2 3
 m:=4
 pre:=λ⟨S,e,g,s⟩=>g.wf
 mem:=λ⟨S,e,g,s⟩=>gM g
 r:=λ⟨S,e,g,s⟩=> .tup [.tsl 4, .sv (.bool (z1j g s e).2.1)]
 h':=λ⟨S,e,g,s⟩=>mkO S (z1j g s e).2.2 2 3
 m':=5
 g:=λ⟨S,e,g,s⟩=>some {β:=Unit,ks:=[4],pre:=λ_=>True,mem:=λ_ xs=>j6i (z1j g s e).1 xs}
def mkC(S:List AT) (e:Int) (r k:Nat):Nat×AO:=(1, .cells 85 (some 0) false [.ssl r 0 S.length 10 k, .sv (.int .i64 e)])
def zie:z4f.σ->WayF:=λ⟨S,e,g,s⟩=>{
 cut:=λi _ _=>match i with
  |6=>some {σ:=Unit,t:=λ_=>[],h:=λ_=>[mkC S (tyE g s e) 2 3],more:=0,μ:=λ_=>0,keep:=[0,6,7,8]}
  |_=>none
 ann:=λ_ _ _=>some {σ:=Nat×Int×List ByteArray,pre:=λ⟨j,e',acc⟩=>j<=((z0e s g).getD zJ).l.length/\acc.length<=j/\z2t (((z0e s g).getD zJ).l.drop j) e' acc=z2t ((z0e s g).getD zJ).l (tyE g s e) [],t:=λ⟨j,e',acc⟩=>[(11, .sv (.int .i64 (j:Int))),(10, .ssl 7 0 acc.length 1 8)],h:=λ⟨j,e',acc⟩=>[(7, .row 9 0 (z00 txV acc)),mkC S e' 2 3],more:=2,μ:=λ⟨j,e',acc⟩=>((z0e s g).getD zJ).l.length- j,keep:=[0,6,7,8]}
 pubE:=[6]}
def z1f(n:Nat) (a:AT):Prop:=(1<=a.k/\a.k<=14)/\(a.k=12\/a.k=13->0<=a.it/\a.it<n)/\(∀b∈a.brs,0<=b/\b<n)/\(a.k=14->a.brs≠[])/\(∀f∈a.fs,(0<=f.ty/\f.ty<n)/\f.df.wf)/\(a.k=10->a.sys≠[])/\(a.k=11->0<=a.sz/\a.sz<=5000)/\(a.fs.length<=30/\a.brs.length<=30/\a.sys.length<=30)
def grown(S:List AT) (e:Int) (T:List AT) (e':Int):Prop:=(S++T).length<=60/\(e'=0->e=0/\∀a∈T,z1f (S++T).length a)
def toM(T:List AT):PF:=⟨true,λp=>∀a∈T,a.ok p,λ_ _ h e a ha=>AT.ok_mono h (e a ha)⟩
abbrev TmB:=List AT×Int×Int
def z7h:CtR where
 σ:=List AT×Int×ByteArray×ByteArray
 args:=λ⟨S,e,s,sp⟩=>[.ptr 1 0, .sv (.string s), .sv (.string sp)]
 h:=λ⟨S,e,s,sp⟩=>mkO S e 2 3
 m:=4
 pre:=λ⟨S,e,s,sp⟩=>S.length<=60/\s.size<100000/\sp.size<100000
 β:=λ_=>TmB
 post:=λ⟨S,e,s,sp⟩ ⟨T,e',r⟩=>grown S e T e'/\(e'=0->0<=r/\r<(S++T).length)
 pm:=λ_ ⟨T,e',r⟩=>toM T
 r:=λ_ ⟨T,e',r⟩=> .sv (.int .i64 r)
 h':=λ⟨S,e,s,sp⟩ ⟨T,e',r⟩=>mkO (S++T) e' 4 5
 m':=6
def zid:z7h.σ->WayF:=λ⟨S,e,s,sp⟩=>{
 cut:=λi _ _=>match i with
  |4=>some {σ:=Unit,t:=λ_=>[],h:=λ_=>[],more:=0,μ:=λ_=>0,keep:=[0,1,2,6,7]}
  |_=>none
 ann:=λ_ _ _=>some {σ:=Nat×Bool,pre:=λ⟨j,d⟩=>j<=s.size,t:=λ⟨j,d⟩=>[(9, .sv (.int .i64 (j:Int))),(8, .sv (.bool d))],h:=λ_=>[],more:=0,μ:=λ⟨j,d⟩=>s.size- j,keep:=[0,1,2,6,7]}}
section
variable (x0:GJ×ByteArray) (x1:List AT) (x2:Int) (x3:GJ) (x4:ByteArray) (x5:Nat×Int×List ByteArray) (x6:Prop) (x7:Nat×Int×List ByteArray) (x8:Nat->Option Obj) (x9:Nat) (x10:Option Addr)
 abbrev z99:=z00 AT.cells x1=z00 AT.cells x1
 abbrev z31:=Option.getD (z0e x0.2 x0.1) zJ
 def zr0:=GJ.k (z31 x0)=GJ.k (z31 x0)/\GJ.n (z31 x0)=GJ.n (z31 x0)/\GJ.s (z31 x0)=GJ.s (z31 x0)/\(GJ.y (z31 x0)).1=(GJ.y (z31 x0)).1/\(GJ.y (z31 x0)).2.1=(GJ.y (z31 x0)).2.1/\(GJ.y (z31 x0)).2.2=(GJ.y (z31 x0)).2.2/\(GJ.x (z31 x0)).1=(GJ.x (z31 x0)).1/\(GJ.x (z31 x0)).2.1=(GJ.x (z31 x0)).2.1/\(GJ.x (z31 x0)).2.2=(GJ.x (z31 x0)).2.2/\(∀i0,True/\GJ.ok x3 i0->True/\GJ.ok x3 i0)/\x6
 abbrev z9a:=GJ.l (Option.getD (z0e x4 x3) zJ)
 def zux:=x5.1<=length (z9a x3 x4)/\length x5.2.2<=x5.1/\z2t (drop x5.1 (z9a x3 x4)) x5.2.1 x5.2.2=z2t (z9a x3 x4) (tyE x3 x4 x2) []
 abbrev zkw:=(↑x5.1:Int)<(↑(GJ.y (z31 x0)).2.1:Int)
 def zg8:=(0<=(↑x5.1:Int)/\zkw x0 x5)/\(GJ.y (z31 x0)).1≠noA/\x6
 def zku:=(∀i0,True/\GJ.ok x3 i0->q3i i0 (Addr.add (adr (GJ.y (z31 x0)).1 (toNat (↑x5.1:Int)*5)) 2) [string x4])/\length (z00 txV x5.2.2)=length x5.2.2*1/\(length x5.2.2+nat_lit 1)*16<=140737488355328/\Jb ((↑x5.1:Int)+1)/\x6
 def zkx:=(↑x5.1:Int)=(↑x7.1:Int)+1/\length x5.2.2=length x7.2.2+nat_lit 1/\x6
 def zkv:=zr0 x0 x3 ((zux x2 x3 x4 x5)/\length (z9a x3 x4)- x5.1<length (z9a x3 x4)- x7.1/\True)
 def zzu:=zg8 x0 x5 (∃i0,zku x0 x3 i0 x5 (∃(i2:Nat×Int×List ByteArray),zkx i2 (length x1=length x1/\i2.2.1=x5.2.1/\z00 txV i2.2.2=z00 txV x5.2.2++[string i0]/\z99 x1/\zkv x0 x2 x3 x4 i2 x5) x5))
 def zzt:=zg8 x0 x5 (∃(i0:Int),(∀i1,True/\GJ.ok x3 i1->q3i i1 (Addr.add (adr (GJ.y (z31 x0)).1 (toNat (↑x5.1:Int)*5)) 0) [int i64 i0])/\((!decide (i0=4))=true->∃(i2:List AT),(2:Int)=2/\length i2=length x1/\x5.2.1=x5.2.1/\z00 AT.cells i2=z00 AT.cells x1/\True/\zg8 x0 x5 (∃i3,zku x0 x3 i3 x5 (∃(i5:Nat×Int×List ByteArray),zkx i5 (length x1=length i2/\i5.2.1=faE x5.2.1 2/\z00 txV i5.2.2=z00 txV x5.2.2++[string i3]/\z00 AT.cells x1=z00 AT.cells i2/\zkv x0 x2 x3 x4 i5 x5) x5)))/\((!decide (i0=4))=false->zzu x0 x1 x2 x3 x4 x5))
 def zky:=(True/\GJ.ok x3 x8)/\length x5.2.2<=x9/\qhu x8 x10 (take (length x5.2.2*nat_lit 1) (z00 txV x5.2.2))
 def zw3:=∀(i0 i1 i2:Nat) (i3:Option Addr) (i4 i5:Nat),(∃i6,zky x3 x5 i6 i5 i3)->∃(i7:Unit),i3=i3/\length x5.2.2=length x5.2.2/\i5=i5/\(z1j x3 x4 x2).2.1=true/\length x1=length x1/\(z1j x3 x4 x2).2.2=x5.2.1/\z99 x1/\Pl i3/\True/\(∀i8,zky x3 x5 i8 i5 i3->slP txV (i3,length x5.2.2,i5) (z1j x3 x4 x2).1 i8)/\True
 def zzs:=Ji (x5.2.1=0) (zzt x0 x1 x2 x3 x4 x5) (zw3 x1 x2 x3 x4 x5)
 abbrev zzr:=Ji (zkw x0 x5) (zzs x0 x1 x2 x3 x4 x5) (zw3 x1 x2 x3 x4 x5)
 def zzq:=(∃(i0:Nat×Int×List ByteArray),(↑i0.1:Int)=0/\length i0.2.2=0/\length x1=length x1/\i0.2.1=tyE x3 x4 x2/\z99 x1/\zr0 x0 x3 ((zux x2 x3 x4 i0)/\True))/\∀(i2:Nat×Int×List ByteArray),zux x2 x3 x4 i2->zzr x0 x1 x2 x3 x4 i2
 def zzp:=(((!decide (GJ.k (z31 x0)=5))=true->∃(i0:List AT),(2:Int)=2/\length i0=length x1/\x2=x2/\z00 AT.cells i0=z00 AT.cells x1/\True/\∃(i1:Unit),length x1=length i0/\tyE x3 x4 x2=faE x2 2/\z00 AT.cells x1=z00 AT.cells i0/\zr0 x0 x3 (True/\True))/\((!decide (GJ.k (z31 x0)=5))=false->∃(i3:Unit),length x1=length x1/\tyE x3 x4 x2=x2/\z99 x1/\zr0 x0 x3 (True/\True)))/\∀(i5:Unit),True->zzq x0 x1 x2 x3 x4
end
def zbw(S:List AT) (e:Int) (g:GJ) (s:ByteArray):qla P (qgc [(47,z3y),(44,z1h)]) Try.f74 z4f (zie) ⟨S,e,g,s⟩=(GJ.wf g->(∃(p:Pub),True/\GJ.ok g p)->∃(s_1:GJ×ByteArray),GJ.k s_1.1=GJ.k g/\GJ.n s_1.1=GJ.n g/\GJ.s s_1.1=GJ.s g/\(GJ.y s_1.1).1=(GJ.y g).1/\(GJ.y s_1.1).2.1=(GJ.y g).2.1/\(GJ.y s_1.1).2.2=(GJ.y g).2.2/\(GJ.x s_1.1).1=(GJ.x g).1/\(GJ.x s_1.1).2.1=(GJ.x g).2.1/\(GJ.x s_1.1).2.2=(GJ.x g).2.2/\s_1.2=s/\GJ.wf s_1.1/\(∀(p:Pub),True/\GJ.ok g p->GJ.ok s_1.1 p)/\((!Option.isSome (z0e s_1.2 s_1.1))=true->∃(b:Unit),noA=noA/\(0:Nat)=0/\(0:Nat)=0/\(z1j g s e).2.1=false/\length S=length S/\(z1j g s e).2.2=e/\z99 S/\Pl noA/\True/\(∀(p:Pub),True/\GJ.ok g p->slP txV (noA,(0:Nat),(0:Nat)) (z1j g s e).1 p)/\True)/\((!Option.isSome (z0e s_1.2 s_1.1))=false->zzp s_1 S e g s)):=by kernel_rfl
def zfm:=λS e g s=>Eq.trans (zbw S e g s) (by delta Ji Jb Jt Jf z99 z31 zr0 z9a zux zkw zg8 zku zkx zkv zzu zzt zky zw3 zzs zzr zzq zzp;exact rfl)
section
variable (x0:ByteArray) (x1:List AT) (x2:Int) (x3:ByteArray) (x4:Nat×Bool) (x5:TmB) (x6:List AT) (x7:Prop) (x8:Nat×Bool)
 abbrev zuy:=(grown x1 x2 x5.1 x5.2.1/\(x5.2.1=0->0<=x5.2.2/\x5.2.2<(↑(length (x1++x5.1)):Int)))/\(∀i0,True->∀(i1:AT),i1∈x5.1->AT.ok i1 i0)/\True
 def z9b:=length x1=length x1/\x2=x2/\z00 AT.cells x1=z00 AT.cells x1/\x7
 def j00:=Ji (z0d x0<=8) (∃(i0:List AT×Int×AT),AT.k i0.2.2=z0d x0/\AT.nm i0.2.2=mkS []/\(AT.al i0.2.2).1=noA/\(AT.al i0.2.2).2.1=0/\(AT.al i0.2.2).2.2=0/\AT.it i0.2.2=0/\(AT.sy i0.2.2).1=noA/\(AT.sy i0.2.2).2.1=0/\(AT.sy i0.2.2).2.2=0/\AT.hd i0.2.2=false/\AT.df i0.2.2=mkS []/\AT.sz i0.2.2=0/\(AT.f i0.2.2).1=noA/\(AT.f i0.2.2).2.1=0/\(AT.f i0.2.2).2.2=0/\(AT.br i0.2.2).1=noA/\(AT.br i0.2.2).2.1=0/\(AT.br i0.2.2).2.2=0/\length i0.1=length x1/\i0.2.1=x2/\z00 AT.cells i0.1=z00 AT.cells x1/\True/\∃(i1:TmB),i1.2.2=adR i0.1/\length (x1++i1.1)=length (adS i0.1 i0.2.2)/\i1.2.1=adE i0.1 i0.2.1/\z00 AT.cells (x1++i1.1)=z00 AT.cells (adS i0.1 i0.2.2)/\zuy x1 x2 i1) (∃(i4:Unit),x0=x0/\z0d x0=z0d x0/\x3=x3/\z9b x1 x2 (True/\True))
 abbrev zkz:=Jb ((↑x4.1:Int)+1)
 def zl1:=x4.1<=size x0/\size x0- x4.1<size x0- x8.1/\True
 def zr1:=zkz x4/\∃(i0:Nat×Bool),x0=x0/\z0d x0=z0d x0/\(↑i0.1:Int)=(↑x4.1:Int)+1/\x3=x3/\i0.2=true/\z9b x1 x2 (zl1 x0 i0 x4)
 def j02:=(0<=(↑x4.1:Int)/\(↑x4.1:Int)<(↑(size x0):Int))/\zkz x4/\∃(i0:Nat×Bool),x0=x0/\z0d x0=z0d x0/\(↑i0.1:Int)=(↑x4.1:Int)+1/\x3=x3/\i0.2=decide ((↑(bat x0 (toNat (↑x4.1:Int))):Int)=46)/\z9b x1 x2 (zl1 x0 i0 x4)
 def j01:=(x4.2=true->zr1 x0 x1 x2 x3 x4)/\(x4.2=false->j02 x0 x1 x2 x3 x4)
 def zcn:=length x1=length x6/\x2=x2/\z00 AT.cells x1=z00 AT.cells x6/\x7
 def zl0:=length (x1++x5.1)=length x6/\x5.2.1=x2/\z00 AT.cells (x1++x5.1)=z00 AT.cells x6/\zuy x1 x2 x5
 def zw4:=length x1<1000/\((!Option.isSome (findF x0 x1 0))=true->∃(i0:List AT),(4:Int)=4/\zcn i0 x2 x1 (True/\∃(i1:TmB),i1.2.2=0/\length (x6++i1.1)=length i0/\i1.2.1=faE x2 4/\z00 AT.cells (x6++i1.1)=z00 AT.cells i0/\zuy x6 x2 i1))/\((!Option.isSome (findF x0 x1 0))=false->∃(i2:TmB),i2.2.2=fnI (findF x0 x1 0)/\zl0 x6 x2 i2 x1)
 def zzz:=x0=x0/\x3=x3/\(size x0<1000000/\size x3<1000000)/\∃(i0:List AT),z1u x0 x3=z1u x0 x3/\zcn i0 x2 x1 (length i0<1000/\(Option.isSome (findF (z1u x0 x3) i0 0)=true->∃(i1:TmB),i1.2.2=fnI (findF (z1u x0 x3) i0 0)/\zl0 x1 x2 i1 i0)/\(Option.isSome (findF (z1u x0 x3) i0 0)=false->∃(i4:List AT),x3=x3/\zcn i4 x2 i0 (zw4 x3 i4 x2 x1)))
 def zzy:=((!x4.2)=true->zzz x0 x1 x2 x3)/\((!x4.2)=false->∃(i12:List AT),x3=x3/\zcn i12 x2 x1 (zw4 x3 i12 x2 x1))
 def zzx:=Ji ((↑x4.1:Int)<(↑(size x0):Int)) (j01 x0 x1 x2 x3 x4) (zzy x3 x1 x2 x0 x4)
 def zzw:=(∃(i0:Nat×Bool),x0=x0/\z0d x0=z0d x0/\(↑i0.1:Int)=0/\x3=x3/\i0.2=false/\z9b x1 x2 (i0.1<=size x0/\True))/\∀(i1:Nat×Bool),i1.1<=size x0->zzx x0 x1 x2 x3 i1
 def zzv:=x0=x0/\True/\(Ji (1<=z0d x0) (j00 x0 x1 x2 x3) (∃(i5:Unit),x0=x0/\z0d x0=z0d x0/\x3=x3/\z9b x1 x2 (True/\True)))/\∀(i6:Unit),True->zzw x0 x1 x2 x3
end
def zbv(S:List AT) (e:Int) (s sp:ByteArray):qlb P (qgc [(49,za7),(50,zoq),(69,zdt),(68,za4),(44,z1h)]) (qhg []) Try.f45 z7h (zid) ⟨S,e,s,sp⟩=(length S<=60/\size s<100000/\size sp<100000->zzv s S e sp):=by kernel_rfl
def zfk:=λS e s sp=>Eq.trans (zbv S e s sp) (by delta Ji Jb Jt Jf zuy z9b j00 zkz zl1 zr1 j02 j01 zcn zl0 zw4 zzz zzy zzx zzw zzv;exact rfl)
section
def z7o{s:ByteArray}:∀{nm:List ByteArray} {l:List GJ} {t:GJ},z2v s nm l=some t->∃(i:Nat) (h:i<l.length),t=l[i]
  | [],l,t,h=>by simp[z2v]at h
  |x::nm,[],t,h=>by simp[z2v]at h
  | x::nm,g::l,t,h=>by
    rw[z2v]at h
    split at h
    · cases h;exact⟨0,by simp,rfl⟩
    · obtain⟨i,hi,e⟩:=z7o h;exact⟨i+1,by simpa using hi,by simpa using e⟩
variable {s:ByteArray}
def z8w{g t:GJ} (h:z0e s g=some t) (hw:g.wf):t.wf/\∀p,g.ok p->t.ok p:=by
 unfold z0e at h
 split at h
 ·obtain⟨i,hi,rfl⟩:=z7o h
  rw[GJ.wf_eq]at hw
  exact⟨GJ.wfs_at hw.2.2.2.2.2.2 hi,λp hp=>by rw[GJ.ok_eq]at hp;exact GJ.oks_at hp.2.2 hi⟩
 ·cases h
def zqg:zJ.wf:=by
 unfold zJ GJ.wf GJ.wfs
 exact⟨by decide,by decide,by decide,λt h=>by simp at h,⟨by decide,by decide⟩,λ_=>rfl,trivial⟩
def zqf(p:Pub):zJ.ok p:=by
 unfold zJ GJ.ok GJ.oks;exact⟨z04,z04,trivial⟩
def z0x(s:ByteArray) {g:GJ} (hw:g.wf):((z0e s g).getD zJ).wf/\∀p,g.ok p->((z0e s g).getD zJ).ok p:=by
 cases h:z0e s g with
 |none=>exact⟨zqg,λp _=>zqf p⟩
 |some t=>exact z8w h hw
variable {l:List GJ} {acc:List ByteArray}
def z5z{j:Nat} {e:Int} (h:j<l.length):z2t (l.drop j) e acc=if e=0 then z2t (l.drop (j+1)) (if l[j].k=4 then 0 else 2) (acc++[l[j].s])else(acc,e):=by
 rw[List.drop_eq_getElem_cons h,z2t]
def z88{j:Nat} {e:Int} (h:l.length<=j\/e≠0):z2t (l.drop j) e acc=(acc,e):=by
 by_cases hj:l.length<=j
 ·rw[List.drop_of_length_le hj,z2t]
 ·rw[z5z (by omega),if_neg (by omega)]
def z8h(x:Addr):x.add 0=x:=by
 cases x;simp[Addr.add]
def z4z:q3m P 74 z4f:=by
  refine qld mixed (qdw (qhr z21 (qhr z0w qkx))) (W:=zie) Try.func74 (by kernel_rfl) (by decide) (by decide) (λs=>by kernel_rfl) λ⟨S,(e:Int),g,s⟩=>(zfm S e g s).mpr ?_
  rintro hg ⟨p,_,hp⟩
  simp only[sbS,exists_const]
  refine⟨⟨g,s⟩,rfl,rfl,rfl,rfl,rfl,rfl,rfl,rfl,rfl,rfl,hg,λq hq=>hq,λhn=> ?_,λhy=> ?_⟩
  · have e0:z1j g s e=([],false,e):=by unfold z1j;rw[if_neg (by rw[hn];decide)]
    rw[e0];exact⟨rfl,rfl,z9u,λq _=>z04⟩
  obtain⟨tw,tok⟩:=z0x s hg
  have e1:z1j g s e=((z2t ((z0e s g).getD zJ).l (tyE g s e) []).1,true,(z2t ((z0e s g).getD zJ).l (tyE g s e) []).2):=by unfold z1j;rw[if_pos hy]
  rw[e1]
  have hty:tyE g s e=if((z0e s g).getD zJ).k=5 then e else faE e 2:=rfl
  simp only
  generalize (z0e s g).getD zJ=t at*
  generalize tyE g s e=e2 at*
  have hy2:=λq (hq:g.ok q)=>(show slP GJ.cells t.y t.l q by have:=tok q hq;rw[GJ.ok_eq]at this;exact this.1)
  have tl:t.y.2.1=t.l.length:=(hy2 p hp).1
  rw[GJ.wf_eq]at tw
  refine⟨⟨λh=>⟨S,rfl,rfl,rfl,by rw[hty,if_neg h],rfl⟩,λh=>by rw[hty,if_pos h]⟩,?_⟩
  rintro _ _
  refine⟨⟨⟨0,e2,[]⟩,rfl,rfl,rfl,by show 0<=_;omega,by show 0<=_;omega,rfl⟩,?_⟩
  rintro⟨j,e',acc⟩ ⟨hj,ha,he⟩
  simp only at*
  have done:z2t (t.l.drop j) e' acc=(acc,e')->∀(a:Option Addr) (c:Nat),(z2t t.l e2 []).2=e'/\∀q,acc.length<=c/\qhu q a (List.take (acc.length*1) (z00 txV acc))->slP txV (a,acc.length,c) (z2t t.l e2 []).1 q:=λh a c=>by
    rw[←he,h]
    refine⟨rfl,λq hq=>⟨rfl,hq.1,?_⟩⟩
    have:=hq.2
    rw[List.take_of_length_le (by rw[z01 z0s];exact Nat.le_refl _)]at this
    exact this
  refine⟨λhlt=>⟨λh0=> ?_,λh0=> ?_⟩,λhge=> ?_⟩
  · have hjl:j<t.l.length:=by omega
    have hat:=λq (hq:g.ok q)=>z0b z2o (by decide) (hy2 q hq) hjl
    have hd:=z5z (e:=e') (acc:=acc) hjl
    rw[if_pos h0]at hd
    have cell:∀q (hq:g.ok q) (k:Nat) (v:Value),t.l[j].cells[k]? =some v->q3i q ((adr t.y.1 (j*5)).add k) [v]:=λq hq k v hv i u hu=>by
      have:=(hat q hq).2
      match i with
      | 0=>
        simp at hu;subst hu
        rw[z8h]
        exact this k v hv
      |i+1=>simp at hu
    refine⟨by omega,(hat p hp).1,t.l[j].k,λq hq=>cell q hq 0 _ rfl,λhk=>⟨S,rfl,rfl,by omega,(hat p hp).1,t.l[j].s,λq hq=>cell q hq 2 _ rfl,z01 z0s acc,by omega,⟨by omega,by omega⟩,⟨j+1,2,acc++[t.l[j].s]⟩,by show((j+1:Nat):Int)=_;omega,by show(acc++[t.l[j].s]).length=_;simp,rfl,by show 2=faE e' 2;unfold faE;rw[if_pos h0],by show z00 txV (acc++[t.l[j].s])=_;rw[z05];rfl,rfl,⟨by show j+1<=_;omega,by show(acc++[t.l[j].s]).length<=j+1;simp;omega,?_⟩,by show _- (j+1)<_;omega⟩,λhk=>⟨by omega,(hat p hp).1,t.l[j].s,λq hq=>cell q hq 2 _ rfl,z01 z0s acc,by omega,⟨by omega,by omega⟩,⟨j+1,0,acc++[t.l[j].s]⟩,by show((j+1:Nat):Int)=_;omega,by show(acc++[t.l[j].s]).length=_;simp,h0.symm,by show z00 txV (acc++[t.l[j].s])=_;rw[z05];rfl,⟨by show j+1<=_;omega,by show(acc++[t.l[j].s]).length<=j+1;simp;omega,?_⟩,by show _- (j+1)<_;omega⟩⟩
    · rw[←he,hd,if_neg hk]
    · rw[←he,hd,if_pos hk]
  · rintro b s4 u a n c ⟨q0,hq0⟩
    obtain⟨d1,d2⟩:=done (z88 (.inr h0)) a c
    exact⟨trivial,d1,rowP_Pl hq0.2.2,λq hq=>d2 q hq.2⟩
  · rintro b s4 u a n c ⟨q0,hq0⟩
    obtain⟨d1,d2⟩:=done (z88 (.inl (by omega))) a c
    exact⟨trivial,d1,rowP_Pl hq0.2.2,λq hq=>d2 q hq.2⟩
def pmT(k it:Int):AT:=⟨k,mkS [],(none,0,0),[],it,(none,0,0),[],false,mkS [],0,(none,0,0),[],(none,0,0),[]⟩
def z80(k it:Int) (p:Pub):(pmT k it).ok p:=⟨z04,z04,z04,z04,λf hf=>absurd hf (by simp[pmT])⟩
def zf3{n:Nat} {k it:Int} (h1:1<=k) (h8:k<=8):z1f n (pmT k it):=by
 have hk:(pmT k it).k=k:=rfl
 unfold z1f
 rw[hk]
 exact⟨⟨h1,by omega⟩,λh=>(by omega),λb hb=>(by cases hb),λh=>(by omega),λf hf=>(by cases hf),λh=>(by omega),λh=>(by omega),Nat.zero_le _,Nat.zero_le _,Nat.zero_le _⟩
def z7l{s:ByteArray}:∀{l:List AT} {i k:Nat},findF s l i=some k->i<=k/\k<i+l.length
  | [],i,k,h=>by simp[findF]at h
  | a::l,i,k,h=>by
    rw[findF]at h
    split at h
    · cases h;simp
    · have:=z7l h;simp;omega
def z7n{S:List AT} (h:(findF s S 0).isSome=true):0<=fnI (findF s S 0)/\fnI (findF s S 0)<S.length:=by
  cases hf:findF s S 0 with
  |none=>rw[hf]at h;cases h
  | some k=>
    have:=z7l hf
    show 0<=(k:Int)/\(k:Int)<_
    omega
def z0j{e0 e:Int} (h:e≠0):faE e0 e≠0:=by unfold faE;split<;>omega
def zfl:q1v P 45 z7h:=by
 refine qkh mixed (qdw (qhr zay (qhr z4l (qhr zaw (qhr z7m (qhr z0w qkx)))))) (qen qkw) (W:=zid) Try.func45 (by kernel_rfl) (by decide) (by decide) (λs=>by kernel_rfl) λ⟨S,(e:Int),s,sp⟩=>(zfk S e s sp).mpr ?_
 rintro⟨hS,hs,hsp⟩
 simp only[sbS,exists_const,forall_const]
 have same:∀r:Int,(0<=r/\r<S.length)->grown S e [] e/\(e=0->0<=r/\r<(S++[]).length):=λr hr=>by
  unfold grown;rw[List.append_nil]
  exact⟨⟨hS,λh=>⟨h,λa ha=>by cases ha⟩⟩,λ_=>hr⟩
 have bad:grown S e [] (faE e 4)/\(faE e 4=0->0<=(0:Int)/\0<((S++[]).length:Int)):=by
  have:=z0j (e0:=e) (e:=4) (by decide)
  unfold grown;rw[List.append_nil]
  exact⟨⟨hS,λh=>absurd h this⟩,λh=>absurd h this⟩
 refine⟨λh1=>λh8=>⟨⟨S,e,pmT (z0d s) 0⟩,rfl,rfl,rfl,rfl,rfl,rfl,rfl,rfl,rfl,rfl,rfl,rfl,rfl,rfl,rfl,rfl,rfl,rfl,rfl,rfl,rfl,?_⟩,?_⟩
 ·by_cases hl:60<=S.length
  ·refine⟨⟨[],adE S e,adR S⟩,rfl,?_,rfl,?_,?_,λp a ha=>by cases ha⟩
   ·show(S++[]).length=(adS S (pmT (z0d s) 0)).length
    unfold adS;rw[if_pos hl,List.append_nil]
   ·show z00 AT.cells (S++[])=z00 AT.cells (adS S (pmT (z0d s) 0))
    unfold adS;rw[if_pos hl,List.append_nil]
   ·have:adE S e≠0:=by unfold adE;rw[if_pos hl];exact z0j (by decide)
    unfold grown
    exact⟨⟨by rw[List.append_nil];exact hS,λh=>absurd h this⟩,λh=>absurd h this⟩
  ·refine⟨⟨[pmT (z0d s) 0],adE S e,adR S⟩,rfl,?_,rfl,?_,?_,λp a ha=> ?_⟩
   ·show(S++[_]).length=(adS S (pmT (z0d s) 0)).length
    unfold adS;rw[if_neg hl]
   ·show z00 AT.cells (S++[_])=z00 AT.cells (adS S (pmT (z0d s) 0))
    unfold adS;rw[if_neg hl]
   ·have e1:adE S e=e:=by unfold adE;rw[if_neg hl]
    have e2:adR S=S.length:=by unfold adR;rw[if_neg hl]
    show grown S e [_] (adE S e)/\(adE S e=0->0<=adR S/\adR S<((S++[_]).length:Int))
    rw[e1,e2]
    refine⟨⟨by simp;omega,λh=>⟨h,λa ha=> ?_⟩⟩,λ_=>by simp;omega⟩
    simp at ha;subst ha
    exact zf3 h1 h8
   ·simp at ha;subst ha;exact z80 _ _ _
 refine⟨⟨⟨0,false⟩,rfl,rfl,Nat.zero_le _⟩,?_⟩
 rintro⟨j,d⟩ hj
 simp only at*
 have tail:∀b1:List AT,b1=S->(b1.length<1000/\((findF s b1 0).isSome=true->0<=fnI (findF s b1 0)/\fnI (findF s b1 0)<S.length)):=λb1 h=>by
  subst h;exact⟨by omega,z7n⟩
 refine⟨λhlt=>⟨λhd=>⟨⟨by omega,by omega⟩,⟨j+1,true⟩,by show((j+1:Nat):Int)=_;omega,rfl,by show j+1<=_;omega,by show _- (j+1)<_;omega⟩,λhd=>⟨⟨by omega,hlt⟩,⟨by omega,by omega⟩,⟨j+1,_⟩,by show((j+1:Nat):Int)=_;omega,rfl,by show j+1<=_;omega,by show _- (j+1)<_;omega⟩⟩,λhge=>⟨λhd=>⟨⟨by omega,by omega⟩,S,rfl,rfl,by omega,λhf=>⟨⟨[],e,fnI (findF (z1u sp s) S 0)⟩,rfl,by rw[List.append_nil],rfl,by rw[List.append_nil],same _ (z7n hf),λp a ha=>by cases ha⟩,λhf=>⟨S,rfl,rfl,by omega,λhg=>⟨S,rfl,rfl,⟨[],faE e 4,0⟩,rfl,by rw[List.append_nil],rfl,by rw[List.append_nil],bad,λp a ha=>by cases ha⟩,λhg=>⟨⟨[],e,fnI (findF s S 0)⟩,rfl,by rw[List.append_nil],rfl,by rw[List.append_nil],same _ (z7n hg),λp a ha=>by cases ha⟩⟩⟩,λhd=>⟨S,rfl,rfl,by omega,λhg=>⟨S,rfl,rfl,⟨[],faE e 4,0⟩,rfl,by rw[List.append_nil],rfl,by rw[List.append_nil],bad,λp a ha=>by cases ha⟩,λhg=>⟨⟨[],e,fnI (findF s S 0)⟩,rfl,by rw[List.append_nil],rfl,by rw[List.append_nil],same _ (z7n hg),λp a ha=>by cases ha⟩⟩⟩⟩
end
abbrev TmS:=List AT×Int×GJ×ByteArray×Int
def z2f:TmS->Prop:=λ⟨S,e,g,sp,d⟩=>S.length<=60/\g.wf/\1<=d/\d<=21/\(sp.size:Int)<=1100*d
def z0g:TmS->TmB->Prop:=λ⟨S,e,g,sp,d⟩ ⟨T,e',r⟩=>grown S e T e'/\(e'=0->0<=r/\r<(S++T).length)
def z1i:CtR where
 σ:=TmS
 args:=λ⟨S,e,g,sp,d⟩=>[.ptr 1 0,g.av, .sv (.string sp), .sv (.int .i64 d)]
 h:=λ⟨S,e,g,sp,d⟩=>mkO S e 2 3
 m:=4
 pre:=z2f
 mem:=λ⟨S,e,g,sp,d⟩=>gM g
 β:=λ_=>TmB
 post:=z0g
 pm:=λ_ ⟨T,e',r⟩=>toM T
 r:=λ_ ⟨T,e',r⟩=> .sv (.int .i64 r)
 h':=λ⟨S,e,g,sp,d⟩ ⟨T,e',r⟩=>mkO (S++T) e' 4 5
 m':=6
def z4r:CtR:={z1i with pre:=λs=>z2f s/\s.2.2.2.2<=20}
def z4i:TmS->Nat:=λ⟨S,e,g,sp,d⟩=>(25- d).toNat
abbrev UnS:=Nat×Int×List AT×List Int
def zfs(S:List AT) (e:Int) (g:GJ):UnS->Prop:=λ⟨i,e',T,l⟩=>i<=g.l.length/\(S++T).length<=60/\(e'=0->e=0/\S.length<60/\l.length=i/\(∃T',T=pmT 14 0::T'/\∀a∈T',z1f (S++T).length a)/\∀b∈l,0<=b/\b<(S++T).length)
def zcd:TmS->WayF:=λ⟨S,e,g,sp,d⟩=>{
 ann:=λid _ _=>match id with
  |0=>some {σ:=UnS,pre:=zfs S e g,mem:=λ⟨i,e',T,l⟩=>toM T,t:=λ⟨i,e',T,l⟩=>[(11, .sv (.int .i64 (i:Int))),(10, .ssl 13 0 l.length 1 14)],h:=λ⟨i,e',T,l⟩=>mkO (S++T) e' 11 12++[(13, .row 3 0 (z00 inV l))],more:=4,μ:=λ⟨i,e',T,l⟩=>g.l.length- i,keep:=[0,2,3,5,8,9],del:=[9]}
  |_=>some {σ:=Nat,t:=λm=>[(13, .sv (.int .i64 (m:Int)))],h:=λ_=>[],more:=0,μ:=λm=>100- m,keep:=[0,2,3,5,8,9,10,11,12]}
 pub:=λi k=>match i,k with
  |22,9=>[109]
  |_,_=>[]}
section
variable (x0:GJ) (x1:List AT×Int×AT) (x2:List AT) (x3:Int) (x4:ByteArray) (x5:Int) (x6:Nat) (x7:UnS) (x8:TmB) (x9:TmS) (x10:Prop) (x11:Nat->Option Obj) (x12:Option Addr) (x13:List AT×Int) (x14:Int) (x15:List AT)
 abbrev zcp:=(↑(GJ.y x0).2.1:Int)
 def z6v:=∀(i0:AT),i0∈x8.1->AT.ok i0 x11
 def zl2:=∃(i0:List AT),x14=x14/\length i0=length (adS x1.1 x1.2.2)/\adE x1.1 x1.2.1=adE x1.1 x1.2.1/\z00 AT.cells i0=z00 AT.cells (adS x1.1 x1.2.2)/\True/\∃(i1:TmB),i1.2.2=0/\length (x2++i1.1)=length i0/\i1.2.1=faE (adE x1.1 x1.2.1) x14/\z00 AT.cells (x2++i1.1)=z00 AT.cells i0/\z0g (x2,x3,x0,x4,x5) i1/\(∀i2,True/\GJ.ok x0 i2->z6v i1 i2)/\True
 def zco:=GJ.k x0=GJ.k x0/\GJ.n x0=GJ.n x0/\GJ.s x0=GJ.s x0/\(GJ.y x0).1=(GJ.y x0).1/\(GJ.y x0).2.1=(GJ.y x0).2.1/\(GJ.y x0).2.2=(GJ.y x0).2.2/\(GJ.x x0).1=(GJ.x x0).1/\(GJ.x x0).2.1=(GJ.x x0).2.1/\(GJ.x x0).2.2=(GJ.x x0).2.2/\x10
 def z6u:=(True/\GJ.ok x0 x11)/\∀(i0:AT),i0∈x7.2.2.1->AT.ok i0 x11
 def z44:=(z6u x0 x7 x11)/\z6v x8 x11
 def zl3:=True/\∃(i0:TmB),i0.2.2=0/\length (x2++i0.1)=length x15/\i0.2.1=faE x8.2.1 6/\z00 AT.cells (x2++i0.1)=z00 AT.cells x15/\z0g (x2,x3,x0,x4,x5) i0/\(∀i1,(z44 x0 x7 x8 i1)->z6v i0 i1)/\True
 def zl4:=x8.2.2=x8.2.2/\length x7.2.2.2=length x7.2.2.2/\length (x9.1++x8.1)=length (x9.1++x8.1)/\x8.2.1=x8.2.1/\x10
 def zr6:=Jb ((↑x6:Int)+1)/\∃(i0:Nat),x3=x3/\(↑x7.1:Int)=(↑x7.1:Int)/\adR x1.1=adR x1.1/\(↑i0:Int)=(↑x6:Int)+1/\x4=x4/\zl4 x7 x8 x9 (z00 AT.cells (x9.1++x8.1)=z00 AT.cells x13.1/\z00 inV x7.2.2.2=z00 inV x7.2.2.2/\zco x0 ((∀i1,(z44 x0 x7 x8 i1)->z44 x0 x7 x8 i1)/\True/\(100:Nat)- i0<100- x6/\True))
 def zr2:=(0<=(↑x6:Int)/\(↑x6:Int)<(↑(length x7.2.2.2):Int))/\∃(i0:Int),(∀(i1:Nat) (i2:Value),[int i64 i0][i1]? =some i2->(z00 inV x7.2.2.2)[nat_lit 0+toNat (↑x6:Int)*nat_lit 1+i1]? =some i2)/\∃(i3:List AT×Int),length i3.1=length (x9.1++x8.1)/\i3.2=i0/\z00 AT.cells i3.1=z00 AT.cells (x9.1++x8.1)/\length i3.1<1000/\∃(i4:List AT×Int),length i4.1=length (x9.1++x8.1)/\i4.2=x8.2.2/\z00 AT.cells i4.1=z00 AT.cells i3.1/\length i4.1<1000/\AV.agg [AV.ssl (nat_lit 19) (nat_lit 0) (length (x9.1++x8.1)) (nat_lit 10) (nat_lit 20)]=AV.agg [AV.ssl (nat_lit 19) (nat_lit 0) (length (x9.1++x8.1)) (nat_lit 10) (nat_lit 20)]/\Ji (zbu i3.1 i3.2=zbu i4.1 i4.2) (∃(i5:List AT),(6:Int)=6/\length i5=length (x9.1++x8.1)/\x8.2.1=x8.2.1/\z00 AT.cells i5=z00 AT.cells i4.1/\zl3 x0 x2 x3 x4 x5 x7 x8 i5) (zr6 x0 x1 x5 x4 x6 x7 x8 x9 i4)
 def zr3:=length (z00 inV x7.2.2.2)=length x7.2.2.2*1/\(length x7.2.2.2+nat_lit 1)*8<=140737488355328/\Jb ((↑x7.1:Int)+1)/\∃(i0:UnS),x3=x3/\(↑i0.1:Int)=(↑x7.1:Int)+1/\adR x1.1=adR x1.1/\x4=x4/\length i0.2.2.2=length x7.2.2.2+nat_lit 1/\length (x2++i0.2.2.1)=length (x9.1++x8.1)/\i0.2.1=x8.2.1/\z00 AT.cells (x2++i0.2.2.1)=z00 AT.cells (x9.1++x8.1)/\z00 inV i0.2.2.2=z00 inV x7.2.2.2++[int i64 x8.2.2]/\zco x0 ((∀i1,(z44 x0 x7 x8 i1)->True/\GJ.ok x0 i1)/\(∀i4,(z44 x0 x7 x8 i4)->∀(i7:AT),i7∈i0.2.2.1->AT.ok i7 i4)/\zfs x2 x5 x0 i0/\length (GJ.l x0)- i0.1<length (GJ.l x0)- x7.1/\True)
 def j0b:=Ji ((↑x6:Int)<(↑(length x7.2.2.2):Int)) (zr2 x0 x1 x2 x3 x4 x5 x6 x7 x8 x9) (zr3 x0 x1 x2 x5 x4 x3 x7 x8 x9)
 def j0a:=(∃(i0:Nat),x3=x3/\(↑x7.1:Int)=(↑x7.1:Int)/\adR x1.1=adR x1.1/\(↑i0:Int)=0/\x4=x4/\zl4 x7 x8 x9 (z00 AT.cells (x9.1++x8.1)=z00 AT.cells (x9.1++x8.1)/\z00 inV x7.2.2.2=z00 inV x7.2.2.2/\zco x0 ((∀i1,(z44 x0 x7 x8 i1)->z44 x0 x7 x8 i1)/\True/\True)))/\∀(i6:Nat),True->j0b x0 x1 x2 x5 x4 x3 i6 x7 x8 x9
 def j09:=(0<=x8.2.2/\x8.2.2<(↑(length (x9.1++x8.1)):Int))/\∃(i0:Int),(∀(i1:Nat) (i2:Value),[int i64 i0][i1]? =some i2->(z00 AT.cells (x9.1++x8.1))[nat_lit 0+toNat x8.2.2*nat_lit 10+0+i1]? =some i2)/\Ji (i0=14) (∃(i3:List AT),(6:Int)=6/\length i3=length (x9.1++x8.1)/\x8.2.1=x8.2.1/\z00 AT.cells i3=z00 AT.cells (x9.1++x8.1)/\zl3 x0 x2 x3 x4 x5 x7 x8 i3) (j0a x0 x1 x2 x5 x4 x3 x7 x8 x9)
 def j08:=((!decide (x8.2.1=0))=true->∃(i0:TmB),i0.2.2=0/\length (x2++i0.1)=length (x9.1++x8.1)/\i0.2.1=x8.2.1/\z00 AT.cells (x2++i0.1)=z00 AT.cells (x9.1++x8.1)/\z0g (x2,x3,x0,x4,x5) i0/\(∀i1,(z44 x0 x7 x8 i1)->z6v i0 i1)/\True)/\((!decide (x8.2.1=0))=false->j09 x0 x1 x2 x3 x4 x5 x7 x8 x9)
 def j07:=(0<=(↑x7.1:Int)/\(↑x7.1:Int)<(zcp x0))/\(GJ.y x0).1≠noA/\∃(i0:Int),∃(i1:Int),∃i2,∃i3,∃(i4:Nat),∃(i5:Nat),∃i6,∃(i7:Nat),∃(i8:Nat),(∀i9,(z6u x0 x7 i9)->q3i i9 (adr (GJ.y x0).1 (toNat (↑x7.1:Int)*5)) [int i64 i0,int i64 i1,string i2,slice i3 i4 i5,slice i6 i7 i8])/\Jb (x3+1)/\∃(i11:TmS),GJ.k i11.2.2.1=i0/\GJ.n i11.2.2.1=i1/\GJ.s i11.2.2.1=i2/\(GJ.y i11.2.2.1).1=i3/\(GJ.y i11.2.2.1).2.1=i4/\(GJ.y i11.2.2.1).2.2=i5/\(GJ.x i11.2.2.1).1=i6/\(GJ.x i11.2.2.1).2.1=i7/\(GJ.x i11.2.2.1).2.2=i8/\i11.2.2.2.1=x4/\i11.2.2.2.2=x3+1/\length i11.1=length (x2++x7.2.2.1)/\i11.2.1=x7.2.1/\z00 AT.cells i11.1=z00 AT.cells (x2++x7.2.2.1)/\(z4i i11<x6/\z2f i11)/\(∀i12,(z6u x0 x7 i12)->GJ.ok i11.2.2.1 i12)/\∀(i14:TmB),z0g i11 i14->(∃i15,z44 x0 x7 i14 i15)->j08 x0 x1 x2 x5 x4 x3 x7 i14 i11
 def zl5:=(z6u x0 x7 x11)/\length x7.2.2.2<=x6/\qhu x11 x12 (take (length x7.2.2.2*nat_lit 1) (z00 inV x7.2.2.2))
 def zr5:=nat_lit 0+toNat (adR x1.1)*nat_lit 10+9+length [slice x12 (length x7.2.2.2) x6]<=length (z00 AT.cells (x2++x7.2.2.1))/\∃(i0:TmB),i0.2.2=adR x1.1/\length (x2++i0.1)=length (x2++x7.2.2.1)/\i0.2.1=x7.2.1/\z00 AT.cells (x2++i0.1)=spl (z00 AT.cells (x2++x7.2.2.1)) (nat_lit 0+toNat (adR x1.1)*nat_lit 10+9) [slice x12 (length x7.2.2.2) x6]/\z0g (x2,x3,x0,x4,x5) i0/\(∀i1,zl5 x0 x6 x7 i1 x12->z6v i0 i1)/\True
 def zr4:=(0<=adR x1.1/\adR x1.1<(↑(length (x2++x7.2.2.1)):Int))/\∀(i0 i1 i2:Nat) (i3:Option Addr) (i4 i5:Nat),(∃i6,zl5 x0 i5 x7 i6 i3)->zr5 x0 x1 x2 x3 x4 x5 i5 x7 i3
 def zw5:=Ji (x7.2.1=0) (zr4 x0 x1 x2 x3 x4 x5 x7) (∃(i12:TmB),i12.2.2=adR x1.1/\length (x2++i12.1)=length (x2++x7.2.2.1)/\i12.2.1=x7.2.1/\z00 AT.cells (x2++i12.1)=z00 AT.cells (x2++x7.2.2.1)/\z0g (x2,x3,x0,x4,x5) i12/\(∀i13,(z6u x0 x7 i13)->z6v i12 i13)/\True)
 def j06:=Ji (x7.2.1=0) (j07 x0 x1 x2 x3 x4 x5 x6 x7) (zw5 x0 x1 x2 x5 x4 x3 x7)
 def j05:=Ji ((↑x7.1:Int)<(zcp x0)) (j06 x0 x1 x2 x3 x4 x5 x6 x7) (zw5 x0 x1 x2 x5 x4 x3 x7)
 def j04:=(∃(i0:UnS),x3=x3/\(↑i0.1:Int)=0/\adR x1.1=adR x1.1/\x4=x4/\length i0.2.2.2=0/\length (x2++i0.2.2.1)=length (adS x1.1 x1.2.2)/\i0.2.1=adE x1.1 x1.2.1/\z00 AT.cells (x2++i0.2.2.1)=z00 AT.cells (adS x1.1 x1.2.2)/\zco x0 ((∀i1,True/\GJ.ok x0 i1->True/\GJ.ok x0 i1)/\(∀i2,True/\GJ.ok x0 i2->∀(i3:AT),i3∈i0.2.2.1->AT.ok i3 i2)/\zfs x2 x5 x0 i0/\True))/\∀(i4:UnS),zfs x2 x5 x0 i4->(∃i5,z6u x0 i4 i5)->j05 x0 x1 x2 x3 x4 x5 x6 i4
 def j03:=Ji (30<(zcp x0)) (zl2 x0 x1 x2 x3 x4 x5 3) (j04 x0 x1 x2 x5 x4 x3 x6)
end
def z96(n:Nat) (S:List AT) (e:Int) (g:GJ) (sp:ByteArray) (d:Int):qlb P (qgc [(50,zoq),(70,zvd),(44,z1h)]) (qhg [(28,z1i.below z4i n)]) Try.f46 (z4r.below z4i (n+1)) (zcd) ⟨S,e,g,sp,d⟩=(z4i (S,e,g,sp,d)<n+1/\z2f (S,e,g,sp,d)/\d<=20->(∃(p:Pub),True/\GJ.ok g p)->∃(s:List AT×Int×AT),AT.k s.2.2=14/\AT.nm s.2.2=mkS []/\(AT.al s.2.2).1=noA/\(AT.al s.2.2).2.1=0/\(AT.al s.2.2).2.2=0/\AT.it s.2.2=0/\(AT.sy s.2.2).1=noA/\(AT.sy s.2.2).2.1=0/\(AT.sy s.2.2).2.2=0/\AT.hd s.2.2=false/\AT.df s.2.2=mkS []/\AT.sz s.2.2=0/\(AT.f s.2.2).1=noA/\(AT.f s.2.2).2.1=0/\(AT.f s.2.2).2.2=0/\(AT.br s.2.2).1=noA/\(AT.br s.2.2).2.1=0/\(AT.br s.2.2).2.2=0/\length s.1=length S/\s.2.1=e/\z00 AT.cells s.1=z00 AT.cells S/\True/\Ji ((zcp g)=0) (zl2 g s S e sp d 6) (j03 g s S e sp d n)):=by kernel_rfl
def zc2:=λn S e g sp d=>Eq.trans (z96 n S e g sp d) (by delta Ji Jb Jt Jf zcp z6v zl2 zco z6u z44 zl3 zl4 zr6 zr2 zr3 j0b j0a j09 j08 j07 zl5 zr5 zr4 zw5 j06 j05 j04 j03;exact rfl)
def unT(x:SV) (l:List Int):AT:={pmT 14 0 with br:=x,brs:=l}
def z12{α:Type} {f:α->List Value} (a:α) (l:List α):z00 f (a::l)=f a++z00 f l:=rfl
def zpv(A B:List AT) (x:SV) (l:List Int):z00 AT.cells (A++unT x l::B)=spl (z00 AT.cells (A++pmT 14 0::B)) (0+A.length*10+9) [svV x]:=by
 rw[z05,z05,z12,z12,Nat.zero_add]
 have hl:=z01 z0y A
 rw[←hl]
 show _=(z00 AT.cells A++((pmT 14 0).cells++z00 AT.cells B)).set ((z00 AT.cells A).length+9) (svV x)
 have key:∀(P Q:List Value) (v:Value),(P++Q).set (P.length+9) v=P++Q.set 9 v:=λP Q v=>by
  induction P with
  |nil=>simp
  |cons a P ih=>rw[List.cons_append,List.length_cons,Nat.add_right_comm,List.set_cons_succ,ih];rfl
 rw[key]
 rfl
def zpd{l:List Int} {i:Nat} (h:i<l.length):∀(j:Nat) (v:Value),[Value.int .i64 l[i]][j]? =some v->(z00 inV l)[0+i*1+j]? =some v:=λj v hj=>by
 cases j with
 |zero=>rw[Nat.zero_add,z23 z1b l i h 0 (by decide)];exact hj
 |succ j=>simp at hj
def z4h{n m:Nat} {a:AT} (h:n<=m) (g:z1f n a):z1f m a:=
 ⟨g.1,λk=>by have:=g.2.1 k;omega,λb hb=>by have:=g.2.2.1 b hb;omega,g.2.2.2.1,λf hf=>⟨by have:=(g.2.2.2.2.1 f hf).1;omega,(g.2.2.2.2.1 f hf).2⟩,g.2.2.2.2.2⟩
def z9w{S:List AT} {e:Int} (h:60<=S.length):adE S e≠0:=by unfold adE;rw[if_pos h];exact z0j (by decide)
def adT(S:List AT) (t:AT):List AT:=if 60<=S.length then []else [t]
def z0q(S:List AT) (t:AT):adS S t=S++adT S t:=by
 unfold adS adT
 split
 ·rw[List.append_nil]
 ·rfl
def zc3(n:Nat) (ht:q1v P 28 (z1i.below z4i n)):q1v P 46 (z4r.below z4i (n+1)):=by
 refine qkh mixed (qdw (qhr z4l (qhr zq0 (qhr z0w qkx)))) (qen (qhq ht qkw)) (W:=zcd) Try.func46 (by kernel_rfl) (show 1<=4 by decide) (show 4<=6 by decide) (λs=>by kernel_rfl) λ⟨S,(e:Int),g,sp,(d:Int)⟩=>(zc2 n S e g sp d).mpr ?_
 rintro⟨hmu,⟨hS,hg,hd1,hd2,hsp⟩,hd20⟩ ⟨p,_,hp⟩
 have hmu:(25- d).toNat<n+1:=hmu
 have hd20:d<=20:=hd20
 have hgw:=hg
 rw[GJ.wf_eq]at hgw
 have hy:=λq (hq:g.ok q)=>(show slP GJ.cells g.y g.l q by rw[GJ.ok_eq]at hq;exact hq.1)
 have yl:g.y.2.1=g.l.length:=(hy p hp).1
 simp only[sbS,exists_const,forall_const,Int.toNat_natCast]
 have adl:(adT S (pmT 14 0)).length<=1/\(S++adT S (pmT 14 0)).length<=60:=by
  unfold adT
  split
  ·rw[List.append_nil];exact⟨by decide,hS⟩
  ·exact⟨by decide,by simp;omega⟩
 have adok:∀q,∀a∈adT S (pmT 14 0),a.ok q:=λq a ha=>by
  unfold adT at ha
  split at ha
  ·cases ha
  ·simp at ha;subst ha;exact z80 _ _ _
 have bad0:∀k:Int,k≠0->z0g (S,e,g,sp,d) (adT S (pmT 14 0),faE (adE S e) k,0):=λk hk=>by
  have:=z0j (e0:=adE S e) hk
  exact⟨⟨adl.2,λh=>absurd h this⟩,λh=>absurd h this⟩
 refine⟨⟨S,e,pmT 14 0⟩,rfl,rfl,rfl,rfl,rfl,rfl,rfl,rfl,rfl,rfl,rfl,rfl,rfl,rfl,rfl,rfl,rfl,rfl,rfl,rfl,rfl,λh0=>⟨adS S (pmT 14 0),rfl,rfl,⟨adT S (pmT 14 0),faE (adE S e) 6,0⟩,rfl,by rw[z0q],rfl,by rw[z0q],bad0 6 (by decide),λq _=>adok q⟩,λh0=>⟨λh30=>⟨adS S (pmT 14 0),rfl,rfl,⟨adT S (pmT 14 0),faE (adE S e) 3,0⟩,rfl,by rw[z0q],rfl,by rw[z0q],bad0 3 (by decide),λq _=>adok q⟩,λh30=>⟨⟨⟨0,adE S e,adT S (pmT 14 0),[]⟩,rfl,rfl,by rw[z0q],rfl,by rw[z0q],λq _=>adok q,?_⟩,?_⟩⟩⟩
 ·refine⟨by show 0<=_;omega,adl.2,λh=> ?_⟩
  by_cases hl:60<=S.length
  ·exact absurd h (z9w hl)
  ·have e1:adE S e=e:=by unfold adE;rw[if_neg hl]
   have e2:adT S (pmT 14 0)=[pmT 14 0]:=by unfold adT;rw[if_neg hl]
   exact⟨by rw[←e1];exact h,by omega,rfl,⟨[],e2,λa ha=>(by cases ha)⟩,λb hb=>(by cases hb)⟩
 rintro⟨i,e',T,l⟩ ⟨hi,hT,hE⟩ _
 simp only at*
 have fin:e'=0->g.l.length<=i->∀(a:Option Addr) (c:Nat) (q0:Pub),(l.length<=c/\qhu q0 a (List.take (l.length*1) (z00 inV l)))->0+(adR S).toNat*10+9+1<=(z00 AT.cells (S++T)).length/\∃b:TmB,b.2.2=adR S/\(S++b.1).length=(S++T).length/\b.2.1=e'/\z00 AT.cells (S++b.1)=spl (z00 AT.cells (S++T)) (0+(adR S).toNat*10+9) [.slice a l.length c]/\z0g (S,e,g,sp,d) b/\∀q,(g.ok q/\∀a∈T,a.ok q)/\(l.length<=c/\qhu q a (List.take (l.length*1) (z00 inV l)))->∀a∈b.1,a.ok q:=λh0' hge a c q0 hq0=>by
  obtain⟨he0,hl60,hll,⟨T',rfl,hT'⟩,hlr⟩:=hE h0'
  have er:adR S=S.length:=by unfold adR;rw[if_neg (by omega)]
  rw[er,Int.toNat_natCast]
  have hlen:(S++pmT 14 0::T').length=S.length+T'.length+1:=by simp;omega
  have hlen2:∀x,(S++unT x l::T').length=S.length+T'.length+1:=λx=>by simp;omega
  refine⟨by rw[z01 z0y,hlen];omega,⟨unT (a,l.length,c) l::T',e',S.length⟩,rfl,by rw[hlen,hlen2],rfl,zpv S T' _ l,⟨⟨by rw[hlen2];omega,λ_=>⟨he0,λx hx=> ?_⟩⟩,λ_=>⟨by show 0<=(S.length:Int);omega,by rw[hlen2];show(S.length:Int)<_;omega⟩⟩,λq hq x hx=> ?_⟩
  ·rw [hlen2]
   rw[hlen]at hT' hlr
   rcases List.mem_cons.1 hx with rfl|hx
   ·refine⟨⟨by show(1:Int)<=14;omega,by show(14:Int)<=14;omega⟩,λh=> ?_,hlr,λ_ h=> ?_,λf hf=>(by cases hf),λh=> ?_,λh=> ?_,⟨Nat.zero_le _,?_,Nat.zero_le _⟩⟩
    ·have h:(14:Int)=12\/(14:Int)=13:=h
     omega
    ·have h:l=[]:=h
     rw[h]at hll
     have:i=0:=hll.symm
     omega
    ·have h:(14:Int)=10:=h
     omega
    ·have h:(14:Int)=11:=h
     omega
    ·show l.length<=30;omega
   ·exact hT' x hx
  ·rcases List.mem_cons.1 hx with rfl|hx
   ·refine⟨z04,z04,z04,⟨rfl,hq.2.1,?_⟩,λf hf=>(by cases hf)⟩
    have:=hq.2.2
    rw[List.take_of_length_le (by rw[z01 z1b];exact Nat.le_refl _)]at this
    exact this
   ·exact hq.1.2 x (List.mem_cons_of_mem _ hx)
 have out:e'≠0->z0g (S,e,g,sp,d) (T,e',adR S):=λh=>⟨⟨hT,λh2=>absurd h2 h⟩,λh2=>absurd h2 h⟩
 refine⟨λhlt=>⟨λh0'=> ?_,λh0'=>⟨λh=>absurd h h0',λ_=>⟨⟨T,e',adR S⟩,rfl,rfl,rfl,rfl,out h0',λq hq=>hq.2⟩⟩⟩,λhge=>⟨λh0'=> ?_,λh0'=>⟨⟨T,e',adR S⟩,rfl,rfl,rfl,rfl,out h0',λq hq=>hq.2⟩⟩⟩
 ·have hil:i<g.l.length:=by omega
  obtain⟨he0,hl60,hll,⟨T',hTe,hT'⟩,hlr⟩:=hE h0'
  have hat:=λq (hq:g.ok q)=>z0b z2o (by decide) (hy q hq) hil
  have hgi:g.l[i].wf:=GJ.wfs_at hgw.2.2.2.2.2.2 hil
  refine⟨by omega,(hat p hp).1,g.l[i].k,g.l[i].n,g.l[i].s,g.l[i].y.1,g.l[i].y.2.1,g.l[i].y.2.2,g.l[i].x.1,g.l[i].x.2.1,g.l[i].x.2.2,λq hq=>(hat q hq.1).2,⟨by omega,by omega⟩,⟨S++T,e',g.l[i],sp,d+1⟩,rfl,rfl,rfl,rfl,rfl,rfl,rfl,rfl,rfl,rfl,rfl,rfl,rfl,rfl,⟨by show(25- (d+1)).toNat<n;omega,hT,hgi,by omega,by omega,by omega⟩,λq hq=>by have:=hq.1;rw[GJ.ok_eq]at this;exact GJ.oks_at this.2.2 hil,?_⟩
  rintro⟨U,e2,r⟩ ⟨⟨hU,hU2⟩,hr⟩ _
  simp only at hU hU2 hr⊢
  have ass:S++T++U=S++(T++U):=List.append_assoc _ _ _
  have badU:∀k,k≠0->z0g (S,e,g,sp,d) (T++U,k,0):=λk hk=>⟨⟨by rw[←ass];exact hU,λh2=>absurd h2 hk⟩,λh2=>absurd h2 hk⟩
  have okU:∀q,((g.ok q/\∀a∈T,a.ok q)/\∀a∈U,a.ok q)->∀a∈T++U,a.ok q:=λq hq a ha=>(List.mem_append.1 ha).elim (hq.1.2 a) (hq.2 a)
  refine⟨λhne=>⟨⟨T++U,e2,0⟩,rfl,by rw[ass],rfl,by rw[ass],badU e2 hne,okU⟩,λheq=> ?_⟩
  subst heq
  obtain⟨r0,r1⟩:=hr rfl
  obtain⟨_,hUg⟩:=hU2 rfl
  obtain⟨k,rfl⟩:=Int.eq_ofNat_of_zero_le r0
  have hk:k<(S++T++U).length:=by omega
  rw[Int.toNat_natCast]
  refine⟨⟨r0,r1⟩,(S++T++U)[k].k,λj v hj=> ?_,λh14=>⟨S++T++U,rfl,rfl,⟨T++U,faE 0 6,0⟩,rfl,by rw[ass],rfl,by rw[ass],badU _ (z0j (by decide)),okU⟩,λh14=>⟨⟨0,rfl⟩,?_⟩⟩
  ·cases j with
   |zero=>have hj:some (Value.int .i64 (S++T++U)[k].k)=some v:=hj;cases hj;exact z7d hk 0 _ rfl
   |succ j=>simp at hj
  intro m
  refine⟨λhm=> ?_,λhm=> ?_⟩
  ·have hml:m<l.length:=by omega
   refine⟨by omega,l[m],zpd hml,⟨S++T++U,l[m]⟩,rfl,rfl,rfl,by show(S++T++U).length<_;omega,⟨S++T++U,(k:Int)⟩,rfl,rfl,rfl,by show(S++T++U).length<_;omega,?_⟩
   refine⟨λ_=>⟨S++T++U,rfl,rfl,⟨T++U,faE 0 6,0⟩,rfl,by rw[ass],rfl,by rw[ass],badU _ (z0j (by decide)),okU⟩,λ_=>⟨⟨by omega,by omega⟩,m+1,by omega,rfl,by omega⟩⟩
  ·refine⟨z01 z1b l,by omega,⟨by omega,by omega⟩,⟨i+1,0,T++U,l++[(k:Int)]⟩,by show((i+1:Nat):Int)=_;omega,by show(l++[_]).length=_;simp,by rw[ass],rfl,by rw[ass],by show z00 inV (l++[_])=_;rw[z05];rfl,λq hq=>hq.1.1,λq hq=>okU q hq,⟨by show i+1<=_;omega,by rw[←ass];exact hU,λ_=>⟨he0,hl60,by show(l++[_]).length=i+1;simp;omega,⟨T'++U,by show T++U=_;rw[hTe];rfl,λa ha=> ?_⟩,λb hb=> ?_⟩⟩,by show _- (i+1)<_;omega⟩
   ·show z1f (S++(T++U)).length a
    rw[←ass]
    rcases List.mem_append.1 ha with ha|ha
    ·exact z4h (by have:(S++T++U).length=(S++T).length+U.length:=List.length_append;omega) (hT' a ha)
    ·exact hUg a ha
   ·show 0<=b/\b<((S++(T++U)).length:Int)
    rw[←ass]
    have hlen:(S++T++U).length=(S++T).length+U.length:=List.length_append
    rcases List.mem_append.1 hb with hb|hb
    ·have:=hlr b hb;omega
    ·simp at hb;subst hb;exact⟨r0,r1⟩
 ·obtain⟨he0,hl60,hll,⟨T',hTe,hT'⟩,hlr⟩:=hE h0'
  have er:adR S=S.length:=by unfold adR;rw[if_neg (by omega)]
  refine⟨⟨by omega,by rw[er,hTe];simp;omega⟩,?_⟩
  rintro a c ⟨q0,hq0⟩
  exact fin h0' (by omega) a c q0 hq0.2
abbrev NmS:=List AT×Int×GJ×Int×ByteArray×Int
def z4p:CtR where
 σ:=NmS
 args:=λ⟨S,e,g,k,sp,d⟩=>[.ptr 1 0,g.av, .sv (.int .i64 k), .sv (.string sp), .sv (.int .i64 d)]
 h:=λ⟨S,e,g,k,sp,d⟩=>mkO S e 2 3
 m:=4
 pre:=λ⟨S,e,g,k,sp,d⟩=>z2f (S,e,g,sp,d)/\d<=20/\(k=9\/k=10\/k=11)
 mem:=λ⟨S,e,g,k,sp,d⟩=>gM g
 β:=λ_=>TmB
 post:=λ⟨S,e,g,k,sp,d⟩ b=>z0g (S,e,g,sp,d) b
 pm:=λ_ ⟨T,e',r⟩=>toM T
 r:=λ_ ⟨T,e',r⟩=> .sv (.int .i64 r)
 h':=λ⟨S,e,g,k,sp,d⟩ ⟨T,e',r⟩=>mkO (S++T) e' 4 5
 m':=6
def zov:NmS->Nat:=λ⟨S,e,g,k,sp,d⟩=>(25- d).toNat
def nmB(s:ByteArray):Bool:=decide (s=mkS [114,101,99,111,114,100])||decide (s=mkS [101,110,117,109])||decide (s=mkS [102,105,120,101,100])
def arB(s:ByteArray):Bool:=decide (s=mkS [97,114,114,97,121])||decide (s=mkS [109,97,112])
def wdB(s:ByteArray):ByteArray:=if s=mkS [109,97,112]then mkS [118,97,108,117,101,115]else mkS [105,116,101,109,115]
def tyJ(g:GJ):GJ:=(z0e (mkS [116,121,112,101]) g).getD zJ
def zif:TmS->WayF:=λ⟨S,e,g,sp,d⟩=>{
 cut:=λi t _=>match i with
  |20=>some {σ:=Unit,t:=λ_=>[(63, .sv (.bool (nmB (tyJ g).s)))],h:=λ_=>[],more:=0,μ:=λ_=>0,keep:=[0,2,3,5,8,9,62]}
  |23=>some {σ:=Unit,t:=λ_=>[(75, .sv (.bool (arB (tyJ g).s)))],h:=λ_=>[],more:=0,μ:=λ_=>0,keep:=[0,2,3,5,8,9,62]}
  |27=>some {σ:=Unit,t:=λ_=>[(12, .sv (.string (wdB (tyJ g).s)))],h:=λ_=>[],more:=0,μ:=λ_=>0,keep:=[0,2,3,5,8,9,11]}
  |_=>none
 spl:=λi=>match i with
  |20=>some 7
  |_=>none}
section
variable (x0:Int) (x1:List AT) (x2:GJ) (x3:ByteArray) (x4:Int) (x5:Nat) (x6:GJ×ByteArray) (x7:List AT×Int×AT) (x8:TmB) (x9:TmS) (x10:List AT×Int×ByteArray×ByteArray) (x11:Prop) (x12:Int) (x13:TmB)
 abbrev zga:=z0g (x1,x0,x2,x3,x4) x8/\(∀i0,True/\GJ.ok x2 i0->∀(i1:AT),i1∈x8.1->AT.ok i1 i0)/\True
 def zg9:=∃(i0:List AT),x12=x12/\length i0=length x1/\x0=x0/\z00 AT.cells i0=z00 AT.cells x1/\True/\∃(i1:TmB),i1.2.2=0/\length (x1++i1.1)=length i0/\i1.2.1=faE x0 x12/\z00 AT.cells (x1++i1.1)=z00 AT.cells i0/\zga x0 x1 x2 x3 x4 i1
 def zre:=0<=x8.2.2/\x8.2.2<(↑(length (x10.1++x8.1)):Int)
 def zcq:=∃i0,(True/\GJ.ok x2 i0)/\∀(i1:AT),i1∈x8.1->AT.ok i1 i0
 def z9d:=z0g (x1,x0,x2,x3,x4) x8/\(∀i0,((True/\GJ.ok x2 i0)/\∀(i1:AT),i1∈x13.1->AT.ok i1 i0)->∀(i2:AT),i2∈x8.1->AT.ok i2 i0)/\True
 def zl7:=x10.2.2.2=x3/\length x10.1=length x1/\x10.2.1=x0/\z00 AT.cells x10.1=z00 AT.cells x1/\(length x10.1<=60/\size x10.2.2.1<100000/\size x10.2.2.2<100000)/\∀(i0:TmB),grown x10.1 x10.2.1 i0.1 i0.2.1/\(i0.2.1=0->zre i0 x10)->(zcq x2 i0)->∃(i3:TmB),i3.2.2=i0.2.2/\length (x1++i3.1)=length (x10.1++i0.1)/\i3.2.1=i0.2.1/\z00 AT.cells (x1++i3.1)=z00 AT.cells (x10.1++i0.1)/\z9d x0 x1 x2 x3 x4 i3 i0
 def zlj:=length (x1++x8.1)=length (x9.1++x13.1)/\x8.2.1=x13.2.1/\z00 AT.cells (x1++x8.1)=z00 AT.cells (x9.1++x13.1)/\x11
 def zlb:=(∀i0,True/\GJ.ok x2 i0->GJ.ok x9.2.2.1 i0)/\∀(i1:TmB),z0g x9 i1->(zcq x2 i1)->∃(i4:TmB),i4.2.2=i1.2.2/\zlj x1 i4 x9 (z9d x0 x1 x2 x3 x4 i4 i1) i1
 def zla:=GJ.k x6.1=GJ.k x2/\GJ.n x6.1=GJ.n x2/\GJ.s x6.1=GJ.s x2/\(GJ.y x6.1).1=(GJ.y x2).1/\(GJ.y x6.1).2.1=(GJ.y x2).2.1/\(GJ.y x6.1).2.2=(GJ.y x2).2.2/\(GJ.x x6.1).1=(GJ.x x2).1/\(GJ.x x6.1).2.1=(GJ.x x2).2.1/\(GJ.x x6.1).2.2=(GJ.x x2).2.2/\x11
 abbrev z0h:=Option.getD (z0e x6.2 x6.1) zJ
 abbrev zlk:=Jb (x0+1)
 def zl9:=GJ.k x9.2.2.1=GJ.k (z0h x6)/\GJ.n x9.2.2.1=GJ.n (z0h x6)/\GJ.s x9.2.2.1=GJ.s (z0h x6)/\(GJ.y x9.2.2.1).1=(GJ.y (z0h x6)).1/\(GJ.y x9.2.2.1).2.1=(GJ.y (z0h x6)).2.1/\(GJ.y x9.2.2.1).2.2=(GJ.y (z0h x6)).2.2/\(GJ.x x9.2.2.1).1=(GJ.x (z0h x6)).1/\(GJ.x x9.2.2.1).2.1=(GJ.x (z0h x6)).2.1/\(GJ.x x9.2.2.1).2.2=(GJ.x (z0h x6)).2.2/\x9.2.2.2.1=x3/\x9.2.2.2.2=x0+1/\x11
 def zra:=zlk x0/\∃(i0:TmS),zl9 x0 x3 x6 i0 (length i0.1=length x1/\i0.2.1=x4/\z00 AT.cells i0.1=z00 AT.cells x1/\(z4i i0<x5/\z2f i0)/\zlb x4 x1 x2 x3 x0 i0)
 abbrev zlc:=GJ.s (z0h x6)=mkS [114,101,99,111,114,100]
 def zl8:=GJ.k x2=GJ.k x2/\GJ.n x2=GJ.n x2/\GJ.s x2=GJ.s x2/\(GJ.y x2).1=(GJ.y x2).1/\(GJ.y x2).2.1=(GJ.y x2).2.1/\(GJ.y x2).2.2=(GJ.y x2).2.2/\(GJ.x x2).1=(GJ.x x2).1/\(GJ.x x2).2.1=(GJ.x x2).2.1/\(GJ.x x2).2.2=(GJ.x x2).2.2/\x11
 def zl6:=GJ.k (z0h x6)=GJ.k (z0h x6)/\GJ.n (z0h x6)=GJ.n (z0h x6)/\GJ.s (z0h x6)=GJ.s (z0h x6)/\(GJ.y (z0h x6)).1=(GJ.y (z0h x6)).1/\(GJ.y (z0h x6)).2.1=(GJ.y (z0h x6)).2.1/\(GJ.y (z0h x6)).2.2=(GJ.y (z0h x6)).2.2/\(GJ.x (z0h x6)).1=(GJ.x (z0h x6)).1/\(GJ.x (z0h x6)).2.1=(GJ.x (z0h x6)).2.1/\(GJ.x (z0h x6)).2.2=(GJ.x (z0h x6)).2.2/\(∀i0,True/\GJ.ok x2 i0->True/\GJ.ok x2 i0)/\True/\True
 def z9c:=x3=x3/\GJ.s (z0h x6)=GJ.s (z0h x6)/\length x1=length x1/\x0=x0/\z00 AT.cells x1=z00 AT.cells x1/\zl8 x2 (zl6 x2 x6)
 abbrev zlf:=GJ.s (z0h x6)=mkS [101,110,117,109]
 def zrc:=Ji (zlf x6) (∃(i0:Unit),x0=x0/\nmB (GJ.s (tyJ x2))=decide (zlf x6)/\z9c x4 x1 x2 x3 x6) (∃(i1:Unit),x0=x0/\nmB (GJ.s (tyJ x2))=decide (GJ.s (z0h x6)=mkS [102,105,120,101,100])/\z9c x4 x1 x2 x3 x6)
 abbrev zlh:=slice (GJ.y x2).1 (GJ.y x2).2.1 (GJ.y x2).2.2
 abbrev zli:=slice (GJ.x x2).1 (GJ.x x2).2.1 (GJ.x x2).2.2
 def zr9:=GJ.s (z0h x6)=GJ.s (z0h x6)/\True/\AV.agg [AV.sv (int i64 (GJ.k x2)),AV.sv (int i64 (GJ.n x2)),AV.sv (string (GJ.s x2)),AV.sv (zlh x2),AV.sv (zli x2)]=AV.agg [AV.sv (int i64 (GJ.k x2)),AV.sv (int i64 (GJ.n x2)),AV.sv (string (GJ.s x2)),AV.sv (zlh x2),AV.sv (zli x2)]/\∃(i0:NmS),GJ.k i0.2.2.1=GJ.k x2/\GJ.n i0.2.2.1=GJ.n x2/\GJ.s i0.2.2.1=GJ.s x2/\(GJ.y i0.2.2.1).1=(GJ.y x2).1/\(GJ.y i0.2.2.1).2.1=(GJ.y x2).2.1/\(GJ.y i0.2.2.1).2.2=(GJ.y x2).2.2/\(GJ.x i0.2.2.1).1=(GJ.x x2).1/\(GJ.x i0.2.2.1).2.1=(GJ.x x2).2.1/\(GJ.x i0.2.2.1).2.2=(GJ.x x2).2.2/\i0.2.2.2.1=z0d (GJ.s (z0h x6))/\i0.2.2.2.2.1=x3/\i0.2.2.2.2.2=x0/\length i0.1=length x1/\i0.2.1=x4/\z00 AT.cells i0.1=z00 AT.cells x1/\(zov i0<x5+1/\z2f (i0.1,i0.2.1,i0.2.2.1,i0.2.2.2.2.1,i0.2.2.2.2.2)/\i0.2.2.2.2.2<=20/\(i0.2.2.2.1=9\/i0.2.2.2.1=10\/i0.2.2.2.1=11))/\(∀i1,True/\GJ.ok x2 i1->GJ.ok i0.2.2.1 i1)/\∀(i2:TmB),z0g (i0.1,i0.2.1,i0.2.2.1,i0.2.2.2.2.1,i0.2.2.2.2.2) i2->(zcq x2 i2)->∃(i5:TmB),i5.2.2=i2.2.2/\length (x1++i5.1)=length (i0.1++i2.1)/\i5.2.1=i2.2.1/\z00 AT.cells (x1++i5.1)=z00 AT.cells (i0.1++i2.1)/\z9d x4 x1 x2 x3 x0 i5 i2
 abbrev zle:=GJ.s (z0h x6)=mkS [97,114,114,97,121]
 abbrev zlg:=GJ.s (z0h x6)=mkS [109,97,112]
 def zld:=length (adS x7.1 x7.2.2)=length (adS x7.1 x7.2.2)/\adE x7.1 x7.2.1=adE x7.1 x7.2.1/\zl8 x2 (z00 AT.cells (adS x7.1 x7.2.2)=z00 AT.cells (adS x7.1 x7.2.2)/\zl6 x2 x6)
 def zrd:=(0<=adR x7.1/\adR x7.1<(↑(length (x9.1++x8.1)):Int))/\nat_lit 0+toNat (adR x7.1)*nat_lit 10+3+length [int i64 x8.2.2]<=length (z00 AT.cells (x9.1++x8.1))/\∃(i0:TmB),i0.2.2=adR x7.1/\length (x1++i0.1)=length (x9.1++x8.1)/\i0.2.1=x8.2.1/\z00 AT.cells (x1++i0.1)=spl (z00 AT.cells (x9.1++x8.1)) (nat_lit 0+toNat (adR x7.1)*nat_lit 10+3) [int i64 x8.2.2]/\z9d x0 x1 x2 x3 x4 i0 x8
 def zrb:=Ji (x8.2.1=0) (zrd x0 x1 x2 x3 x4 x7 x8 x9) (∃(i4:TmB),i4.2.2=adR x7.1/\zlj x1 i4 x9 (z9d x0 x1 x2 x3 x4 i4 x8) x8)
 def zr8:=zlk x0/\∃(i0:TmS),zl9 x0 x3 x6 i0 (length i0.1=length (adS x7.1 x7.2.2)/\i0.2.1=adE x7.1 x7.2.1/\z00 AT.cells i0.1=z00 AT.cells (adS x7.1 x7.2.2)/\(z4i i0<x5/\z2f i0)/\(∀i1,True/\GJ.ok x2 i1->GJ.ok i0.2.2.1 i1)/\∀(i2:TmB),z0g i0 i2->(zcq x2 i2)->zrb x4 x1 x2 x3 x0 x7 i2 i0)
 def zr7:=GJ.s (z0h x6)=GJ.s (z0h x6)/\True/\∃(i0:List AT×Int×AT),AT.k i0.2.2=z0d (GJ.s (z0h x6))/\AT.nm i0.2.2=mkS []/\(AT.al i0.2.2).1=noA/\(AT.al i0.2.2).2.1=0/\(AT.al i0.2.2).2.2=0/\AT.it i0.2.2=0/\(AT.sy i0.2.2).1=noA/\(AT.sy i0.2.2).2.1=0/\(AT.sy i0.2.2).2.2=0/\AT.hd i0.2.2=false/\AT.df i0.2.2=mkS []/\AT.sz i0.2.2=0/\(AT.f i0.2.2).1=noA/\(AT.f i0.2.2).2.1=0/\(AT.f i0.2.2).2.2=0/\(AT.br i0.2.2).1=noA/\(AT.br i0.2.2).2.1=0/\(AT.br i0.2.2).2.2=0/\length i0.1=length x1/\i0.2.1=x0/\z00 AT.cells i0.1=z00 AT.cells x1/\True/\(Ji (zlg x6) (∃(i1:Unit),x4=x4/\adR i0.1=adR i0.1/\x3=x3/\wdB (GJ.s (tyJ x2))=mkS [118,97,108,117,101,115]/\zld x2 x6 i0) (∃(i3:Unit),x4=x4/\adR i0.1=adR i0.1/\x3=x3/\wdB (GJ.s (tyJ x2))=mkS [105,116,101,109,115]/\zld x2 x6 i0))/\∀(i5:Unit),True->∃(i6:GJ×ByteArray),zla x2 i6 (i6.2=wdB (GJ.s (tyJ x2))/\GJ.wf i6.1/\(∀i7,True/\GJ.ok x2 i7->GJ.ok i6.1 i7)/\((!Option.isSome (z0e i6.2 i6.1))=true->∃(i8:List AT),(2:Int)=2/\length i8=length (adS i0.1 i0.2.2)/\adE i0.1 i0.2.1=adE i0.1 i0.2.1/\z00 AT.cells i8=z00 AT.cells (adS i0.1 i0.2.2)/\True/\∃(i9:TmB),i9.2.2=0/\length (x1++i9.1)=length i8/\i9.2.1=faE (adE i0.1 i0.2.1) 2/\z00 AT.cells (x1++i9.1)=z00 AT.cells i8/\zga x0 x1 x2 x3 x4 i9)/\((!Option.isSome (z0e i6.2 i6.1))=false->zr8 x4 x1 x2 x3 x0 x5 i6 i0))
 def j0l:=(arB (GJ.s (tyJ x2))=true->zr7 x0 x1 x2 x3 x4 x5 x6)/\(arB (GJ.s (tyJ x2))=false->∃(i25:List AT×Int×ByteArray×ByteArray),i25.2.2.1=GJ.s (z0h x6)/\zl7 x0 x1 x2 x3 x4 i25)
 def j0k:=(Ji (zle x6) (∃(i0:Unit),x0=x0/\arB (GJ.s (tyJ x2))=decide (zle x6)/\z9c x4 x1 x2 x3 x6) (∃(i2:Unit),x0=x0/\arB (GJ.s (tyJ x2))=decide (zlg x6)/\z9c x4 x1 x2 x3 x6))/\∀(i4:Unit),True->j0l x4 x1 x2 x3 x0 x5 x6
 def j0j:=(nmB (GJ.s (tyJ x2))=true->zr9 x0 x1 x2 x3 x4 x5 x6)/\(nmB (GJ.s (tyJ x2))=false->j0k x0 x1 x2 x3 x4 x5 x6)
 def j0i:=(Ji (zlc x6) (∃(i0:Unit),x0=x0/\nmB (GJ.s (tyJ x2))=decide (zlc x6)/\z9c x4 x1 x2 x3 x6) (zrc x0 x1 x2 x3 x4 x6))/\∀(i6:Unit),True->j0j x0 x1 x2 x3 x4 x5 x6
 def j0h:=((!decide (GJ.k (z0h x6)=4))=true->zra x0 x1 x2 x3 x4 x5 x6)/\((!decide (GJ.k (z0h x6)=4))=false->j0i x0 x1 x2 x3 x4 x5 x6)
 def j0g:=Ji (GJ.k x2=6) (∃(i0:GJ×ByteArray),zla x2 i0 (i0.2=mkS [116,121,112,101]/\GJ.wf i0.1/\(∀i1,True/\GJ.ok x2 i1->GJ.ok i0.1 i1)/\((!Option.isSome (z0e i0.2 i0.1))=true->zg9 x0 x1 x2 x3 x4 2)/\((!Option.isSome (z0e i0.2 i0.1))=false->j0h x4 x1 x2 x3 x0 x5 i0))) (zg9 x0 x1 x2 x3 x4 2)
 def j0f:=Ji (GJ.k x2=5) (∃(i0:TmS),GJ.k i0.2.2.1=GJ.k x2/\GJ.n i0.2.2.1=GJ.n x2/\GJ.s i0.2.2.1=GJ.s x2/\(GJ.y i0.2.2.1).1=(GJ.y x2).1/\(GJ.y i0.2.2.1).2.1=(GJ.y x2).2.1/\(GJ.y i0.2.2.1).2.2=(GJ.y x2).2.2/\(GJ.x i0.2.2.1).1=(GJ.x x2).1/\(GJ.x i0.2.2.1).2.1=(GJ.x x2).2.1/\(GJ.x i0.2.2.1).2.2=(GJ.x x2).2.2/\i0.2.2.2.1=x3/\i0.2.2.2.2=x0/\length i0.1=length x1/\i0.2.1=x4/\z00 AT.cells i0.1=z00 AT.cells x1/\(z4i i0<x5+1/\z2f i0/\i0.2.2.2.2<=20)/\zlb x4 x1 x2 x3 x0 i0) (j0g x4 x1 x2 x3 x0 x5)
 def j0e:=Ji (GJ.k x2=4) (∃(i0:List AT×Int×ByteArray×ByteArray),i0.2.2.1=GJ.s x2/\zl7 x0 x1 x2 x3 x4 i0) (j0f x4 x1 x2 x3 x0 x5)
 def j0d:=Ji (20<x0) (zg9 x4 x1 x2 x3 x0 3) (j0e x4 x1 x2 x3 x0 x5)
 def j0c:=((!decide (x0=0))=true->∃(i0:TmB),i0.2.2=0/\length (x1++i0.1)=length x1/\i0.2.1=x0/\z00 AT.cells (x1++i0.1)=z00 AT.cells x1/\zga x0 x1 x2 x3 x4 i0)/\((!decide (x0=0))=false->j0d x4 x1 x2 x3 x0 x5)
end
def zby(n:Nat) (S:List AT) (e:Int) (g:GJ) (sp:ByteArray) (d:Int):qlb P (qgc [(50,zoq),(47,z3y),(49,za7),(44,z1h)]) (qhg [(28,z1i.below z4i n),(45,z7h),(46,z4r.below z4i (n+1)),(48,z4p.below zov (n+1))]) Try.f28 (z1i.below z4i (n+1)) (zif) ⟨S,e,g,sp,d⟩=(z4i (S,e,g,sp,d)<n+1/\z2f (S,e,g,sp,d)->(∃(p:Pub),True/\GJ.ok g p)->j0c e S g sp d n):=by kernel_rfl
def zfo:=λn S e g sp d=>Eq.trans (zby n S e g sp d) (by delta Ji Jb Jt Jf zga zg9 zre zcq z9d zl7 zlj zlb zla z0h zlk zl9 zra zlc zl8 zl6 z9c zlf zrc zlh zli zr9 zle zlg zld zrd zrb zr8 zr7 j0l j0k j0j j0i j0h j0g j0f j0e j0d j0c;exact rfl)
section
def z2e(P Q:List Value) (k:Nat) (v:Value):(P++Q).set (P.length+k) v=P++Q.set k v:=by
 induction P with
 |nil=>simp
 |cons a P ih=>rw[List.cons_append,List.length_cons,Nat.add_right_comm,List.set_cons_succ,ih];rfl
def zpw(A B:List AT) (k r:Int):z00 AT.cells (A++pmT k r::B)=spl (z00 AT.cells (A++pmT k 0::B)) (0+A.length*10+3) [.int .i64 r]:=by
 rw[z05,z05,z12,z12,Nat.zero_add,←z01 z0y A]
 show _=(z00 AT.cells A++((pmT k 0).cells++z00 AT.cells B)).set ((z00 AT.cells A).length+3) (.int .i64 r)
 rw[z2e]
 rfl
variable {s:ByteArray}
def zjs(h:nmB s=true):z0d s=9\/z0d s=10\/z0d s=11:=by
 unfold nmB at h
 simp only[Bool.or_eq_true,decide_eq_true_eq]at h
 rcases h with(h|h)|h<;>subst h
 ·exact .inl (by decide)
 ·exact .inr (.inl (by decide))
 ·exact .inr (.inr (by decide))
def zim(h:arB s=true):z0d s=12\/z0d s=13:=by
 unfold arB at h
 simp only[Bool.or_eq_true,decide_eq_true_eq]at h
 rcases h with h|h<;>subst h
 ·exact .inl (by decide)
 ·exact .inr (by decide)
def z9x(S:List AT) (t:AT) (h:S.length<=60):(S++adT S t).length<=60:=by
 unfold adT
 split
 ·rw[List.append_nil];exact h
 ·simp;omega
def zf4{n:Nat} {k r:Int} (h:k=12\/k=13) (r0:0<=r) (r1:r<n):z1f n (pmT k r):=by
 have hk:(pmT k r).k=k:=rfl
 have hi:(pmT k r).it=r:=rfl
 unfold z1f
 rw[hk,hi]
 exact⟨(by omega),λ_=>⟨r0,r1⟩,λb hb=>(by cases hb),λh=>(by omega),λf hf=>(by cases hf),λh=>(by omega),λh=>(by omega),Nat.zero_le _,Nat.zero_le _,Nat.zero_le _⟩
def zfp(n:Nat) (ht:q1v P 28 (z1i.below z4i n)) (hu:q1v P 46 (z4r.below z4i (n+1))) (hn:q1v P 48 (z4p.below zov (n+1))):q1v P 28 (z1i.below z4i (n+1)):=by
 refine qkh mixed (qdw (qhr z4l (qhr z21 (qhr zay (qhr z0w qkx))))) (qen (qhq ht (qhq zfl (qhq hu (qhq hn qkw))))) (W:=zif) Try.func28 (by kernel_rfl) (show 1<=4 by decide) (show 4<=6 by decide) (λs=>by kernel_rfl) λ⟨S,(e:Int),g,sp,(d:Int)⟩=>(zfo n S e g sp d).mpr ?_
 rintro⟨hmu,⟨hS,hg,hd1,hd2,hsp⟩⟩ ⟨p,_,hp⟩
 have hmu:(25- d).toNat<n+1:=hmu
 simp only[sbS,exists_const,forall_const,Int.toNat_natCast,tyJ]
 have bad:∀k:Int,k≠0->z0g (S,e,g,sp,d) ([],k,0):=λk hk=>⟨⟨by rw[List.append_nil];exact hS,λh=>absurd h hk⟩,λh=>absurd h hk⟩
 have gsz:g.s.size<1000:=by rw[GJ.wf_eq]at hg;exact hg.1
 refine⟨λhe=>⟨⟨[],e,0⟩,rfl,by rw[List.append_nil],rfl,by rw[List.append_nil],bad e he,λq _ a ha=>(by cases ha)⟩,λhe=>⟨λh20=>⟨S,rfl,rfl,⟨[],faE e 3,0⟩,rfl,by rw[List.append_nil],rfl,by rw[List.append_nil],bad _ (z0j (by decide)),λq _ a ha=>(by cases ha)⟩,λh20=>⟨λh4=>⟨⟨S,e,g.s,sp⟩,rfl,rfl,rfl,rfl,rfl,⟨hS,by show g.s.size<_;omega,by show sp.size<_;omega⟩,λb hb _=>⟨b,rfl,rfl,rfl,rfl,hb,λq hq=>hq.2⟩⟩,λh4=>⟨λh5=>⟨⟨S,e,g,sp,d⟩,rfl,rfl,rfl,rfl,rfl,rfl,rfl,rfl,rfl,rfl,rfl,rfl,rfl,rfl,⟨hmu,⟨hS,hg,hd1,hd2,hsp⟩,by show d<=20;omega⟩,λq hq=>hq,λb hb _=>⟨b,rfl,rfl,rfl,rfl,hb,λq hq=>hq.2⟩⟩,λh5=>⟨λh6=> ?_,λh6=>⟨S,rfl,rfl,⟨[],faE e 2,0⟩,rfl,by rw[List.append_nil],rfl,by rw[List.append_nil],bad _ (z0j (by decide)),λq _ a ha=>(by cases ha)⟩⟩⟩⟩⟩⟩
 refine⟨⟨g,mkS [116,121,112,101]⟩,rfl,rfl,rfl,rfl,rfl,rfl,rfl,rfl,rfl,rfl,hg,λq hq=>hq,λhno=>⟨S,rfl,rfl,⟨[],faE e 2,0⟩,rfl,by rw[List.append_nil],rfl,by rw[List.append_nil],bad _ (z0j (by decide)),λq _ a ha=>(by cases ha)⟩,λhyes=> ?_⟩
 obtain⟨tw,tok⟩:=z0x (mkS [116,121,112,101]) hg
 simp only
 generalize (z0e (mkS [116,121,112,101]) g).getD zJ=t at*
 have tsz:t.s.size<1000:=by rw[GJ.wf_eq]at tw;exact tw.1
 refine⟨λhk=>⟨⟨by omega,by omega⟩,⟨S,e,t,sp,d+1⟩,rfl,rfl,rfl,rfl,rfl,rfl,rfl,rfl,rfl,rfl,rfl,rfl,rfl,rfl,⟨by show(25- (d+1)).toNat<n;omega,hS,tw,by omega,by omega,by omega⟩,λq hq=>tok q hq,λb hb _=>⟨b,rfl,rfl,rfl,rfl,hb,λq hq=>hq.2⟩⟩,λhk=>⟨⟨λh1=> ?_,λh1=>⟨λh2=> ?_,λh2=> ?_⟩⟩,λhN=> ?_,λhN=>⟨⟨λh1=> ?_,λh1=> ?_⟩,λhA=> ?_,λhA=> ?_⟩⟩⟩
 ·unfold nmB;rw[h1];rfl
 ·unfold nmB;rw[h2];rfl
 ·unfold nmB;rw[decide_eq_false h1,decide_eq_false h2,Bool.false_or,Bool.false_or]
 ·exact⟨⟨S,e,g,z0d t.s,sp,d⟩,rfl,rfl,rfl,rfl,rfl,rfl,rfl,rfl,rfl,rfl,rfl,rfl,rfl,rfl,rfl,⟨hmu,⟨hS,hg,hd1,hd2,hsp⟩,by show d<=20;omega,zjs hN⟩,λq hq=>hq,λb hb _=>⟨b,rfl,rfl,rfl,rfl,hb,λq hq=>hq.2⟩⟩
 ·unfold arB;rw[h1];rfl
 ·unfold arB;rw[decide_eq_false h1,Bool.false_or]
 ·have hkd:=zim hA
  have adl:=z9x S (pmT (z0d t.s) 0) hS
  have adok:∀q,∀a∈adT S (pmT (z0d t.s) 0),a.ok q:=λq a ha=>by
   unfold adT at ha
   split at ha
   ·cases ha
   ·simp at ha;subst ha;exact z80 _ _ _
  have bad2:∀k:Int,k≠0->z0g (S,e,g,sp,d) (adT S (pmT (z0d t.s) 0),k,0):=λk hk=>⟨⟨adl,λh=>absurd h hk⟩,λh=>absurd h hk⟩
  refine⟨⟨S,e,pmT (z0d t.s) 0⟩,rfl,rfl,rfl,rfl,rfl,rfl,rfl,rfl,rfl,rfl,rfl,rfl,rfl,rfl,rfl,rfl,rfl,rfl,rfl,rfl,rfl,⟨λhm=>by unfold wdB;rw[if_pos hm],λhm=>by unfold wdB;rw[if_neg hm]⟩,⟨g,wdB t.s⟩,rfl,rfl,rfl,rfl,rfl,rfl,rfl,rfl,rfl,rfl,hg,λq hq=>hq,λhno=>⟨adS S (pmT (z0d t.s) 0),rfl,rfl,⟨adT S (pmT (z0d t.s) 0),faE (adE S e) 2,0⟩,rfl,by rw[z0q],rfl,by rw[z0q],bad2 _ (z0j (by decide)),λq _=>adok q⟩,λhyes=> ?_⟩
  obtain⟨uw,uok⟩:=z0x (wdB t.s) hg
  refine⟨⟨by omega,by omega⟩,⟨adS S (pmT (z0d t.s) 0),adE S e,(z0e (wdB t.s) g).getD zJ,sp,d+1⟩,rfl,rfl,rfl,rfl,rfl,rfl,rfl,rfl,rfl,rfl,rfl,rfl,rfl,rfl,⟨by show(25- (d+1)).toNat<n;omega,by rw[z0q];exact adl,uw,by omega,by omega,by omega⟩,λq hq=>uok q hq,?_⟩
  rintro⟨U,e2,r⟩ ⟨⟨hU,hU2⟩,hr⟩ _
  simp only at hU hU2 hr⊢
  have ass:adS S (pmT (z0d t.s) 0)++U=S++(adT S (pmT (z0d t.s) 0)++U):=by rw[z0q,List.append_assoc]
  refine⟨λh0=> ?_,λh0=>⟨⟨adT S (pmT (z0d t.s) 0)++U,e2,adR S⟩,rfl,by rw[ass],rfl,by rw[ass],⟨⟨by rw[←ass];exact hU,λh=>absurd h h0⟩,λh=>absurd h h0⟩,λq hq a ha=>(List.mem_append.1 ha).elim (adok q a) (hq.2 a)⟩⟩
  obtain⟨ha0,hUg⟩:=hU2 h0
  obtain⟨r0,r1⟩:=hr h0
  have hl:S.length<60:=by
   by_cases hl:60<=S.length
   ·exact absurd ha0 (z9w hl)
   ·omega
  have e1:adE S e=e:=by unfold adE;rw[if_neg (by omega)]
  have e3:adT S (pmT (z0d t.s) 0)=[pmT (z0d t.s) 0]:=by unfold adT;rw[if_neg (by omega)]
  have er:adR S=S.length:=by unfold adR;rw[if_neg (by omega)]
  rw[ass,e3]at hU hUg r1
  rw[ass,e3,er,Int.toNat_natCast]
  have hlen:∀x,(S++([pmT (z0d t.s) x]++U)).length=S.length+U.length+1:=λx=>by simp;omega
  rw[hlen]at hU hUg r1
  refine⟨⟨by omega,by rw[hlen];omega⟩,by rw[z01 z0y,hlen];show 0+S.length*10+3+1<=_;omega,⟨pmT (z0d t.s) r::U,e2,S.length⟩,rfl,by show(S++([pmT (z0d t.s) r]++U)).length=_;rw[hlen,hlen],rfl,zpw S U _ r,⟨⟨by show(S++([pmT (z0d t.s) r]++U)).length<=60;rw[hlen];omega,λ_=>⟨by rw[←e1];exact ha0,λx hx=> ?_⟩⟩,λ_=>⟨by show 0<=(S.length:Int);omega,by show(S.length:Int)<((S++([pmT (z0d t.s) r]++U)).length:Int);rw[hlen];omega⟩⟩,λq hq x hx=> ?_⟩
  ·show z1f (S++([pmT (z0d t.s) r]++U)).length x
   rw[hlen]
   rcases List.mem_cons.1 hx with rfl|hx
   ·exact zf4 hkd r0 r1
   ·exact hUg x hx
  ·rcases List.mem_cons.1 hx with rfl|hx
   ·exact z80 _ _ _
   ·exact hq.2 x hx
 ·exact⟨⟨S,e,t.s,sp⟩,rfl,rfl,rfl,rfl,rfl,⟨hS,by show t.s.size<_;omega,by show sp.size<_;omega⟩,λb hb _=>⟨b,rfl,rfl,rfl,rfl,hb,λq hq=>hq.2⟩⟩
end
def j6h:ByteArray:=mkS [115,121,109,98,111,108,115]
abbrev SyB:=Int×SV×List ByteArray×Bool×ByteArray
def zfi(S:List AT) (at_:Int) (y:SV) (l:List ByteArray) (hd:Bool) (df:ByteArray):List AT:=match S[at_.toNat]? with
 |some a=>S.set at_.toNat {a with sy:=y,sys:=l,hd:=hd,df:=df}
 |none=>S
def zdv:CtR where
 σ:=List AT×Int×GJ×Int
 args:=λ⟨S,e,g,i⟩=>[.ptr 1 0,g.av, .sv (.int .i64 i)]
 h:=λ⟨S,e,g,i⟩=>mkO S e 2 3
 m:=4
 pre:=λ⟨S,e,g,i⟩=>S.length<=60/\g.wf/\0<=i/\(e=0->i<S.length)
 mem:=λ⟨S,e,g,i⟩=>gM g
 β:=λ_=>SyB
 post:=λ⟨S,e,g,i⟩ ⟨e',y,l,hd,df⟩=>e'=0->e=0/\l≠[]/\l.length<=30
 pm:=λ_ ⟨e',y,l,hd,df⟩=>⟨true,slP txV y l,λ_ _ h e=>z0a h e⟩
 r:=λ_ _=> .tup []
 h':=λ⟨S,e,g,i⟩ ⟨e',y,l,hd,df⟩=>mkO (if e'=0 then zfi S i y l hd df else S) e' 4 5
 m':=6
def slE(h:T AO):Option Int:=mkE h 1
def smL(g:GJ) (e:Int):List ByteArray:=(z1j g j6h e).1
def zqc:zdv.σ->WayF:=λ⟨S,e,g,i⟩=>{
  cut:=λr _ _=>match r with
    |4=>some {σ:=Int,pre:=λe'=>e'=0->e=0,find:=some λ_ h=>slE h,t:=λ_=>[],h:=λe'=>[mkC S e' 2 3],more:=0,μ:=λ_=>0,keep:=[0,2,4,6,7]}
    |6=>some {σ:=Int,pre:=λe'=>e'=0->e=0/\smL g e≠[],find:=some λ_ h=>slE h,t:=λ_=>[],h:=λe'=>[mkC S e' 2 3],more:=0,μ:=λ_=>0,keep:=[0,2,4,6,7]}
    |8=>some {σ:=Int,pre:=λe'=>e'=0->e=0/\smL g e≠[]/\(smL g e).length<=30,find:=some λ_ h=>slE h,t:=λ_=>[],h:=λe'=>[mkC S e' 2 3],more:=0,μ:=λ_=>0,keep:=[0,2,4,6,7]}
    |13=>some {σ:=Int,pre:=λe'=>e'=0->e=0/\smL g e≠[]/\(smL g e).length<=30,find:=some λ_ h=>slE h,t:=λ_=>[],h:=λe'=>[mkC S e' 2 3],more:=0,μ:=λ_=>0,keep:=[0,2,4,6,7,8]}
    |27=>some {σ:=Int,pre:=λe'=>e'=0->e=0/\smL g e≠[]/\(smL g e).length<=30,find:=some λ_ h=>slE h,t:=λ_=>[],h:=λe'=>[mkC S e' 2 3],more:=0,μ:=λ_=>0,keep:=[0,2,4,6,7,11,12]}
    |_=>none
  ann :=λid t _=>match id with
    |0=>some {σ:=Nat×Int,pre:=λ⟨j,e'⟩=>j<=(smL g e).length/\(e'=0->e=0/\smL g e≠[]/\(smL g e).length<=30),t:=λ⟨j,e'⟩=>[(8, .sv (.int .i64 (j:Int)))],h:=λ⟨j,e'⟩=>[mkC S e' 2 3],more:=0,μ:=λ⟨j,e'⟩=>(smL g e).length- j,keep:=[0,2,4,6,7]}
    | 2=>match slI t 8 with
      |some i=>some {σ:=Nat×Int,pre:=λ⟨k,e'⟩=>(k:Int)<=i/\(e'=0->e=0/\smL g e≠[]/\(smL g e).length<=30),t:=λ⟨k,e'⟩=>[(9, .sv (.int .i64 (k:Int)))],h:=λ⟨k,e'⟩=>[mkC S e' 2 3],more:=0,μ:=λ⟨k,e'⟩=>(i- k).toNat,keep:=[0,2,4,6,7,8]}
      |none=>none
    |_=>some {σ:=Nat×Bool,pre:=λ⟨k,b⟩=>k<=(smL g e).length,t:=λ⟨k,b⟩=>[(13, .sv (.bool b)),(14, .sv (.int .i64 (k:Int)))],h:=λ_=>[],more:=0,μ:=λ⟨k,b⟩=>(smL g e).length- k,keep:=[0,2,4,6,7,11,12]}}
section
variable (x0:List AT×Int×GJ×ByteArray) (x1:Int) (x2:Option Addr) (x3 x4:Nat) (x5:List AT) (x6:GJ) (x7 x8:Int) (x9:Nat×Int) (x10:Nat×Bool) (x11:GJ×ByteArray) (x12:List AT×Int×GJ×ByteArray×Bool) (x13:Prop) (x14:Nat×Int) (x15:Nat->Option Obj) (x16:Nat×Bool) (x17:SyB) (x18:List AT) (x19:ByteArray) (x20:Nat×Int)
 abbrev z9f:=z00 AT.cells x0.1=z00 AT.cells x5
 def z45:=(True/\GJ.ok x6 x15)/\slP txV (x2,x3,x4) (z1j x0.2.2.1 x0.2.2.2 x0.2.1).1 x15
 abbrev z2h:=(z1j x0.2.2.1 x0.2.2.2 x0.2.1).2
 def zct:=z00 AT.cells x5=z00 AT.cells x0.1/\True/\x13
 def z28:=(z2h x0).1=(z2h x0).1
 def z55:=length x5=length x18
 def z5i:=GJ.k x6=GJ.k x6/\GJ.n x6=GJ.n x6/\GJ.s x6=GJ.s x6/\(GJ.y x6).1=(GJ.y x6).1/\(GJ.y x6).2.1=(GJ.y x6).2.1/\(GJ.y x6).2.2=(GJ.y x6).2.2/\(GJ.x x6).1=(GJ.x x6).1/\(GJ.x x6).2.1=(GJ.x x6).2.1/\(GJ.x x6).2.2=(GJ.x x6).2.2/\(∀i0,z45 x0 x2 x3 x4 x6 i0->z45 x0 x2 x3 x4 x6 i0)/\x13
 def z54:=z00 AT.cells x0.1=z00 AT.cells x0.1
 def zrq:=z28 x0/\x1=x1/\x2=x2/\x3=x3/\x4=x4/\length x5=length x0.1/\(z2h x0).2=(z2h x0).2/\z54 x0/\z5i x0 x2 x3 x4 x6 (((z2h x0).2=0->x7=0)/\True)
 def zlp:=x8=x8/\z55 x5 x18/\x1=x1/\zct x0 x5 (z28 x0/\x7=x7/\x2=x2/\x3=x3/\x4=x4/\z55 x18 x5/\faE x1 x8=faE x1 x8/\z9f x0 x5/\x13)
 def zgg:=x1=0/\smL x6 x1≠[]
 def z62:=x2=x2/\x3=x3/\x4=x4/\length x5=length x5/\x13
 def z32:=x1=0/\smL x6 x1≠[]/\length (smL x6 x1)<=30
 def zgf:=x9.1<=length (smL x6 x1)/\(x9.2=0->z32 x1 x6)
 def zgh:=(0<=(↑x9.1:Int)/\(↑x9.1:Int)<(↑x3:Int))/\x2≠noA/\x13
 def zgd:=(∀i0,z45 x0 x2 x3 x4 x6 i0->q3i i0 (adr x2 (toNat (↑x9.1:Int)*1)) [string x19])
 def z9g:=x1=x1/\(↑x9.1:Int)=(↑x9.1:Int)/\x13
 def zgc:=(↑x9.1:Int)<=(↑x14.1:Int)/\(x9.2=0->z32 x1 x6)
 abbrev zgb:=Jb ((↑x9.1:Int)+1)
 def zls:=(zgc x1 x6 x9 x14)/\toNat ((↑x14.1:Int)- (↑x9.1:Int))<toNat ((↑x14.1:Int)- (↑x20.1:Int))/\True
 def zro:=zgb x9/\∃(i0:Nat×Int),z28 x0/\(↑i0.1:Int)=(↑x9.1:Int)+1/\z9g x1 x14 (z62 x2 x3 x4 x5 (i0.2=x9.2/\z54 x0/\z5i x0 x2 x3 x4 x6 (zls x7 x6 i0 x14 x9)))
 def zri:=zgh x2 x3 x9 (∃i0,zgd x0 x2 x3 x4 x6 x9 i0/\zgh x2 x3 x14 (∃i2,zgd x0 x2 x3 x4 x6 x14 i2/\Ji (i0=i2) (∃(i4:List AT),(5:Int)=5/\z55 i4 x5/\x9.2=x9.2/\zct x0 i4 (zgb x9/\∃(i5:Nat×Int),z28 x0/\(↑i5.1:Int)=(↑x9.1:Int)+1/\z9g x1 x14 (x2=x2/\x3=x3/\x4=x4/\z55 x5 i4/\i5.2=faE x9.2 5/\z9f x0 i4/\z5i x0 x2 x3 x4 x6 (zls x7 x6 i5 x14 x9)))) (zro x0 x1 x2 x3 x4 x5 x6 x7 x9 x14)))
 def zrp:=zgb x9/\∃(i0:Nat×Int),z28 x0/\x1=x1/\(↑i0.1:Int)=(↑x9.1:Int)+1/\z62 x2 x3 x4 x5 (i0.2=x14.2/\z54 x0/\z5i x0 x2 x3 x4 x6 ((zgf x7 x6 i0)/\length (smL x6 x7)- i0.1<length (smL x6 x7)- x9.1/\True))
 def zrg:=Ji ((↑x9.1:Int)<(↑x14.1:Int)) (zri x0 x1 x2 x3 x4 x5 x6 x7 x9 x14) (zrp x0 x1 x2 x3 x4 x5 x6 x7 x14 x9)
 def zrf:=(∃(i0:Nat×Int),z28 x0/\(↑i0.1:Int)=0/\z9g x1 x9 (z62 x2 x3 x4 x5 (i0.2=x7/\z54 x0/\z5i x0 x2 x3 x4 x6 ((zgc x8 x6 i0 x9)/\True))))/\∀(i1:Nat×Int),zgc x8 x6 i1 x9->zrg x0 x1 x2 x3 x4 x5 x6 x8 i1 x9
 def j0t:=(zgh x2 x3 x9 (∃i0,zgd x0 x2 x3 x4 x6 x9 i0/\i0=i0/\size i0<1000000/\((!z1v i0)=true->∃(i2:List AT),(6:Int)=6/\z55 i2 x5/\x9.2=x9.2/\zct x0 i2 (z28 x0/\z9g x1 x9 (x2=x2/\x3=x3/\x4=x4/\z55 x5 i2/\faE x9.2 (6:Int)=faE x9.2 6/\z9f x0 i2/\z5i x0 x2 x3 x4 x6 ((faE x9.2 (6:Int)=0->z32 x7 x6)/\True))))/\((!z1v i0)=false->z28 x0/\z9g x1 x9 (z62 x2 x3 x4 x5 (x9.2=x9.2/\z54 x0/\z5i x0 x2 x3 x4 x6 ((x9.2=0->z32 x7 x6)/\True))))))/\∀(i3:Int),(i3=0->z32 x7 x6)->zrf x0 x1 x2 x3 x4 x5 x6 i3 x7 x9
 def z9e:=z28 x0/\Option.isSome (z0e x11.2 x11.1)=Option.isSome (z0e x11.2 x11.1)/\x13
 abbrev z29:=woR x12.2.2.1 x12.2.2.2.1 x12.2.2.2.2 x12.2.1
 def zcs:=(z29 x12).1=(z29 x12).1/\x2=x2/\x3=x3/\x4=x4/\x13
 def zge:=(z29 x12).2=(z29 x12).2/\z00 AT.cells x12.1=z00 AT.cells x12.1/\x13
 abbrev zlr:=Jb ((↑x10.1:Int)+1)
 def zln:=zcs x2 x3 x4 x12 ((↑x10.1:Int)=(↑x16.1:Int)+1/\length x12.1=length x12.1/\zge x12 (z5i x0 x2 x3 x4 x6 (x10.1<=length (smL x6 x1)/\length (smL x6 x1)- x10.1<length (smL x6 x1)- x16.1/\True)))
 def zrn:=zlr x10/\∃(i0:Nat×Bool),z9e x0 x11 (i0.2=true/\x1=x1/\zln x0 x7 x2 x3 x4 x6 i0 x12 x10)
 def zrl:=(0<=(↑x10.1:Int)/\(↑x10.1:Int)<(↑x3:Int))/\x2≠noA/\∃i0,(∀i1,z45 x0 x2 x3 x4 x6 i1->q3i i1 (adr x2 (toNat (↑x10.1:Int)*1)) [string i0])/\zlr x10/\∃(i2:Nat×Bool),z9e x0 x11 (i2.2=decide (i0=(z29 x12).1)/\x1=x1/\zln x0 x7 x2 x3 x4 x6 i2 x12 x10)
 def zrj:=(x10.2=true->zrn x0 x1 x2 x3 x4 x6 x7 x10 x11 x12)/\(x10.2=false->zrl x0 x1 x2 x3 x4 x6 x7 x10 x11 x12)
 def zlm:=z9e x0 x11 (x1=x1/\zcs x2 x3 x4 x12 (length x5=length x12.1/\zge x12 (z5i x0 x2 x3 x4 x6 (((z29 x12).2=0->z32 x7 x6)/\True))))
 def zrm:=((!x10.2)=true->∃(i0:List AT),(6:Int)=6/\length i0=length x12.1/\(z29 x12).2=(z29 x12).2/\z00 AT.cells i0=z00 AT.cells x12.1/\True/\z9e x0 x11 (x1=x1/\zcs x2 x3 x4 x12 (z55 x5 i0/\faE (z29 x12).2 (6:Int)=faE (z29 x12).2 6/\z00 AT.cells x12.1=z00 AT.cells i0/\z5i x0 x2 x3 x4 x6 ((faE (z29 x12).2 (6:Int)=0->z32 x7 x6)/\True))))/\((!x10.2)=false->zlm x0 x1 x2 x3 x4 x5 x6 x7 x11 x12)
 abbrev zlq:=spl (spl (z00 AT.cells x12.1) (nat_lit 0+toNat x1*nat_lit 10+4) [slice x2 x3 x4]) (nat_lit 0+toNat x1*nat_lit 10+5) [bool (Option.isSome (z0e x11.2 x11.1))]
 abbrev zcr:=if x17.1=0 then zfi x5 x1 x17.2.1 x17.2.2.1 x17.2.2.2.1 x17.2.2.2.2 else x5
 def zlo:=x1=0/\x17.2.2.1≠[]/\length x17.2.2.1<=30
 def zrk:=(0<=x1/\x1<(↑(length x5):Int))/\nat_lit 0+toNat x1*nat_lit 10+4+length [slice x2 x3 x4]<=length (z00 AT.cells x12.1)/\(0<=x1/\x1<(↑(length x5):Int))/\nat_lit 0+toNat x1*nat_lit 10+5+length [bool (Option.isSome (z0e x11.2 x11.1))]<=length (spl (z00 AT.cells x12.1) (nat_lit 0+toNat x1*nat_lit 10+4) [slice x2 x3 x4])/\(0<=x1/\x1<(↑(length x5):Int))/\nat_lit 0+toNat x1*nat_lit 10+6+length [string (z29 x12).1]<=length (zlq x1 x2 x3 x4 x11 x12)/\∃(i0:SyB),length (zcr x1 x5 i0)=length x5/\i0.1=x7/\z00 AT.cells (zcr x1 x5 i0)=spl (zlq x1 x2 x3 x4 x11 x12) (nat_lit 0+toNat x1*nat_lit 10+6) [string (z29 x12).1]/\(i0.1=0->zlo x8 i0)/\(∀i1,z45 x0 x2 x3 x4 x6 i1->slP txV i0.2.1 i0.2.2.1 i1)/\True
 def zrh:=Ji (x1=0) (zrk x0 x7 x2 x3 x4 x5 x6 x1 x8 x11 x12) (∃(i2:SyB),length (zcr x7 x5 i2)=length x5/\i2.1=x1/\z00 AT.cells (zcr x7 x5 i2)=z00 AT.cells x12.1/\(i2.1=0->zlo x8 i2)/\(∀i3,z45 x0 x2 x3 x4 x6 i3->slP txV i2.2.1 i2.2.2.1 i3)/\True)
 def j0u:=((Option.isSome (z0e x11.2 x11.1)=true->zrm x0 x1 x2 x3 x4 x5 x6 x7 x10 x11 x12)/\(Option.isSome (z0e x11.2 x11.1)=false->zlm x0 x1 x2 x3 x4 x5 x6 x7 x11 x12))/\∀(i1:Int),(i1=0->z32 x7 x6)->zrh x0 i1 x2 x3 x4 x5 x6 x1 x7 x11 x12
 def j0r:=Ji ((↑x10.1:Int)<(↑x3:Int)) (zrj x0 x1 x2 x3 x4 x6 x7 x10 x11 x12) (j0u x0 x1 x2 x3 x4 x5 x6 x7 x10 x11 x12)
 def zll:=∃(i0:GJ×ByteArray),GJ.k i0.1=GJ.k x6/\GJ.n i0.1=GJ.n x6/\GJ.s i0.1=GJ.s x6/\(GJ.y i0.1).1=(GJ.y x6).1/\(GJ.y i0.1).2.1=(GJ.y x6).2.1/\(GJ.y i0.1).2.2=(GJ.y x6).2.2/\(GJ.x i0.1).1=(GJ.x x6).1/\(GJ.x i0.1).2.1=(GJ.x x6).2.1/\(GJ.x i0.1).2.2=(GJ.x x6).2.2/\i0.2=mkS [100,101,102,97,117,108,116]/\GJ.wf i0.1/\(∀i1,z45 x0 x2 x3 x4 x6 i1->GJ.ok i0.1 i1)/\∃(i2:List AT×Int×GJ×ByteArray×Bool),GJ.k i2.2.2.1=GJ.k x6/\GJ.n i2.2.2.1=GJ.n x6/\GJ.s i2.2.2.1=GJ.s x6/\(GJ.y i2.2.2.1).1=(GJ.y x6).1/\(GJ.y i2.2.2.1).2.1=(GJ.y x6).2.1/\(GJ.y i2.2.2.1).2.2=(GJ.y x6).2.2/\(GJ.x i2.2.2.1).1=(GJ.x x6).1/\(GJ.x i2.2.2.1).2.1=(GJ.x x6).2.1/\(GJ.x i2.2.2.1).2.2=(GJ.x x6).2.2/\i2.2.2.2.1=mkS [100,101,102,97,117,108,116]/\i2.2.2.2.2=false/\length i2.1=length x5/\i2.2.1=x9.2/\z00 AT.cells i2.1=z00 AT.cells x0.1/\GJ.wf i2.2.2.1/\(∀i3,z45 x0 x2 x3 x4 x6 i3->GJ.ok i2.2.2.1 i3)/\(∃(i4:Nat×Bool),z9e x0 i0 (i4.2=false/\x1=x1/\zcs x2 x3 x4 i2 ((↑i4.1:Int)=0/\length i2.1=length i2.1/\zge i2 (z5i x0 x2 x3 x4 x6 (i4.1<=length (smL x6 x7)/\True)))))/\∀(i5:Nat×Bool),i5.1<=length (smL x6 x7)->j0r x0 x1 x2 x3 x4 x5 x6 x7 i5 i0 i2
 def j0s:=Ji (x9.2=0) (j0t x0 x1 x2 x3 x4 x5 x6 x7 x9) (zll x0 x1 x2 x3 x4 x5 x6 x7 x9)
 def j0q:=Ji ((↑x9.1:Int)<(↑x3:Int)) (j0s x0 x1 x2 x3 x4 x5 x6 x7 x9) (zll x0 x1 x2 x3 x4 x5 x6 x7 x9)
 def j0p:=(∃(i0:Nat×Int),z28 x0/\x1=x1/\(↑i0.1:Int)=0/\z62 x2 x3 x4 x5 (i0.2=x7/\z54 x0/\z5i x0 x2 x3 x4 x6 ((zgf x8 x6 i0)/\True)))/\∀(i2:Nat×Int),zgf x8 x6 i2->j0q x0 x1 x2 x3 x4 x5 x6 x8 i2
 def j0o:=(Ji (30<(↑x3:Int)) (∃(i0:List AT),zlp x0 x1 x2 x3 x4 i0 x7 3 (z5i x0 x2 x3 x4 x6 ((faE x1 (3:Int)=0->z32 x8 x6)/\True)) x5) (z28 x0/\x7=x7/\z62 x2 x3 x4 x5 (x1=x1/\z54 x0/\z5i x0 x2 x3 x4 x6 ((x1=0->z32 x8 x6)/\True))))/\∀(i3:Int),(i3=0->z32 x8 x6)->j0p x0 x7 x2 x3 x4 x5 x6 i3 x8
 def j0n:=(Ji ((↑x3:Int)=0) (∃(i0:List AT),zlp x0 x1 x2 x3 x4 i0 x7 6 (z5i x0 x2 x3 x4 x6 ((faE x1 (6:Int)=0->zgg x8 x6)/\True)) x5) (z28 x0/\x7=x7/\z62 x2 x3 x4 x5 (x1=x1/\z54 x0/\z5i x0 x2 x3 x4 x6 ((x1=0->zgg x8 x6)/\True))))/\∀(i3:Int),(i3=0->zgg x8 x6)->j0o x0 i3 x2 x3 x4 x5 x6 x7 x8
 def j0m:=(((!(z2h x0).1)=true->∃(i0:List AT),(2:Int)=2/\length i0=length x0.1/\(z2h x0).2=(z2h x0).2/\zct x0 i0 (z28 x0/\x1=x1/\x2=x2/\x3=x3/\x4=x4/\z55 x5 i0/\faE (z2h x0).2 (2:Int)=faE (z2h x0).2 2/\z9f x0 i0/\z5i x0 x2 x3 x4 x6 ((faE (z2h x0).2 (2:Int)=0->x7=0)/\True)))/\((!(z2h x0).1)=false->zrq x0 x1 x2 x3 x4 x5 x6 x7))/\∀(i3:Int),(i3=0->x7=0)->j0n x0 i3 x2 x3 x4 x5 x6 x1 x7
end
def zfh(S:List AT) (e:Int) (g:GJ) (i:Int):qlb P (qgc [(74,z4f),(47,z3y),(71,z5p),(94,z8m),(44,z1h)]) (qhg []) Try.f76 zdv (zqc) ⟨S,e,g,i⟩=(length S<=60/\GJ.wf g/\0<=i/\(e=0->i<(↑(length S):Int))->(∃(p:Pub),True/\GJ.ok g p)->∃(s:List AT×Int×GJ×ByteArray),GJ.k s.2.2.1=GJ.k g/\GJ.n s.2.2.1=GJ.n g/\GJ.s s.2.2.1=GJ.s g/\(GJ.y s.2.2.1).1=(GJ.y g).1/\(GJ.y s.2.2.1).2.1=(GJ.y g).2.1/\(GJ.y s.2.2.1).2.2=(GJ.y g).2.2/\(GJ.x s.2.2.1).1=(GJ.x g).1/\(GJ.x s.2.2.1).2.1=(GJ.x g).2.1/\(GJ.x s.2.2.1).2.2=(GJ.x g).2.2/\s.2.2.2=mkS [115,121,109,98,111,108,115]/\length s.1=length S/\s.2.1=e/\z9f s S/\GJ.wf s.2.2.1/\(∀(p:Pub),True/\GJ.ok g p->GJ.ok s.2.2.1 p)/\∀(b:Unit),True->∀(a:Option Addr) (n c:Nat),(∃(p:Pub),z45 s a n c g p)->j0m s i a n c S g e):=by kernel_rfl
def zkc:=λS e g i=>Eq.trans (zfh S e g i) (by delta Ji Jb Jt Jf z9f z45 z2h zct z28 z55 z5i z54 zrq zlp zgg z62 z32 zgf zgh zgd z9g zgc zgb zls zro zri zrp zrg zrf j0t z9e z29 zcs zge zlr zln zrn zrl zrj zlm zrm zlq zcr zlo zrk zrh j0u j0r zll j0s j0q j0p j0o j0n j0m;exact rfl)
section
def z8a:∀{l:List GJ} {e:Int} {acc:List ByteArray},GJ.wfs l->(∀x∈acc,x.size<1000)->∀x∈(z2t l e acc).1,x.size<1000
  | [],e,acc,_,ha=>by rw[z2t];exact ha
  | g ::l,e,acc,hw,ha=>by
    rw[GJ.wfs]at hw
    rw[z2t]
    split
    · refine z8a hw.2 λx hx=> ?_
      rcases List.mem_append.1 hx with hx|hx
      · exact ha x hx
      · simp at hx;subst hx;have:=hw.1;rw[GJ.wf_eq]at this;exact this.1
    · exact ha
def zq1:∀{l:List GJ} {e:Int} {acc:List ByteArray},(z2t l e acc).2=0->e=0
  | [],e,acc,h=>by rw[z2t]at h;exact h
  | g::l,e,acc,h=>by
    rw[z2t]at h
    split at h
    · assumption
    · exact h
def z2a{e k:Int} (hk:k≠0):faE e k=0->False:=λh=>z0j hk h
variable {g:GJ} {s:ByteArray} {e:Int}
def z51(hg:g.wf):∀x∈(z1j g s e).1,x.size<1000:=by
 unfold z1j
 split
 ·have:=(z0x s hg).1
  rw[GJ.wf_eq]at this
  exact z8a this.2.2.2.2.2.2 λx hx=>(by cases hx)
 ·intro x hx;cases hx
def z89:∀{l:List GJ} {e:Int} {acc:List ByteArray},(z2t l e acc).1.length<=acc.length+l.length
  | [],e,acc=>by rw[z2t];exact Nat.le_refl _
  | g ::l,e,acc=>by
    rw[z2t]
    split
    · refine Nat.le_trans z89 ?_
      simp;omega
    · simp
def z50(hg:g.wf):(z1j g s e).1.length<1000:=by
 unfold z1j
 split
 ·have:=(z0x s hg).1
  rw[GJ.wf_eq]at this
  refine Nat.lt_of_le_of_lt z89 ?_
  simp;exact this.2.1
 ·exact Nat.zero_lt_succ _
def zc0:(z1j g s e).2.2=0->e=0:=by
 unfold z1j
 split
 ·intro h
  have:=zq1 h
  unfold tyE at this
  split at this
  ·exact this
  ·exact absurd this (z0j (by decide))
 ·exactλh=>h
def zkj{b:Bool}:(woR g s b e).2=0->e=0:=by
 unfold woR
 split
 ·split
  ·exactλh=>absurd h (z0j (by decide))
  ·exactλh=>h
 ·split
  ·exactλh=>h
  ·exactλh=>absurd h (z0j (by decide))
def z4x(S:List AT) (k:Nat) (hk:k<S.length) (x:AT):z00 AT.cells (S.set k x)=z00 AT.cells (S.take k)++(x.cells++z00 AT.cells (S.drop (k+1))):=by
 rw[List.set_eq_take_append_cons_drop,if_pos hk,z05,z12]
def z5x(S:List AT) (k:Nat) (hk:k<S.length):z00 AT.cells S=z00 AT.cells (S.take k)++((S[k]).cells++z00 AT.cells (S.drop (k+1))):=by
 rw[←z4x S k hk,List.set_getElem_self]
def z5y(S:List AT) (k:Nat) (hk:k<S.length):(z00 AT.cells (S.take k)).length=k*10:=by
 rw[z01 z0y,List.length_take];congr 1;omega
def zfj(S:List AT) (k:Nat) (hk:k<S.length) (y:SV) (l:List ByteArray) (hd:Bool) (df:ByteArray):z00 AT.cells (S.set k {S[k]with sy:=y,sys:=l,hd:=hd,df:=df})=spl (spl (spl (z00 AT.cells S) (0+k*10+4) [svV y]) (0+k*10+5) [.bool hd]) (0+k*10+6) [.string df]:=by
 rw[z4x S k hk]
 conv=>rhs;rw[z5x S k hk]
 rw[Nat.zero_add,←z5y S k hk]
 generalize z00 AT.cells (S.take k)=A
 generalize z00 AT.cells (S.drop (k+1))=B
 show _=(((A++((S[k]).cells++B)).set (A.length+4) (svV y)).set (A.length+5) (.bool hd)).set (A.length+6) (.string df)
 rw[z2e,z2e,z2e]
 rfl
def zkd:q1v P 76 zdv:=by
 refine qkh mixed (qdw (qhr z4z (qhr z21 (qhr z52 (qhr z6p (qhr z0w qkx)))))) (qen qkw) (W:=zqc) Try.func76 (by kernel_rfl) (by decide) (by decide) (λs=>by kernel_rfl) λ⟨S,(e:Int),g,(i:Int)⟩=>(zkc S e g i).mpr ?_
 rintro⟨hS,hg,hi0,hi1⟩ ⟨p,_,hp⟩
 simp only[sbS,exists_const,forall_const,Int.toNat_natCast]
 refine⟨⟨S,e,g,mkS [115,121,109,98,111,108,115]⟩,rfl,rfl,rfl,rfl,rfl,rfl,rfl,rfl,rfl,rfl,rfl,rfl,rfl,hg,λq hq=>hq,?_⟩
 have hL:(z1j g (mkS [115,121,109,98,111,108,115]) e).1=smL g e:=rfl
 have hsz:∀x∈smL g e,x.size<1000:=z51 hg
 have hLl:(smL g e).length<1000:=z50 hg
 have hE:(z1j g (mkS [115,121,109,98,111,108,115]) e).2.2=0->e=0:=zc0
 simp only[hL]
 generalize z1j g (mkS [115,121,109,98,111,108,115]) e=F at*
 generalize smL g e=L at*
 clear hL
 rintro a n c ⟨p1,hp1,hl1⟩
 have hn:n=L.length:=hl1.1
 subst hn
 have hat:=λ(j:Nat) (hj:j<L.length) (q:Pub) (hq:slP txV (a,L.length,c) L q)=>(show a≠noA/\q3i q (adr a (j*1)) [.string L[j]]from z0b z0s (by decide) hq hj)
 refine⟨⟨λ_=>⟨S,rfl,rfl,rfl,rfl,λh=>(z2a (by decide) h).elim⟩,λ_=>⟨trivial,hE⟩⟩,?_⟩
 intro e1 h1
 refine⟨⟨λ_=>⟨S,rfl,rfl,rfl,rfl,λh=>(z2a (by decide) h).elim⟩,λhz h=>⟨h1 h,λhh=>hz (by rw[hh];rfl)⟩⟩,?_⟩
 intro e2 h2
 refine⟨⟨λ_=>⟨S,rfl,rfl,rfl,rfl,λh=>(z2a (by decide) h).elim⟩,λhz h=>⟨(h2 h).1,(h2 h).2,by omega⟩⟩,?_⟩
 intro e3 h3
 refine⟨⟨⟨0,e3⟩,rfl,rfl,Nat.zero_le _,h3⟩,?_⟩
 rintro⟨j,e4⟩ ⟨hj,h4⟩
 simp only at*
 refine⟨λhlt=>⟨λh0=>⟨⟨by omega,(hat j (by omega) p1 hl1).1,L[j]'(by omega),λq hq=>(hat j (by omega) q hq.2).2,by have:=hsz _ (List.getElem_mem (show j<L.length by omega));omega,λ_=>⟨S,rfl,rfl,rfl,rfl,λh=>(z2a (by decide) h).elim⟩,λ_=>h4⟩,?_⟩,λh0=> ?xa⟩,λhge=> ?xb⟩
 ·intro e5 h5
  refine⟨⟨⟨0,e5⟩,rfl,rfl,by show(0:Int)<=_;omega,h5⟩,?_⟩
  rintro⟨k,e6⟩ ⟨hk,h6⟩
  simp only at*
  refine⟨λhkj=>⟨⟨by omega,by omega⟩,(hat k (by omega) p1 hl1).1,L[k]'(by omega),λq hq=>(hat k (by omega) q hq.2).2,⟨by omega,by omega⟩,(hat j (by omega) p1 hl1).1,L[j]'(by omega),λq hq=>(hat j (by omega) q hq.2).2,λ_=>⟨S,rfl,rfl,⟨by omega,by omega⟩,⟨k+1,faE e6 5⟩,by show((k+1:Nat):Int)=_;omega,rfl,rfl,rfl,⟨by show((k+1:Nat):Int)<=_;omega,λh=>(z2a (by decide) h).elim⟩,by show((j:Int)- ((k+1:Nat):Int)).toNat<_;omega⟩,λ_=>⟨⟨by omega,by omega⟩,⟨k+1,e6⟩,by show((k+1:Nat):Int)=_;omega,rfl,⟨by show((k+1:Nat):Int)<=_;omega,h6⟩,by show((j:Int)- ((k+1:Nat):Int)).toNat<_;omega⟩⟩,λhkj=>⟨⟨by omega,by omega⟩,⟨j+1,e6⟩,by show((j+1:Nat):Int)=_;omega,rfl,⟨by show j+1<=_;omega,h6⟩,by show _- (j+1)<_;omega⟩⟩
 case xa|xb=>
  refine⟨⟨g,mkS [100,101,102,97,117,108,116]⟩,rfl,rfl,rfl,rfl,rfl,rfl,rfl,rfl,rfl,rfl,hg,λq hq=>hq.1,⟨S,e4,g,mkS [100,101,102,97,117,108,116],false⟩,rfl,rfl,rfl,rfl,rfl,rfl,rfl,rfl,rfl,rfl,rfl,rfl,rfl,rfl,hg,λq hq=>hq.1,⟨⟨0,false⟩,rfl,rfl,Nat.zero_le _⟩,?_⟩
  rintro⟨k,b⟩ hk
  simp only at*
  have hw:(woR g (mkS [100,101,102,97,117,108,116]) false e4).2=0->e=0/\L≠[]/\L.length<=30:=λh=>h4 (zkj h)
  generalize woR g (mkS [100,101,102,97,117,108,116]) false e4=W at*
  generalize (z0e (mkS [100,101,102,97,117,108,116]) g).isSome=hb at*
  refine⟨λhkl=>⟨λ_=>⟨⟨by omega,by omega⟩,⟨k+1,true⟩,rfl,by show((k+1:Nat):Int)=_;omega,by show k+1<=_;omega,by show _- (k+1)<_;omega⟩,λ_=>⟨by omega,(hat k (by omega) p1 hl1).1,L[k]'(by omega),λq hq=>(hat k (by omega) q hq.2).2,⟨by omega,by omega⟩,⟨k+1,_⟩,rfl,by show((k+1:Nat):Int)=_;omega,by show k+1<=_;omega,by show _- (k+1)<_;omega⟩⟩,λhkl=>⟨⟨λ_=>⟨λ_=>⟨S,rfl,rfl,rfl,rfl,λh=>(z2a (by decide) h).elim⟩,λ_=>⟨trivial,hw⟩⟩,λ_=>⟨trivial,hw⟩⟩,?_⟩⟩
  intro e8 h8
  refine⟨λhz=> ?_,λhz=>⟨⟨e8,(a,L.length,c),L,hb,W.1⟩,by show(if e8=0 then _ else S).length=_;rw[if_neg hz],rfl,by show z00 AT.cells (if e8=0 then _ else S)=_;rw[if_neg hz],h8,λq hq=>hq.2⟩⟩
  obtain⟨z0,z1,z2⟩:=h8 hz
  have hi:=hi1 z0
  obtain⟨m,rfl⟩:=Int.eq_ofNat_of_zero_le hi0
  have hm:m<S.length:=by omega
  have es:zfi S (m:Int) (a,L.length,c) L hb W.1=S.set m {S[m]with sy:=(a,L.length,c),sys:=L,hd:=hb,df:=W.1}:=by
   unfold zfi;rw[Int.toNat_natCast,List.getElem?_eq_getElem hm]
  have hrl:=z01 z0y S
  simp only[Int.toNat_natCast,q8q,List.length_singleton]
  refine⟨⟨hi0,hi⟩,by omega,⟨hi0,hi⟩,by omega,⟨hi0,hi⟩,by omega,⟨e8,(a,L.length,c),L,hb,W.1⟩,?_,rfl,?_,h8,λq hq=>hq.2⟩
  ·show(if e8=0 then zfi S (m:Int) (a,L.length,c) L hb W.1 else S).length=_
   rw[if_pos hz,es,List.length_set]
  ·show z00 AT.cells (if e8=0 then zfi S (m:Int) (a,L.length,c) L hb W.1 else S)=_
   rw[if_pos hz,es]
   exact zfj S m hm _ _ _ _
end
abbrev FdS:=List AT×Int×GJ×Int×ByteArray×Int
abbrev FdB:=List AT×Int×SV×List AF
def z6l(S:List AT) (at_:Int) (x:SV) (l:List AF):List AT:=match S[at_.toNat]? with
 |some a=>S.set at_.toNat {a with f:=x,fs:=l}
 |none=>S
def tfM(T:List AT) (l:List AF):PF:=⟨true,λp=>(∀a∈T,a.ok p)/\∀f∈l,f.ok p,λ_ _ h e=>⟨λa ha=>AT.ok_mono h (e.1 a ha),λf hf=>⟨z0a h (e.2 f hf).1,GJ.ok_mono h (e.2 f hf).2⟩⟩⟩
def z3c:CtR where
 σ:=FdS
 args:=λ⟨S,e,g,i,sp,d⟩=>[.ptr 1 0,g.av, .sv (.int .i64 i), .sv (.string sp), .sv (.int .i64 d)]
 h:=λ⟨S,e,g,i,sp,d⟩=>mkO S e 2 3
 m:=4
 pre:=λ⟨S,e,g,i,sp,d⟩=>S.length<=60/\g.wf/\0<=i/\(e=0->i<S.length)/\1<=d/\d<=20/\(sp.size:Int)<=1100*(d+1)
 mem:=λ⟨S,e,g,i,sp,d⟩=>gM g
 β:=λ_=>FdB
 post:=λ⟨S,e,g,i,sp,d⟩ ⟨T,e',x,fs⟩=>(S++T).length<=60/\(e'=0->e=0/\(∀a∈T,z1f (S++T).length a)/\(∀f∈fs,(0<=f.ty/\f.ty<(S++T).length)/\f.df.wf)/\fs.length<=30)
 pm:=λ_ ⟨T,e',x,fs⟩=>⟨true,λp=>(∀a∈T,a.ok p)/\slP AF.cells x fs p/\∀f∈fs,f.ok p,λ_ _ h e=>⟨λa ha=>AT.ok_mono h (e.1 a ha),z0a h e.2.1,λf hf=>⟨z0a h (e.2.2 f hf).1,GJ.ok_mono h (e.2.2 f hf).2⟩⟩⟩
 r:=λ_ _=> .tup []
 h':=λ⟨S,e,g,i,sp,d⟩ ⟨T,e',x,fs⟩=>mkO ((if e'=0 then z6l S i x fs else S)++T) e' 4 5
 m':=6
def zot:FdS->Nat:=λ⟨S,e,g,i,sp,d⟩=>(25- d).toNat
def zul(h:T AO) (e:Int):List (Nat×AO):=match h.get 1 with
 |some (.cells a b c [sl,_])=>[(1, .cells a b c [sl, .sv (.int .i64 e)])]
 |_=>[]
def fdN:ByteArray:=mkS [102,105,101,108,100,115]
def fdJ(g:GJ):GJ:=(z0e fdN g).getD zJ
abbrev FlS:=Nat×Int×List AT×List AF
def ze4(S:List AT) (e:Int) (g:GJ):FlS->Prop:=λ⟨i,e',T,fs⟩=>i<=(fdJ g).l.length/\fs.length<=i/\(S++T).length<=60/\(e'=0->e=0/\(∀a∈T,z1f (S++T).length a)/\(∀f∈fs,(0<=f.ty/\f.ty<(S++T).length)/\f.df.wf))
def z8f:FdS->WayF:=λ⟨S,e,g,i,sp,d⟩=>{
 cut:=λr t h=>match r with
  |15=>some {σ:=Bool,t:=λb=>[(78, .sv (.bool b))],h:=λ_=>[],more:=0,μ:=λ_=>0,keep:=[0,2,3,4,6,10,12,13,14,15]}
  |16=>match mkE h 1 with|none=>none|some e0=>some {σ:=Int,pre:=λe'=>e'=0->e0=0,find:=some λ_ h=>mkE h 1,t:=λ_=>[],h:=λe'=>zul h e',more:=0,μ:=λ_=>0,keep:=[0,2,3,4,6,10,12,13,14,15]}
  |24=>match mkE h 1 with|none=>none|some e0=>some {σ:=Int,pre:=λe'=>e'=0->e0=0,find:=some λ_ h=>mkE h 1,t:=λ_=>[],h:=λe'=>zul h e',more:=0,μ:=λ_=>0,keep:=[0,2,3,4,6,10,12,13,14,15,17]}
  |_=>none
 ann:=λid t h=>match id with
  |0=>some {σ:=FlS,pre:=ze4 S e g,mem:=λ⟨i,e',T,fs⟩=>tfM T fs,t:=λ⟨i,e',T,fs⟩=>[(13, .sv (.int .i64 (i:Int))),(12, .ssl 9 0 fs.length 9 10)],h:=λ⟨i,e',T,fs⟩=>mkO (S++T) e' 7 8++[(9, .row 50 0 (z00 AF.cells fs))],more:=4,μ:=λ⟨i,e',T,fs⟩=>(fdJ g).l.length- i,keep:=[0,2,3,4,6,10],del:=[2]}
  |2=>match mkE h 1 with|none=>none|some e0=>some {σ:=Nat×Int,pre:=λ⟨k,e'⟩=>e'=0->e0=0,t:=λ⟨k,e'⟩=>[(16, .sv (.int .i64 (k:Int)))],h:=λ⟨k,e'⟩=>zul h e',more:=0,μ:=λ⟨k,e'⟩=>100- k,keep:=[0,2,3,4,6,10,12,13,14,15]}
  |_=>match mkE h 1 with|none=>none|some e0=>some {σ:=Nat×Int,pre:=λ⟨k,e'⟩=>e'=0->e0=0,t:=λ⟨k,e'⟩=>[(19, .sv (.int .i64 (k:Int)))],h:=λ⟨k,e'⟩=>zul h e',more:=0,μ:=λ⟨k,e'⟩=>2000- k,keep:=[0,2,3,4,6,10,12,13,14,15]}
 pub:=λi k=>match i,k with
  |34,9=>[165]
  |_,_=>[]}
section
variable (x0:GJ×ByteArray) (x1:List AT) (x2 x3:Int) (x4:GJ) (x5:ByteArray) (x6:Int) (x7:Nat) (x8:FlS) (x9:List AT×Int×GJ×ByteArray×Bool) (x10 x11:Int) (x12:ByteArray) (x13:Option Addr) (x14:Nat) (x15:Option Addr) (x16 x17 x18:Nat) (x19:Int) (x20:Nat×Int) (x21:GJ×ByteArray) (x22:List AT×Int×GJ×ByteArray) (x23:Option Addr) (x24:Nat) (x25:TmB) (x26:Prop) (x27:Nat->Option Obj) (x28:FdB) (x29:Bool) (x30:Nat×Int)
 abbrev z57:=(if x28.2.1=0 then z6l x1 x2 x28.2.2.1 x28.2.2.2 else x1)++x28.1
 def zrs:=x2=0/\(∀(i0:AT),i0∈x28.1->z1f (length (x1++x28.1)) i0)/\(∀(i1:AF),i1∈x28.2.2.2->(0<=AF.ty i1/\AF.ty i1<(↑(length (x1++x28.1)):Int))/\GJ.wf (AF.df i1))/\length x28.2.2.2<=30
 def zcw:=(length (x1++x28.1)<=60/\(x28.2.1=0->zrs x1 x2 x28))
 def zcu:=(∀(i0:AT),i0∈x28.1->AT.ok i0 x27)/\slP AF.cells x28.2.2.1 x28.2.2.2 x27/\∀(i1:AF),i1∈x28.2.2.2->AF.ok i1 x27
 def zgi:=∃(i0:List AT),x6=x6/\length i0=length x1/\x2=x2/\z00 AT.cells i0=z00 AT.cells x1/\True/\∃(i1:FdB),length (z57 x1 x3 i1)=length i0/\i1.2.1=faE x2 x6/\z00 AT.cells (z57 x1 x3 i1)=z00 AT.cells i0/\zcw x1 x2 i1/\(∀i2,True/\GJ.ok x4 i2->zcu i2 i1)/\True
 abbrev z0i:=Option.getD (z0e x0.2 x0.1) zJ
 abbrev zgn:=(↑(GJ.y (z0i x0)).2.1:Int)
 def zgj:=GJ.k x4=GJ.k x4/\GJ.n x4=GJ.n x4/\GJ.s x4=GJ.s x4/\(GJ.y x4).1=(GJ.y x4).1/\(GJ.y x4).2.1=(GJ.y x4).2.1/\(GJ.y x4).2.2=(GJ.y x4).2.2/\(GJ.x x4).1=(GJ.x x4).1/\(GJ.x x4).2.1=(GJ.x x4).2.1/\(GJ.x x4).2.2=(GJ.x x4).2.2/\x26
 def z1k:=GJ.k (z0i x0)=GJ.k (z0i x0)/\GJ.n (z0i x0)=GJ.n (z0i x0)/\GJ.s (z0i x0)=GJ.s (z0i x0)/\(GJ.y (z0i x0)).1=(GJ.y (z0i x0)).1/\(GJ.y (z0i x0)).2.1=(GJ.y (z0i x0)).2.1/\(GJ.y (z0i x0)).2.2=(GJ.y (z0i x0)).2.2/\(GJ.x (z0i x0)).1=(GJ.x (z0i x0)).1/\(GJ.x (z0i x0)).2.1=(GJ.x (z0i x0)).2.1/\(GJ.x (z0i x0)).2.2=(GJ.x (z0i x0)).2.2/\x26
 def zgk:=(∀(i0:AT),i0∈x8.2.2.1->AT.ok i0 x27)/\∀(i1:AF),i1∈x8.2.2.2->AF.ok i1 x27
 def z33:=(True/\GJ.ok x4 x27)/\zgk x8 x27
 abbrev z1l:=woR x9.2.2.1 x9.2.2.2.1 x9.2.2.2.2 x9.2.1
 abbrev zcz:=(z1l x9).2=0
 def zcx:=length x8.2.2.2=length x8.2.2.2
 def z46:=(↑x8.1:Int)=(↑x8.1:Int)/\x2=x2/\x3=x3/\zcx x8/\x26
 def zd2:=length x9.1=length x9.1
 def zcy:=z00 AT.cells x9.1=z00 AT.cells x9.1
 def zgl:=zd2 x9/\(z1l x9).2=(z1l x9).2/\zcy x9/\x26
 def z2i:=x2=x2/\x3=x3/\x5=x5/\x13=x13/\x7=x7/\x14=x14/\x15=x15/\x16=x16/\x17=x17/\z00 AF.cells x8.2.2.2=z00 AF.cells x8.2.2.2/\zgj x4 ((z1l x9).1=(z1l x9).1/\x26)
 def z47:=(∀i0,(z33 x4 x8 i0)->z33 x4 x8 i0)
 def zs1:=(z1l x9).1=(z1l x9).1/\size (z1l x9).1<1000000/\∃(i0:Bool),x5=x5/\z46 x2 x3 x8 (i0= !z1v (z1l x9).1/\zgl x9 (z2i x6 x10 x4 x12 x7 x8 x9 x13 x14 x15 x16 x17 (z1k x0 (z47 x4 x8/\True/\True))))
 def zrw:=(x29=true->∃(i0:List AT),(6:Int)=6/\length i0=length x9.1/\(z1l x9).2=(z1l x9).2/\z00 AT.cells i0=z00 AT.cells x9.1/\True/\x5=x5/\z46 x2 x3 x8 (length x9.1=length i0/\faE (z1l x9).2 (6:Int)=faE (z1l x9).2 6/\z00 AT.cells x9.1=z00 AT.cells i0/\z2i x6 x10 x4 x12 x7 x8 x9 x13 x14 x15 x16 x17 (z1k x0 (z47 x4 x8/\(faE (z1l x9).2 (6:Int)=0->zcz x9)/\True))))/\(x29=false->x5=x5/\z46 x2 x3 x8 (zgl x9 (z2i x6 x10 x4 x12 x7 x8 x9 x13 x14 x15 x16 x17 (z1k x0 (z47 x4 x8/\((z1l x9).2=0->zcz x9)/\True)))))
 def zd1:=x20.2=0->x2=0
 def zlx:=x2=x2/\length x1=length x9.1/\x20.2=x20.2/\z00 AT.cells x1=z00 AT.cells x9.1/\True/\x26
 abbrev zcv:=Jb ((↑x20.1:Int)+1)
 def zd3:=(↑x20.1:Int)=(↑x30.1:Int)+1
 def zs0:=zcv x20/\∃(i0:Nat×Int),x5=x5/\(↑x8.1:Int)=(↑x8.1:Int)/\x2=x2/\x3=x3/\zd3 i0 x20/\zcx x8/\zd2 x9/\i0.2=x20.2/\zcy x9/\z2i x6 x10 x4 x12 x7 x8 x9 x13 x14 x15 x16 x17 (z1k x0 (z47 x4 x8/\(zd1 x11 i0)/\(100:Nat)- i0.1<100- x20.1/\True))
 def zrv:=(0<=(↑x20.1:Int)/\(↑x20.1:Int)<(↑(length x8.2.2.2):Int))/\∃i0,(∀(i1:Nat) (i2:Value),[string i0][i1]? =some i2->(z00 AF.cells x8.2.2.2)[nat_lit 0+toNat (↑x20.1:Int)*nat_lit 9+0+i1]? =some i2)/\Ji (i0=(z1l x9).1) (∃(i3:List AT),zlx i3 5 x9 x20 (zcv x20/\∃(i4:Nat×Int),x5=x5/\(↑x8.1:Int)=(↑x8.1:Int)/\x2=x2/\x3=x3/\zd3 i4 x20/\zcx x8/\length x9.1=length i3/\i4.2=faE x20.2 5/\z00 AT.cells x9.1=z00 AT.cells i3/\z2i x6 x10 x4 x12 x7 x8 x9 x13 x14 x15 x16 x17 (z1k x0 (z47 x4 x8/\(zd1 x11 i4)/\(100:Nat)- i4.1<100- x20.1/\True)))) (zs0 x0 x2 x3 x4 x5 x6 x7 x8 x9 x10 x11 x12 x13 x14 x15 x16 x17 x20)
 def zlw:=GJ.k x0.1=x2/\GJ.n x0.1=x3/\GJ.s x0.1=x5/\(GJ.y x0.1).1=x13/\(GJ.y x0.1).2.1=x7/\(GJ.y x0.1).2.2=x14/\(GJ.x x0.1).1=x15/\(GJ.x x0.1).2.1=x16/\(GJ.x x0.1).2.2=x17/\x26
 def zd0:=(z33 x4 x8 x27)/\∀(i0:AT),i0∈x25.1->AT.ok i0 x27
 def z56:=(zd0 x4 x8 x25 x27)/\slP txV (x13,x7,x14) (z1j x22.2.2.1 x22.2.2.2 x22.2.1).1 x27
 def zgm:=x20.2=0->(z1j x22.2.2.1 x22.2.2.2 x22.2.1).2.2=0
 def zlv:=x13=x13/\x7=x7/\x14=x14/\x25.2.2=x25.2.2/\Option.isSome (z0e x0.2 x0.1)=Option.isSome (z0e x0.2 x0.1)/\z1k x0 (z1k x21 ((∀i0,z56 x4 x7 x8 x13 x14 x22 x25 i0->z56 x4 x7 x8 x13 x14 x22 x25 i0)/\(zgm x20 x22)/\(2000:Nat)- x20.1<2000- x30.1/\True))
 def zrz:=zcv x20/\∃(i0:Nat×Int),x5=x5/\zd3 i0 x20/\z46 x2 x3 x8 (length x22.1=length x22.1/\i0.2=x20.2/\z00 AT.cells x22.1=z00 AT.cells x22.1/\z2i x6 x10 x4 x12 x7 x8 x9 x13 x14 x15 x16 x17 (zlv x0 x4 x18 x8 x23 x24 i0 x21 x22 x25 x20))
 def zru:=(0<=(↑x20.1:Int)/\(↑x20.1:Int)<(↑x7:Int))/\x13≠noA/\∃i0,(∀i1,z56 x4 x7 x8 x13 x14 x22 x25 i1->q3i i1 (adr x13 (toNat (↑x20.1:Int)*1)) [string i0])/\i0=i0/\size i0<1000000/\((!z1v i0)=true->∃(i3:List AT),(6:Int)=6/\length i3=length x22.1/\x20.2=x20.2/\z00 AT.cells i3=z00 AT.cells x22.1/\True/\zcv x20/\∃(i4:Nat×Int),x5=x5/\zd3 i4 x20/\z46 x2 x3 x8 (length x22.1=length i3/\i4.2=faE x20.2 6/\z00 AT.cells x22.1=z00 AT.cells i3/\z2i x6 x10 x4 x12 x16 x8 x9 x15 x17 x23 x18 x24 (zlv x0 x4 x7 x8 x13 x14 i4 x21 x22 x25 x20)))/\((!z1v i0)=false->zrz x0 x2 x3 x4 x5 x6 x16 x8 x9 x10 x12 x15 x17 x23 x18 x24 x7 x20 x21 x22 x13 x14 x25)
 def zlu:=length (z00 AF.cells x8.2.2.2)=length x8.2.2.2*9/\(length x8.2.2.2+nat_lit 1)*136<=140737488355328/\Jb ((↑x8.1:Int)+1)/\∃(i0:FlS),x5=x5/\(↑i0.1:Int)=(↑x8.1:Int)+1/\x2=x2/\x3=x3/\length i0.2.2.2=length x8.2.2.2+nat_lit 1/\length (x1++i0.2.2.1)=length x22.1/\i0.2.1=x20.2/\z00 AT.cells (x1++i0.2.2.1)=z00 AT.cells x22.1/\z00 AF.cells i0.2.2.2=z00 AF.cells x8.2.2.2++[string (z1l x9).1,slice x13 x7 x14,int i64 x25.2.2,bool (Option.isSome (z0e x0.2 x0.1)),int i64 (GJ.k (z0i x0)),int i64 (GJ.n (z0i x0)),string (GJ.s (z0i x0)),slice (GJ.y (z0i x0)).1 (GJ.y (z0i x0)).2.1 (GJ.y (z0i x0)).2.2,slice (GJ.x (z0i x0)).1 (GJ.x (z0i x0)).2.1 (GJ.x (z0i x0)).2.2]/\zgj x4 (z1k x21 ((∀i1,z56 x4 x7 x8 x13 x14 x22 x25 i1->True/\GJ.ok x4 i1)/\(∀i5,z56 x4 x7 x8 x13 x14 x22 x25 i5->zgk i0 i5)/\ze4 x1 x6 x4 i0/\length (GJ.l (fdJ x4))- i0.1<length (GJ.l (fdJ x4))- x8.1/\True))
 def zrt:=Ji (x20.2=0) (zru x0 x2 x3 x4 x5 x6 x7 x8 x9 x10 x12 x13 x14 x15 x16 x17 x18 x20 x21 x22 x23 x24 x25) (zlu x0 x1 x2 x3 x4 x5 x11 x7 x8 x9 x13 x14 x20 x21 x22 x25)
 def zrr:=Ji ((↑x20.1:Int)<(↑x7:Int)) (zrt x0 x1 x2 x3 x4 x5 x6 x7 x8 x9 x10 x11 x12 x13 x14 x15 x16 x17 x18 x20 x21 x22 x23 x24 x25) (zlu x0 x1 x2 x3 x4 x5 x11 x7 x8 x9 x13 x14 x20 x21 x22 x25)
 def j14:=(∃(i0:Nat×Int),x5=x5/\(↑i0.1:Int)=0/\z46 x2 x3 x8 (length x22.1=length x22.1/\i0.2=(z1j x22.2.2.1 x22.2.2.2 x22.2.1).2.2/\z00 AT.cells x22.1=z00 AT.cells x22.1/\z2i x6 x10 x4 x12 x7 x8 x9 x13 x14 x15 x16 x17 (x23=x23/\x18=x18/\x24=x24/\x25.2.2=x25.2.2/\Option.isSome (z0e x0.2 x0.1)=Option.isSome (z0e x0.2 x0.1)/\z1k x0 (z1k x21 ((∀i1,z56 x4 x18 x8 x23 x24 x22 x25 i1->z56 x4 x18 x8 x23 x24 x22 x25 i1)/\(zgm i0 x22)/\True)))))/\∀(i8:Nat×Int),(zgm i8 x22)->zrr x0 x1 x2 x3 x4 x5 x6 x18 x8 x9 x10 x11 x12 x23 x24 x13 x7 x14 x16 i8 x21 x22 x15 x17 x25
 def j13:=Jb (x2+1)/\∃(i0:TmS),GJ.k i0.2.2.1=GJ.k (z0i x0)/\GJ.n i0.2.2.1=GJ.n (z0i x0)/\GJ.s i0.2.2.1=GJ.s (z0i x0)/\(GJ.y i0.2.2.1).1=(GJ.y (z0i x0)).1/\(GJ.y i0.2.2.1).2.1=(GJ.y (z0i x0)).2.1/\(GJ.y i0.2.2.1).2.2=(GJ.y (z0i x0)).2.2/\(GJ.x i0.2.2.1).1=(GJ.x (z0i x0)).1/\(GJ.x i0.2.2.1).2.1=(GJ.x (z0i x0)).2.1/\(GJ.x i0.2.2.1).2.2=(GJ.x (z0i x0)).2.2/\i0.2.2.2.1=x5/\i0.2.2.2.2=x2+1/\length i0.1=length x9.1/\i0.2.1=x3/\z00 AT.cells i0.1=z00 AT.cells x9.1/\(z4i i0<x7/\z2f i0)/\(∀i1,(z33 x4 x8 i1)->GJ.ok i0.2.2.1 i1)/\∀(i4:TmB),z0g i0 i4->(∃i5,zd0 x4 x8 i4 i5)->∃(i9:GJ×ByteArray),zlw i9 x6 x10 x12 x14 x13 x16 x15 x17 x18 (i9.2=mkS [100,101,102,97,117,108,116]/\GJ.wf i9.1/\(∀i10,(zd0 x4 x8 i4 i10)->GJ.ok i9.1 i10)/\∃(i14:List AT×Int×GJ×ByteArray),GJ.k i14.2.2.1=x6/\GJ.n i14.2.2.1=x10/\GJ.s i14.2.2.1=x12/\(GJ.y i14.2.2.1).1=x13/\(GJ.y i14.2.2.1).2.1=x14/\(GJ.y i14.2.2.1).2.2=x16/\(GJ.x i14.2.2.1).1=x15/\(GJ.x i14.2.2.1).2.1=x17/\(GJ.x i14.2.2.1).2.2=x18/\i14.2.2.2=mkS [97,108,105,97,115,101,115]/\length i14.1=length (i0.1++i4.1)/\i14.2.1=i4.2.1/\z00 AT.cells i14.1=z00 AT.cells (i0.1++i4.1)/\GJ.wf i14.2.2.1/\(∀i15,(zd0 x4 x8 i4 i15)->GJ.ok i14.2.2.1 i15)/\∀(i19:Unit),True->∀(i20:Option Addr) (i21 i22:Nat),(∃i23,z56 x4 i21 x8 i20 i22 i14 i4 i23)->j14 i9 x1 x11 x2 x4 x5 x6 x14 x8 x9 x10 x19 x12 x13 x16 x15 x17 x18 i21 x21 i14 i20 i22 i4)
 def j12:=Ji ((↑x20.1:Int)<(↑(length x8.2.2.2):Int)) (zrv x0 x2 x3 x4 x5 x6 x7 x8 x9 x10 x11 x12 x13 x14 x15 x16 x17 x20) (∃(i16:GJ×ByteArray),zlw i16 x6 x10 x12 x7 x13 x14 x15 x16 x17 (i16.2=mkS [116,121,112,101]/\GJ.wf i16.1/\(∀i17,(z33 x4 x8 i17)->GJ.ok i16.1 i17)/\(((!Option.isSome (z0e i16.2 i16.1))=true->∃(i20:List AT),zlx i20 2 x9 x20 (x5=x5/\z46 x2 x3 x8 (length x9.1=length i20/\faE x20.2 (2:Int)=faE x20.2 2/\z00 AT.cells x9.1=z00 AT.cells i20/\z2i x6 x10 x4 x12 x7 x8 x9 x13 x14 x15 x16 x17 (z1k x0 (z1k i16 (z47 x4 x8/\(faE x20.2 (2:Int)=0->x20.2=0)/\True))))))/\((!Option.isSome (z0e i16.2 i16.1))=false->x5=x5/\z46 x2 x3 x8 (zd2 x9/\x20.2=x20.2/\zcy x9/\z2i x6 x10 x4 x12 x7 x8 x9 x13 x14 x15 x16 x17 (z1k x0 (z1k i16 (z47 x4 x8/\(x20.2=0->x20.2=0)/\True))))))/\∀(i31:Int),(i31=0->x20.2=0)->j13 i16 x1 x3 i31 x4 x5 x6 x18 x8 x9 x10 x2 x12 x13 x7 x15 x14 x16 x17 x19 x0))
 def j11:=(∃(i0:Nat×Int),x5=x5/\(↑x8.1:Int)=(↑x8.1:Int)/\x2=x2/\x3=x3/\(↑i0.1:Int)=0/\zcx x8/\zd2 x9/\i0.2=x6/\zcy x9/\z2i x10 x11 x4 x12 x7 x8 x9 x13 x14 x15 x16 x17 (z1k x0 (z47 x4 x8/\(zd1 x6 i0)/\True)))/\∀(i6:Nat×Int),(zd1 x6 i6)->j12 x0 x1 x2 x3 x4 x5 x10 x7 x8 x9 x11 x6 x12 x13 x14 x15 x16 x17 x18 x19 i6
 def j10:=(0<=(↑x8.1:Int)/\(↑x8.1:Int)<(zgn x0))/\(GJ.y (z0i x0)).1≠noA/\∃(i0:Int),∃(i1:Int),∃i2,∃i3,∃(i4:Nat),∃(i5:Nat),∃i6,∃(i7:Nat),∃(i8:Nat),(∀i9,(z33 x4 x8 i9)->q3i i9 (adr (GJ.y (z0i x0)).1 (toNat (↑x8.1:Int)*5)) [int i64 i0,int i64 i1,string i2,slice i3 i4 i5,slice i6 i7 i8])/\((!decide (i0=6))=true->∃(i12:List AT),(2:Int)=2/\length i12=length (x1++x8.2.2.1)/\x8.2.1=x8.2.1/\z00 AT.cells i12=z00 AT.cells (x1++x8.2.2.1)/\True/\∃(i13:FdB),length (z57 x1 x2 i13)=length i12/\i13.2.1=faE x8.2.1 2/\z00 AT.cells (z57 x1 x2 i13)=z00 AT.cells i12/\zcw x1 x3 i13/\(∀i16,(z33 x4 x8 i16)->zcu i16 i13)/\True)/\((!decide (i0=6))=false->∃(i21:List AT×Int×GJ×ByteArray×Bool),GJ.k i21.2.2.1=i0/\GJ.n i21.2.2.1=i1/\GJ.s i21.2.2.1=i2/\(GJ.y i21.2.2.1).1=i3/\(GJ.y i21.2.2.1).2.1=i4/\(GJ.y i21.2.2.1).2.2=i5/\(GJ.x i21.2.2.1).1=i6/\(GJ.x i21.2.2.1).2.1=i7/\(GJ.x i21.2.2.1).2.2=i8/\i21.2.2.2.1=mkS [110,97,109,101]/\i21.2.2.2.2=true/\length i21.1=length (x1++x8.2.2.1)/\i21.2.1=x8.2.1/\z00 AT.cells i21.1=z00 AT.cells (x1++x8.2.2.1)/\GJ.wf i21.2.2.1/\(∀i22,(z33 x4 x8 i22)->GJ.ok i21.2.2.1 i22)/\((Ji (zcz i21) (zs1 x0 x2 x6 x4 x5 i0 i4 x8 i21 i1 i2 i3 i5 i6 i7 i8) (∃(i31:Bool),x5=x5/\z46 x2 x6 x8 (i31=false/\zgl i21 (z2i i0 i1 x4 i2 i4 x8 i21 i3 i5 i6 i7 i8 (z1k x0 (z47 x4 x8/\True/\True))))))/\∀(i37:Bool),True->zrw x0 x2 x6 x4 x5 i0 i4 x8 i21 i1 i2 i3 i5 i6 i7 i8 i37)/\∀(i49:Int),(i49=0->zcz i21)->j11 x0 x1 x2 x6 x4 x5 i49 i4 x8 i21 i0 i1 i2 i3 i5 i6 i7 i8 x7 x3)
 def zly:=(z33 x4 x8 x27)/\length x8.2.2.2<=x7/\qhu x27 x13 (take (length x8.2.2.2*nat_lit 9) (z00 AF.cells x8.2.2.2))
 def zry:=nat_lit 0+toNat x2*nat_lit 10+8+length [slice x13 (length x8.2.2.2) x7]<=length (z00 AT.cells (x1++x8.2.2.1))/\∃(i0:FdB),length (z57 x1 x2 i0)=length (x1++x8.2.2.1)/\i0.2.1=x8.2.1/\z00 AT.cells (z57 x1 x2 i0)=spl (z00 AT.cells (x1++x8.2.2.1)) (nat_lit 0+toNat x2*nat_lit 10+8) [slice x13 (length x8.2.2.2) x7]/\zcw x1 x3 i0/\(∀i1,zly x4 x7 x8 x13 i1->zcu i1 i0)/\True
 def zrx:=(0<=x2/\x2<(↑(length (x1++x8.2.2.1)):Int))/\∀(i0 i1 i2:Nat) (i3:Option Addr) (i4 i5:Nat),(∃i6,zly x4 i5 x8 i3 i6)->zry x1 x2 x3 x4 i5 x8 i3
 def zlt:=Ji (x8.2.1=0) (zrx x1 x2 x3 x4 x8) (∃(i17:FdB),length (z57 x1 x2 i17)=length (x1++x8.2.2.1)/\i17.2.1=x8.2.1/\z00 AT.cells (z57 x1 x2 i17)=z00 AT.cells (x1++x8.2.2.1)/\zcw x1 x3 i17/\(∀i20,(z33 x4 x8 i20)->zcu i20 i17)/\True)
 def j0z:=Ji (x8.2.1=0) (j10 x0 x1 x2 x3 x4 x5 x6 x7 x8) (zlt x1 x2 x3 x4 x8)
 def j0y:=Ji ((↑x8.1:Int)<(zgn x0)) (j0z x0 x1 x2 x3 x4 x5 x6 x7 x8) (zlt x1 x2 x3 x4 x8)
 def j0x:=(∃(i0:FlS),x5=x5/\(↑i0.1:Int)=0/\x2=x2/\x3=x3/\length i0.2.2.2=0/\length (x1++i0.2.2.1)=length x1/\i0.2.1=x6/\z00 AT.cells (x1++i0.2.2.1)=z00 AT.cells x1/\zgj x4 (z1k x0 ((∀i1,True/\GJ.ok x4 i1->True/\GJ.ok x4 i1)/\(∀i2,True/\GJ.ok x4 i2->zgk i0 i2)/\ze4 x1 x6 x4 i0/\True)))/\∀(i5:FlS),ze4 x1 x6 x4 i5->(∃i6,z33 x4 i5 i6)->j0y x0 x1 x2 x6 x4 x5 x3 x7 i5
 def j0w:=Ji (30<(zgn x0)) (zgi x1 x2 x3 x4 3) (j0x x0 x1 x3 x6 x4 x5 x2 x7)
 def j0v:=((!decide (GJ.k (z0i x0)=5))=true->zgi x1 x2 x3 x4 2)/\((!decide (GJ.k (z0i x0)=5))=false->j0w x0 x1 x2 x3 x4 x5 x6 x7)
end
def z6j(n:Nat) (S:List AT) (e:Int) (g:GJ) (i:Int) (sp:ByteArray) (d:Int):qlb P (qgc [(47,z3y),(71,z5p),(94,z8m),(74,z4f),(44,z1h)]) (qhg [(28,z1i.below z4i n)]) Try.f75 (z3c.below zot (n+1)) (z8f) ⟨S,e,g,i,sp,d⟩=(zot (S,e,g,i,sp,d)<n+1/\length S<=60/\GJ.wf g/\0<=i/\(e=0->i<(↑(length S):Int))/\1<=d/\d<=20/\(↑(size sp):Int)<=1100*(d+1)->(∃(p:Pub),True/\GJ.ok g p)->∃(s:GJ×ByteArray),GJ.k s.1=GJ.k g/\GJ.n s.1=GJ.n g/\GJ.s s.1=GJ.s g/\(GJ.y s.1).1=(GJ.y g).1/\(GJ.y s.1).2.1=(GJ.y g).2.1/\(GJ.y s.1).2.2=(GJ.y g).2.2/\(GJ.x s.1).1=(GJ.x g).1/\(GJ.x s.1).2.1=(GJ.x g).2.1/\(GJ.x s.1).2.2=(GJ.x g).2.2/\s.2=mkS [102,105,101,108,100,115]/\GJ.wf s.1/\(∀(p:Pub),True/\GJ.ok g p->GJ.ok s.1 p)/\((!Option.isSome (z0e s.2 s.1))=true->zgi S e i g 2)/\((!Option.isSome (z0e s.2 s.1))=false->j0v s S e i g sp d n)):=by kernel_rfl
def z8t:=λn S e g i sp d=>Eq.trans (z6j n S e g i sp d) (by delta Ji Jb Jt Jf z57 zrs zcw zcu zgi z0i zgn zgj z1k zgk z33 z1l zcz zcx z46 zd2 zcy zgl z2i z47 zs1 zrw zd1 zlx zcv zd3 zs0 zrv zlw zd0 z56 zgm zlv zrz zru zlu zrt zrr j14 j13 j12 j11 j10 zly zry zrx zlt j0z j0y j0x j0w j0v;exact rfl)
def zea(S:List AT) (k:Nat) (hk:k<S.length) (x:SV) (l:List AF) (B:List AT):z00 AT.cells (S.set k {S[k]with f:=x,fs:=l}++B)=spl (z00 AT.cells (S++B)) (0+k*10+8) [svV x]:=by
 rw[z05,z05,z4x S k hk]
 conv=>rhs;rw[z5x S k hk]
 rw[Nat.zero_add,←z5y S k hk]
 generalize z00 AT.cells (S.take k)=A
 generalize z00 AT.cells (S.drop (k+1))=C
 generalize z00 AT.cells B=D
 show _=((A++((S[k]).cells++C))++D).set (A.length+8) (svV x)
 rw[List.append_assoc A (S[k].cells++C) D,z2e,List.append_assoc A]
 rfl
def zp1{l:List AF} {i:Nat} (h:i<l.length):∀(j:Nat) (v:Value),[Value.string l[i].nm][j]? =some v->(z00 AF.cells l)[0+i*9+0+j]? =some v:=λj v hj=>by
 cases j with
 |zero=>have:=z23 z3f l i h 0 (by decide);rw[Nat.add_zero]at this;rw[Nat.zero_add,Nat.add_zero,this];exact hj
 |succ j=>simp at hj
def zii{g:GJ} (hg:g.wf) (s:ByteArray) (b:Bool) (e:Int):(woR g s b e).1.size<1000:=by
  have h:=(z0x s hg).1
  unfold woR
  cases hk:z0e s g with
  | none=>
    simp only
    split<;>exact Nat.zero_lt_succ _
  | some t=>
    rw[hk]at h
    simp only
    split
    · have h:t.wf:=h
      rw[GJ.wf_eq]at h;exact h.1
    · exact Nat.zero_lt_succ _
def z8u(n:Nat) (ht:q1v P 28 (z1i.below z4i n)):q1v P 75 (z3c.below zot (n+1)):=by
 refine qkh mixed (qdw (qhr z21 (qhr z52 (qhr z6p (qhr z4z (qhr z0w qkx)))))) (qen (qhq ht qkw)) (W:=z8f) Try.func75 (by kernel_rfl) (show 1<=4 by decide) (show 4<=6 by decide) (λs=>by kernel_rfl) λ⟨S,(e:Int),g,(i:Int),sp,(d:Int)⟩=>(z8t n S e g i sp d).mpr ?_
 rintro⟨hmu,hS,hg,hi0,hi1,hd1,hd2,hsp⟩ ⟨p,_,hp⟩
 have hmu:(25- d).toNat<n+1:=hmu
 simp only[sbS,exists_const,forall_const,Int.toNat_natCast]
 have bad:∀(T:List AT) (e1 k:Int),k≠0->(S++T).length<=60->(∀q,g.ok q->∀a∈T,a.ok q)->True:=λ_ _ _ _ _ _=>trivial
 have z:∀(T:List AT) (k:Int) (x:SV) (fs:List AF),k≠0->((if k=0 then z6l S i x fs else S)++T)=S++T:=λT k x fs hk=>by rw[if_neg hk]
 obtain⟨lw,lok⟩:=z0x (mkS [102,105,101,108,100,115]) hg
 refine⟨⟨g,mkS [102,105,101,108,100,115]⟩,rfl,rfl,rfl,rfl,rfl,rfl,rfl,rfl,rfl,rfl,hg,λq hq=>hq,λhno=>⟨S,rfl,rfl,⟨[],faE e 2,(none,0,0),[]⟩,by show(_++[]).length=_;rw[z _ _ _ _ (z0j (by decide)),List.append_nil],rfl,by show z00 AT.cells (_++[])=_;rw[z _ _ _ _ (z0j (by decide)),List.append_nil],⟨by show(S++[]).length<=60;rw[List.append_nil];exact hS,λh=>absurd h (z0j (by decide))⟩,λq hq=>⟨λa ha=>(by cases ha),z04,λf hf=>(by cases hf)⟩⟩,λhyes=>⟨λhk=>⟨S,rfl,rfl,⟨[],faE e 2,(none,0,0),[]⟩,by show(_++[]).length=_;rw[z _ _ _ _ (z0j (by decide)),List.append_nil],rfl,by show z00 AT.cells (_++[])=_;rw[z _ _ _ _ (z0j (by decide)),List.append_nil],⟨by show(S++[]).length<=60;rw[List.append_nil];exact hS,λh=>absurd h (z0j (by decide))⟩,λq hq=>⟨λa ha=>(by cases ha),z04,λf hf=>(by cases hf)⟩⟩,λhk=>⟨λh30=>⟨S,rfl,rfl,⟨[],faE e 3,(none,0,0),[]⟩,by show(_++[]).length=_;rw[z _ _ _ _ (z0j (by decide)),List.append_nil],rfl,by show z00 AT.cells (_++[])=_;rw[z _ _ _ _ (z0j (by decide)),List.append_nil],⟨by show(S++[]).length<=60;rw[List.append_nil];exact hS,λh=>absurd h (z0j (by decide))⟩,λq hq=>⟨λa ha=>(by cases ha),z04,λf hf=>(by cases hf)⟩⟩,λh30=> ?_⟩⟩⟩
 have hfd:fdJ g=(z0e (mkS [102,105,101,108,100,115]) g).getD zJ:=rfl
 simp only at*
 generalize (z0e (mkS [102,105,101,108,100,115]) g).getD zJ=t at*
 have hy:=λq (hq:g.ok q)=>(show slP GJ.cells t.y t.l q by have:=lok q hq;rw[GJ.ok_eq]at this;exact this.1)
 have tl:t.y.2.1=t.l.length:=(hy p hp).1
 have lww:=lw
 rw[GJ.wf_eq]at lww
 refine⟨⟨⟨0,e,[],[]⟩,rfl,rfl,by show(S++[]).length=_;rw[List.append_nil],rfl,by show z00 AT.cells (S++[])=_;rw[List.append_nil],λq hq=>⟨λa ha=>(by cases ha),λf hf=>(by cases hf)⟩,⟨Nat.zero_le _,Nat.zero_le _,by show(S++[]).length<=60;rw[List.append_nil];exact hS,λh=>⟨h,λa ha=>(by cases ha),λf hf=>(by cases hf)⟩⟩⟩,?_⟩
 rintro⟨j,e1,T,fs⟩ ⟨hj,hfl,hST,hinv⟩ ⟨p1,hp1,hT1,hf1⟩
 simp only[hfd]at hj⊢
 have fin0:e1≠0->∃b:FdB,((if b.snd.fst=0 then z6l S i b.snd.snd.fst b.snd.snd.snd else S)++b.fst).length=(S++T).length/\b.snd.fst=e1/\z00 AT.cells ((if b.snd.fst=0 then z6l S i b.snd.snd.fst b.snd.snd.snd else S)++b.fst)=z00 AT.cells (S++T)/\((S++b.fst).length<=60/\(b.snd.fst=0->e=0/\(∀(a:AT),a∈b.fst->z1f (S++b.fst).length a)/\(∀(f:AF),f∈b.snd.snd.snd->(0<=f.ty/\f.ty<↑(S++b.fst).length)/\f.df.wf)/\b.snd.snd.snd.length<=30))/\∀(p:Nat->Option Obj),(g.ok p/\(∀(a:AT),a∈T->a.ok p)/\∀(f:AF),f∈fs->f.ok p)->(∀(a:AT),a∈b.fst->a.ok p)/\slP AF.cells b.snd.snd.fst b.snd.snd.snd p/\∀(f:AF),f∈b.snd.snd.snd->f.ok p:=λhe=>⟨⟨T,e1,(none,0,0),[]⟩,by show(_++T).length=_;rw[z _ _ _ _ he],rfl,by show z00 AT.cells (_++T)=_;rw[z _ _ _ _ he],⟨hST,λh=>absurd h he⟩,λq hq=>⟨hq.2.1,z04,λf hf=>(by cases hf)⟩⟩
 have fin1:e1=0->(0<=i/\i<((S++T).length:Int))/\∀(a:Option Addr) (c:Nat),(∃p,(g.ok p/\(∀(a:AT),a∈T->a.ok p)/\∀(f:AF),f∈fs->f.ok p)/\fs.length<=c/\qhu p a (List.take (fs.length*9) (z00 AF.cells fs)))->0+i.toNat*10+8+[Value.slice a fs.length c].length<=(z00 AT.cells (S++T)).length/\∃b:FdB,((if b.snd.fst=0 then z6l S i b.snd.snd.fst b.snd.snd.snd else S)++b.fst).length=(S++T).length/\b.snd.fst=e1/\z00 AT.cells ((if b.snd.fst=0 then z6l S i b.snd.snd.fst b.snd.snd.snd else S)++b.fst)=spl (z00 AT.cells (S++T)) (0+i.toNat*10+8) [Value.slice a fs.length c]/\((S++b.fst).length<=60/\(b.snd.fst=0->e=0/\(∀(a:AT),a∈b.fst->z1f (S++b.fst).length a)/\(∀(f:AF),f∈b.snd.snd.snd->(0<=f.ty/\f.ty<↑(S++b.fst).length)/\f.df.wf)/\b.snd.snd.snd.length<=30))/\∀(p:Nat->Option Obj),(g.ok p/\(∀(a:AT),a∈T->a.ok p)/\∀(f:AF),f∈fs->f.ok p)/\fs.length<=c/\qhu p a (List.take (fs.length*9) (z00 AF.cells fs))->(∀(a:AT),a∈b.fst->a.ok p)/\slP AF.cells b.snd.snd.fst b.snd.snd.snd p/\∀(f:AF),f∈b.snd.snd.snd->f.ok p:=λhe=>by
  obtain⟨i0,iT,iF⟩:=hinv he
  have hi:=hi1 i0
  obtain⟨m,rfl⟩:=Int.eq_ofNat_of_zero_le hi0
  have hm:m<S.length:=by omega
  have es:∀x,z6l S (m:Int) x fs=S.set m {S[m]with f:=x,fs:=fs}:=λx=>by
   unfold z6l;rw[Int.toNat_natCast,List.getElem?_eq_getElem hm]
  have hl:(S++T).length=S.length+T.length:=List.length_append
  refine⟨⟨hi0,by omega⟩,λa c _=>⟨by rw[z01 z0y,hl,Int.toNat_natCast];show 0+m*10+8+1<=_;omega,⟨T,e1,(a,fs.length,c),fs⟩,?_,rfl,?_,⟨hST,λ_=>⟨i0,iT,iF,by show fs.length<=30;omega⟩⟩,λq hq=>⟨hq.1.2.1,?_,hq.1.2.2⟩⟩⟩
  ·show((if e1=0 then z6l S (m:Int) (a,fs.length,c) fs else S)++T).length=_
   rw[if_pos he,es,List.length_append,List.length_set,hl]
  ·show z00 AT.cells ((if e1=0 then z6l S (m:Int) (a,fs.length,c) fs else S)++T)=_
   rw[if_pos he,es]
   exact zea S m hm _ _ T
  ·refine⟨rfl,hq.2.1,?_⟩
   have:=hq.2.2
   rw[List.take_of_length_le (by rw[z01 z3f];exact Nat.le_refl _)]at this
   exact this
 refine⟨λhlt=>⟨λhe0=> ?_,λhe0=>⟨λh=>fin1 h,λh=>fin0 h⟩⟩,λhge=>⟨λh=>fin1 h,λh=>fin0 h⟩⟩
 have hjl:j<t.l.length:=by omega
 have hat:=λq (hq:g.ok q)=>z0b z2o (by decide) (hy q hq) hjl
 have cw:t.l[j].wf:=GJ.wfs_at lww.2.2.2.2.2.2 hjl
 have cok:∀q,g.ok q->t.l[j].ok q:=λq hq=>by have:=lok q hq;rw[GJ.ok_eq]at this;exact GJ.oks_at this.2.2 hjl
 refine⟨⟨by omega,by omega⟩,(hat p1 hp1).1,t.l[j].k,t.l[j].n,t.l[j].s,t.l[j].y.1,t.l[j].y.2.1,t.l[j].y.2.2,t.l[j].x.1,t.l[j].x.2.1,t.l[j].x.2.2,λq hq=>(hat q hq.1).2,λh6=>⟨S++T,rfl,rfl,⟨T,faE e1 2,(none,0,0),[]⟩,by show(_++T).length=_;rw[z _ _ _ _ (z0j (by decide))],rfl,by show z00 AT.cells (_++T)=_;rw[z _ _ _ _ (z0j (by decide))],⟨hST,λh=>absurd h (z0j (by decide))⟩,λq hq=>⟨hq.2.1,z04,λf hf=>(by cases hf)⟩⟩,λh6=> ?_⟩
 obtain⟨e00,hTg,hfg⟩:=hinv he0
 clear fin0 fin1 z bad
 refine⟨⟨S++T,e1,t.l[j],mkS [110,97,109,101],true⟩,rfl,rfl,rfl,rfl,rfl,rfl,rfl,rfl,rfl,rfl,rfl,rfl,rfl,rfl,cw,λq hq=>cok q hq.1,?_⟩
 simp only
 have hnm:=zii cw (mkS [110,97,109,101]) true e1
 have hwe:(woR t.l[j] (mkS [110,97,109,101]) true e1).2=0->e1=0:=zkj
 generalize woR t.l[j] (mkS [110,97,109,101]) true e1=W at*
 refine⟨⟨⟨λ_=>⟨by omega,_,rfl⟩,λ_=>⟨false,rfl⟩⟩,λ_ _=>⟨S++T,rfl,rfl,rfl,rfl,λh=>(z2a (by decide) h).elim⟩⟩,?_⟩
 intro e4 h4
 refine⟨⟨⟨0,e4⟩,rfl,rfl,λh=>h⟩,?_⟩
 rintro⟨k,e5⟩ h5
 simp only at h5⊢
 have hST':=hST
 refine⟨λhkl=>⟨⟨by omega,by omega⟩,fs[k]'(by omega)|>.nm,zp1 (by omega),λ_=>⟨S++T,rfl,rfl,⟨by omega,by omega⟩,⟨k+1,faE e5 5⟩,by show((k+1:Nat):Int)=_;omega,rfl,rfl,rfl,λh=>(z2a (by decide) h).elim,by show 100- (k+1)<100- k;omega⟩,λ_=>⟨⟨by omega,by omega⟩,⟨k+1,e5⟩,by show((k+1:Nat):Int)=_;omega,rfl,h5,by show 100- (k+1)<100- k;omega⟩⟩,λhkl=> ?_⟩
 obtain⟨tw,tok⟩:=z0x (mkS [116,121,112,101]) cw
 refine⟨⟨t.l[j],mkS [116,121,112,101]⟩,rfl,rfl,rfl,rfl,rfl,rfl,rfl,rfl,rfl,rfl,cw,λq hq=>cok q hq.1,?_⟩
 simp only
 generalize (z0e (mkS [116,121,112,101]) t.l[j]).getD zJ=ty at*
 refine⟨λ_=>⟨S++T,rfl,rfl,rfl,rfl,λh=>(z2a (by decide) h).elim⟩,?_⟩
 intro e7 h7
 refine⟨⟨by omega,by omega⟩,⟨S++T,e7,ty,sp,d+1⟩,rfl,rfl,rfl,rfl,rfl,rfl,rfl,rfl,rfl,rfl,rfl,rfl,rfl,rfl,⟨by show(25- (d+1)).toNat<n;omega,hST,tw,by omega,by omega,hsp⟩,λq hq=>tok q (cok q hq.1),?_⟩
 rintro⟨U,e8,r⟩ ⟨⟨hU,hU2⟩,hr⟩ ⟨p2,hp2,hU3⟩
 simp only at hU hU2 hr hU3⊢
 obtain⟨dw,dok⟩:=z0x (mkS [100,101,102,97,117,108,116]) cw
 refine⟨⟨t.l[j],mkS [100,101,102,97,117,108,116]⟩,rfl,rfl,rfl,rfl,rfl,rfl,rfl,rfl,rfl,rfl,cw,λq hq=>cok q hq.1.1,⟨S++T++U,e8,t.l[j],mkS [97,108,105,97,115,101,115]⟩,rfl,rfl,rfl,rfl,rfl,rfl,rfl,rfl,rfl,rfl,rfl,rfl,rfl,cw,λq hq=>cok q hq.1.1,?_⟩
 have hsz:∀x∈(z1j t.l[j] (mkS [97,108,105,97,115,101,115]) e8).1,x.size<1000:=z51 cw
 have hLl:(z1j t.l[j] (mkS [97,108,105,97,115,101,115]) e8).1.length<1000:=z50 cw
 have hE:(z1j t.l[j] (mkS [97,108,105,97,115,101,115]) e8).2.2=0->e8=0:=zc0
 simp only
 generalize z1j t.l[j] (mkS [97,108,105,97,115,101,115]) e8=F at*
 generalize hdj:(z0e (mkS [100,101,102,97,117,108,116]) t.l[j]).getD zJ=df at*
 rintro a m c ⟨p3,hp3,hl3⟩
 have hm:m=F.1.length:=hl3.1
 subst hm
 have hat2:=λ(k:Nat) (hk:k<F.1.length) (q:Pub) (hq:slP txV (a,F.1.length,c) F.1 q)=>(show a≠noA/\q3i q (adr a (k*1)) [.string F.1[k]]from z0b z0s (by decide) hq hk)
 refine⟨⟨⟨0,F.2.2⟩,rfl,rfl,λh=>h⟩,?_⟩
 rintro⟨x,e9⟩ h9
 simp only at h9⊢
 have hlen:(S++(T++U)).length=(S++T).length+U.length:=by rw[←List.append_assoc];exact List.length_append
 refine⟨λhx=>⟨λh0=>⟨⟨by omega,by omega⟩,(hat2 x (by omega) p3 hl3).1,F.1[x]'(by omega),λq hq=>(hat2 x (by omega) q hq.2).2,by have:=hsz _ (List.getElem_mem (show x<F.1.length by omega));omega,λ_=>⟨S++T++U,rfl,rfl,⟨by omega,by omega⟩,⟨x+1,faE e9 6⟩,by show((x+1:Nat):Int)=_;omega,rfl,rfl,rfl,λh=>(z2a (by decide) h).elim,by show 2000- (x+1)<2000- x;omega⟩,λ_=>⟨⟨by omega,by omega⟩,⟨x+1,e9⟩,by show((x+1:Nat):Int)=_;omega,rfl,h9,by show 2000- (x+1)<2000- x;omega⟩⟩,λh0=> ?xa⟩,λhx=> ?xb⟩
 case xa|xb=>
  refine⟨z01 z3f fs,by omega,⟨by omega,by omega⟩,⟨j+1,e9,T++U,fs++[⟨W.1,(a,F.1.length,c),F.1,r,(z0e (mkS [100,101,102,97,117,108,116]) t.l[j]).isSome,df⟩]⟩,by show((j+1:Nat):Int)=_;omega,by simp,by rw[List.append_assoc],rfl,by rw[List.append_assoc],by rw[z05];rfl,λq hq=>hq.1.1.1,λq hq=>⟨λy hy=>(List.mem_append.1 hy).elim (hq.1.1.2.1 y) (hq.1.2 y),λf hf=>(List.mem_append.1 hf).elim (hq.1.1.2.2 f) λh=> ?_⟩,⟨by show j+1<=(fdJ g).l.length;rw[hfd];omega,by show(fs++[_]).length<=j+1;simp;omega,by show(S++(T++U)).length<=60;rw[←List.append_assoc];exact hU,λh=>⟨e00,λy hy=> ?_,λf hf=> ?_⟩⟩,by show _- (j+1)<_;omega⟩
  ·simp at h;subst h;exact⟨hq.2,dok q (cok q hq.1.1.1)⟩
  ·show z1f (S++(T++U)).length y
   obtain⟨u1,u2⟩:=hU2 (hE (h9 h))
   rcases List.mem_append.1 hy with hy|hy
   ·exact z4h (by omega) (hTg y hy)
   ·have:=u2 y hy;rw[List.append_assoc]at this;exact this
  ·show(0<=f.ty/\f.ty<((S++(T++U)).length:Int))/\f.df.wf
   obtain⟨r0,r1⟩:=hr (hE (h9 h))
   rw[List.append_assoc]at r1
   rcases List.mem_append.1 hf with hf|hf
   ·have:=hfg f hf;exact⟨by omega,this.2⟩
   ·simp at hf;subst hf;exact⟨⟨r0,r1⟩,dw⟩
def nmT(k:Int) (W:ByteArray) (r n:Nat) (num:Nat):AO:= .cells 54 (some 0) false [.sv (.int .i64 k), .sv (.string W), .ssl r 0 n 1 num, .int .i64 0, .nsl, .bool false, .str [], .int .i64 0, .nsl, .nsl]
abbrev NlS:=Nat×Int×List ByteArray
def zcc:NmS->WayF:=λ⟨S,e,g,k,sp,d⟩=>{
  cut:=λr _ _=>match r with
    | 7 =>some {σ:=Int×ByteArray,pre:=λ⟨e',s⟩=>(e'=0->e=0)/\(s.size:Int)<=1100*d,find:=some λt h=>(match mkE h 1 with
        | some e'=>match slS t 3 with
          |some s=>some (e',s)
          |none=>none
        |none=>none),t:=λ⟨e',s⟩=>[(3, .sv (.string s))],h:=λ⟨e',s⟩=>[mkC S e' 2 3],more:=0,μ:=λ_=>0,keep:=[0,2,4,6,11]}
    |19=>some {σ:=Int,pre:=λe'=>e'=0->e=0,find:=some λ_ h=>mkE h 1,t:=λ_=>[],h:=λe'=>[mkC S e' 2 3],more:=0,μ:=λ_=>0,keep:=[0,2,3,4,6,14]}
    |_=>none
  ann:=λid t h=>match h.get 15 with
    |some (.cells _ _ _ (_:: .sv (.string W)::_))=>some {σ:=NlS,pre:=λ⟨j,e',acc⟩=>(j:Int)<=1000/\acc.length<=j/\(e'=0->e=0),t:=λ⟨j,e',acc⟩=>[(17, .sv (.int .i64 (j:Int)))],h:=λ⟨j,e',acc⟩=>[mkC S e' 2 3,(15,nmT k W 22 acc.length 23),(22, .row 9 0 (z00 txV acc))],more:=2,μ:=λ⟨j,e',acc⟩=>1000- j,keep:=[0,2,3,4,6,14,15]}
    |_=>none
  pub:=λi k=>match i,k with
    |21,2=>[107]
    |_,_=>[]}
section
variable (x0:Int×ByteArray) (x1:List AT) (x2:List AT×Int×GJ×ByteArray×Bool) (x3:Int) (x4:GJ) (x5:ByteArray) (x6 x7:Int) (x8:Nat) (x9:Option Addr) (x10:Nat) (x11:List AT×Int×GJ×ByteArray) (x12:Nat) (x13:NlS) (x14:List AT) (x15:Int) (x16:List AT×Int×AT) (x17:Option Addr) (x18:GJ×ByteArray) (x19:Prop) (x20:Nat->Option Obj) (x21:FdS) (x22:FdB) (x23:TmB) (x24:AF) (x25:List AT×Int×GJ×Int) (x26:SyB)
 abbrev zlz:=GJ.k x18.1=GJ.k x4/\GJ.n x18.1=GJ.n x4/\GJ.s x18.1=GJ.s x4/\(GJ.y x18.1).1=(GJ.y x4).1/\(GJ.y x18.1).2.1=(GJ.y x4).2.1/\(GJ.y x18.1).2.2=(GJ.y x4).2.2/\(GJ.x x18.1).1=(GJ.x x4).1/\(GJ.x x18.1).2.1=(GJ.x x4).2.1/\(GJ.x x18.1).2.2=(GJ.x x4).2.2/\x19
 abbrev z35:=Option.getD (z0e x18.2 x18.1) zJ
 def zd6:= !decide (GJ.k (z35 x18)=x3)
 abbrev z15:=woR x2.2.2.1 x2.2.2.2.1 x2.2.2.2.2 x2.2.1
 def z58:=length x1=length x14
 def z63:=GJ.k x4=GJ.k x4/\GJ.n x4=GJ.n x4/\GJ.s x4=GJ.s x4/\(GJ.y x4).1=(GJ.y x4).1/\(GJ.y x4).2.1=(GJ.y x4).2.1/\(GJ.y x4).2.2=(GJ.y x4).2.2/\(GJ.x x4).1=(GJ.x x4).1/\(GJ.x x4).2.1=(GJ.x x4).2.1/\(GJ.x x4).2.2=(GJ.x x4).2.2/\x19
 def zgp:=(∀i0,True/\GJ.ok x4 i0->True/\GJ.ok x4 i0)
 def zm1:=(z15 x2).1=(z15 x2).1/\x3=x3/\x6=x6/\length x1=length x2.1/\(z15 x2).2=(z15 x2).2/\z00 AT.cells x2.1=z00 AT.cells x2.1/\x19
 def zs7:=GJ.s (z35 x18)=GJ.s (z35 x18)/\zm1 x1 x2 x3 x6 (z63 x4 (zgp x4/\(((z15 x2).2=0->x7=0)/\(↑(size (GJ.s (z35 x18))):Int)<=1100*x6)/\True))
 def zs3:=((zd6 4 x18)=true->∃(i0:List AT),(2:Int)=2/\length i0=length x2.1/\(z15 x2).2=(z15 x2).2/\z00 AT.cells i0=z00 AT.cells x2.1/\True/\GJ.s (z35 x18)=GJ.s (z35 x18)/\(z15 x2).1=(z15 x2).1/\x3=x3/\x6=x6/\z58 x1 i0/\faE (z15 x2).2 (2:Int)=faE (z15 x2).2 2/\z00 AT.cells x2.1=z00 AT.cells i0/\z63 x4 (zgp x4/\((faE (z15 x2).2 (2:Int)=0->x7=0)/\(↑(size (GJ.s (z35 x18))):Int)<=1100*x6)/\True))/\((zd6 4 x18)=false->zs7 x1 x2 x3 x4 x6 x7 x18)
 def zs8:=x5=x5/\zm1 x1 x2 x3 x6 (z63 x4 (zgp x4/\(((z15 x2).2=0->x7=0)/\(↑(size x5):Int)<=1100*x6)/\True))
 def z64:=∀(i0:AT),i0∈x23.1->AT.ok i0 x20
 def z6x:=z10 (z15 x2).1 x0.2=z10 (z15 x2).1 x0.2
 abbrev z1w:=z10 (z15 x2).1 x0.2
 def z6w:=(True/\GJ.ok x4 x20)/\slP txV (x9,x8,x10) (z1j x11.2.2.1 x11.2.2.2 x11.2.1).1 x20
 def z9h:=z4m (z1w x0 x2) (size (z1w x0 x2))=z4m (z1w x0 x2) (size (z1w x0 x2))
 def zd5:=(∀i0,z6w x4 x8 x9 x10 x11 i0->z6w x4 x8 x9 x10 x11 i0)
 def zgo:=(↑x13.1:Int)<=1000/\length x13.2.2<=x13.1/\(x13.2.1=0->x3=0)
 def j1d:=(0<=(↑x13.1:Int)/\(↑x13.1:Int)<(↑x8:Int))/\x9≠noA/\∃i0,(∀i1,z6w x4 x8 x9 x10 x11 i1->q3i i1 (adr x9 (toNat (↑x13.1:Int)*1)) [string i0])/\∃(i2:List AT),i0=i0/\z9h x0 x2/\z58 i2 x1/\x13.2.1=x13.2.1/\z00 AT.cells i2=z00 AT.cells x11.1/\(size i0<10000/\size (z4m (z1w x0 x2) (size (z1w x0 x2)))<50000)/\length (z00 txV x13.2.2)=length x13.2.2*1/\(length x13.2.2+nat_lit 1)*16<=140737488355328/\AV.ssl (nat_lit 22) (nat_lit 0) (length x13.2.2) (nat_lit 1) (nat_lit 23)=AV.ssl (nat_lit 22) (nat_lit 0) (length x13.2.2) (nat_lit 1) (nat_lit 23)/\Jb ((↑x13.1:Int)+1)/\∃(i3:NlS),z9h x0 x2/\x9=x9/\x8=x8/\x10=x10/\(↑i3.1:Int)=(↑x13.1:Int)+1/\x3=x3/\x6=x6/\z58 x1 i2/\i3.2.1=whE i0 (z4m (z1w x0 x2) (size (z1w x0 x2))) x13.2.1/\x3=x3/\z6x x0 x2/\length i3.2.2=length x13.2.2+nat_lit 1/\z00 AT.cells x11.1=z00 AT.cells i2/\z63 x4 (z00 txV i3.2.2=z00 txV x13.2.2++[string (z10 i0 (z4m (z1w x0 x2) (size (z1w x0 x2))))]/\zd5 x4 x8 x9 x10 x11/\(zgo x7 i3)/\(1000:Nat)- i3.1<1000- x13.1/\True)
 def zw6:=z9h x0 x2/\x3=x3/\x6=x6/\z58 x1 x14/\x13.2.1=x13.2.1/\x3=x3/\z6x x0 x2/\length x13.2.2=length x13.2.2/\z00 AT.cells x14=z00 AT.cells x14/\z63 x4 (z00 txV x13.2.2=z00 txV x13.2.2/\zd5 x4 x8 x9 x10 x11/\(x13.2.1=0->x7=0)/\True)
 def j19:=(Option.isSome (findF (z1w x0 x2) x1 0)=true->∃(i0:List AT),(5:Int)=5/\z58 i0 x1/\x13.2.1=x13.2.1/\z00 AT.cells i0=z00 AT.cells x1/\True/\z9h x0 x2/\x3=x3/\x6=x6/\z58 x14 i0/\faE x13.2.1 (5:Int)=faE x13.2.1 5/\x3=x3/\z6x x0 x2/\length x13.2.2=length x13.2.2/\z00 AT.cells x1=z00 AT.cells i0/\z63 x4 (z00 txV x13.2.2=z00 txV x13.2.2/\zd5 x4 x8 x9 x10 x11/\(faE x13.2.1 (5:Int)=0->x7=0)/\True))/\(Option.isSome (findF (z1w x0 x2) x1 0)=false->zw6 x0 x14 x2 x3 x4 x6 x7 x8 x9 x10 x11 x13 x1)
 def z34:=(z6w x4 x8 x9 x10 x11 x20)/\length x13.2.2<=x12/\qhu x20 x17 (take (length x13.2.2*nat_lit 1) (z00 txV x13.2.2))
 def zsa:=(0<=AF.ty x24/\AF.ty x24<(↑(length (x21.1++x22.1)):Int))/\GJ.wf (AF.df x24)
 def zs9:=x21.2.1=0/\(∀(i0:AT),i0∈x22.1->z1f (length (x21.1++x22.1)) i0)/\(∀(i1:AF),i1∈x22.2.2.2->zsa x21 x22 i1)/\length x22.2.2.2<=30
 def zm2:=(∀(i0:AT),i0∈x22.1->AT.ok i0 x20)/\slP AF.cells x22.2.2.1 x22.2.2.2 x20/\∀(i1:AF),i1∈x22.2.2.2->AF.ok i1 x20
 def zsb:=x25.2.1=0/\x26.2.2.1≠[]/\length x26.2.2.1<=30
 abbrev zm3:=if x26.1=0 then zfi x25.1 x25.2.2.2 x26.2.1 x26.2.2.1 x26.2.2.2.1 x26.2.2.2.2 else x25.1
 def zd4:=∃(i0:List AT),x7=x7/\length i0=length (adS x16.1 x16.2.2)/\adE x16.1 x16.2.1=adE x16.1 x16.2.1/\z00 AT.cells i0=z00 AT.cells (adS x16.1 x16.2.2)/\True/\∃(i1:TmB),i1.2.2=0/\length (x1++i1.1)=length i0/\i1.2.1=faE (adE x16.1 x16.2.1) x7/\z00 AT.cells (x1++i1.1)=z00 AT.cells i0/\z0g (x1,x3,x4,x5,x6) i1/\(∀i2,z34 x4 x8 x9 x10 x11 x12 x13 x17 i2->z64 i2 i1)/\True
 def zm4:=x23.2.2=adR x16.1/\length (x1++x23.1)=length (adS x16.1 x16.2.2)/\x23.2.1=adE x16.1 x16.2.1/\x19
 def zs6:=(0<=adR x16.1/\adR x16.1<(↑(length (adS x16.1 x16.2.2)):Int))/\nat_lit 0+toNat (adR x16.1)*nat_lit 10+7+length [int i64 (GJ.n (z35 x18))]<=length (z00 AT.cells (adS x16.1 x16.2.2))/\∃(i0:TmB),zm4 x1 x16 (z00 AT.cells (x1++i0.1)=spl (z00 AT.cells (adS x16.1 x16.2.2)) (nat_lit 0+toNat (adR x16.1)*nat_lit 10+7) [int i64 (GJ.n (z35 x18))]/\z0g (x1,x3,x4,x5,x6) i0/\(∀i1,z34 x4 x8 x9 x10 x11 x12 x13 x17 i1->z64 i1 i0)/\True) i0
 def zs5:=Ji (adE x16.1 x16.2.1=0) (zs6 x1 x3 x4 x5 x6 x8 x9 x10 x11 x12 x13 x16 x17 x18) (∃(i3:TmB),zm4 x1 x16 (z00 AT.cells (x1++i3.1)=z00 AT.cells (adS x16.1 x16.2.2)/\z0g (x1,x3,x4,x5,x6) i3/\(∀i4,z34 x4 x8 x9 x10 x11 x12 x13 x17 i4->z64 i4 i3)/\True) i3)
 def zs4:=Ji (5000<GJ.n (z35 x18)) (zd4 x1 x3 x4 x5 x6 6 x8 x9 x10 x11 x12 x13 x16 x17) (zs5 x1 x3 x4 x5 x6 x8 x9 x10 x11 x12 x13 x16 x17 x18)
 def zs2:=Ji (GJ.n (z35 x18)<0) (zd4 x1 x3 x4 x5 x6 6 x8 x9 x10 x11 x12 x13 x16 x17) (zs4 x1 x3 x4 x5 x6 x8 x9 x10 x11 x12 x13 x16 x17 x18)
 def j1b:=((zd6 3 x18)=true->zd4 x1 x3 x4 x5 x6 2 x8 x9 x10 x11 x12 x13 x16 x17)/\((zd6 3 x18)=false->zs2 x1 x3 x4 x5 x6 x8 x9 x10 x11 x12 x13 x16 x17 x18)
 def j1a:=Ji (x3=10) (∃(i0:List AT×Int×GJ×Int),GJ.k i0.2.2.1=GJ.k x4/\GJ.n i0.2.2.1=GJ.n x4/\GJ.s i0.2.2.1=GJ.s x4/\(GJ.y i0.2.2.1).1=(GJ.y x4).1/\(GJ.y i0.2.2.1).2.1=(GJ.y x4).2.1/\(GJ.y i0.2.2.1).2.2=(GJ.y x4).2.2/\(GJ.x i0.2.2.1).1=(GJ.x x4).1/\(GJ.x i0.2.2.1).2.1=(GJ.x x4).2.1/\(GJ.x i0.2.2.1).2.2=(GJ.x x4).2.2/\i0.2.2.2=adR x16.1/\length i0.1=length (adS x16.1 x16.2.2)/\i0.2.1=adE x16.1 x16.2.1/\z00 AT.cells i0.1=z00 AT.cells (adS x16.1 x16.2.2)/\(length i0.1<=60/\GJ.wf i0.2.2.1/\0<=i0.2.2.2/\(i0.2.1=0->i0.2.2.2<(↑(length i0.1):Int)))/\(∀i1,z34 x4 x8 x9 x10 x11 x12 x13 x17 i1->GJ.ok i0.2.2.1 i1)/\∀(i2:SyB),(i2.1=0->zsb i0 i2)->(∃i3,(z34 x4 x8 x9 x10 x11 x12 x13 x17 i3)/\slP txV i2.2.1 i2.2.2.1 i3)->∃(i4:TmB),i4.2.2=adR x16.1/\length (x1++i4.1)=length (zm3 i0 i2)/\i4.2.1=i2.1/\z00 AT.cells (x1++i4.1)=z00 AT.cells (zm3 i0 i2)/\z0g (x1,x6,x4,x5,x7) i4/\(∀i5,(z34 x4 x8 x9 x10 x11 x12 x13 x17 i5)/\slP txV i2.2.1 i2.2.2.1 i5->z64 i5 i4)/\True) (∃(i7:GJ×ByteArray),zlz x4 i7 (i7.2=mkS [115,105,122,101]/\GJ.wf i7.1/\(∀i8,z34 x4 x8 x9 x10 x11 x12 x13 x17 i8->GJ.ok i7.1 i8)/\((!Option.isSome (z0e i7.2 i7.1))=true->zd4 x1 x6 x4 x5 x7 2 x8 x9 x10 x11 x12 x13 x16 x17)/\((!Option.isSome (z0e i7.2 i7.1))=false->j1b x1 x6 x4 x5 x7 x8 x9 x10 x11 x12 x13 x16 x17 i7)))
 abbrev j18:=((!decide (x3=0))=true->∃(i0:TmB),i0.2.2=0/\length (x1++i0.1)=length x1/\i0.2.1=x3/\z00 AT.cells (x1++i0.1)=z00 AT.cells x14/\z0g (x1,x6,x4,x5,x7) i0/\(∀i1,z6w x4 x8 x9 x10 x11 i1->z64 i1 i0)/\True)/\((!decide (x3=0))=false->∀(i3 i4 i5:Nat) (i6:Option Addr) (i7 i8:Nat),(∃i9,z34 x4 x8 x9 x10 x11 i8 x13 i6 i9)->∃(i10:List AT×Int×AT),AT.k i10.2.2=x15/\AT.nm i10.2.2=z10 (z15 x2).1 x0.2/\(AT.al i10.2.2).1=i6/\(AT.al i10.2.2).2.1=length x13.2.2/\(AT.al i10.2.2).2.2=i8/\AT.it i10.2.2=0/\(AT.sy i10.2.2).1=noA/\(AT.sy i10.2.2).2.1=0/\(AT.sy i10.2.2).2.2=0/\AT.hd i10.2.2=false/\AT.df i10.2.2=mkS []/\AT.sz i10.2.2=0/\(AT.f i10.2.2).1=noA/\(AT.f i10.2.2).2.1=0/\(AT.f i10.2.2).2.2=0/\(AT.br i10.2.2).1=noA/\(AT.br i10.2.2).2.1=0/\(AT.br i10.2.2).2.2=0/\length i10.1=length x1/\i10.2.1=x3/\z00 AT.cells i10.1=z00 AT.cells x14/\True/\Ji (x15=9) (∃(i11:FdS),GJ.k i11.2.2.1=GJ.k x4/\GJ.n i11.2.2.1=GJ.n x4/\GJ.s i11.2.2.1=GJ.s x4/\(GJ.y i11.2.2.1).1=(GJ.y x4).1/\(GJ.y i11.2.2.1).2.1=(GJ.y x4).2.1/\(GJ.y i11.2.2.1).2.2=(GJ.y x4).2.2/\(GJ.x i11.2.2.1).1=(GJ.x x4).1/\(GJ.x i11.2.2.1).2.1=(GJ.x x4).2.1/\(GJ.x i11.2.2.1).2.2=(GJ.x x4).2.2/\i11.2.2.2.1=adR i10.1/\i11.2.2.2.2.1=z4m (z1w x0 x2) (size (z1w x0 x2))/\i11.2.2.2.2.2=x7/\length i11.1=length (adS i10.1 i10.2.2)/\i11.2.1=adE i10.1 i10.2.1/\z00 AT.cells i11.1=z00 AT.cells (adS i10.1 i10.2.2)/\(zot i11<x12+1/\length i11.1<=60/\GJ.wf i11.2.2.1/\0<=i11.2.2.2.1/\(i11.2.1=0->i11.2.2.2.1<(↑(length i11.1):Int))/\1<=i11.2.2.2.2.2/\i11.2.2.2.2.2<=20/\(↑(size i11.2.2.2.2.1):Int)<=1100*(i11.2.2.2.2.2+1))/\(∀i12,z34 x4 x8 x9 x10 x11 i8 x13 i6 i12->GJ.ok i11.2.2.1 i12)/\∀(i13:FdB),length (i11.1++i13.1)<=60/\(i13.2.1=0->zs9 i11 i13)->(∃i16,(z34 x4 x8 x9 x10 x11 i8 x13 i6 i16)/\zm2 i16 i13)->∃(i19:TmB),i19.2.2=adR i10.1/\length (x1++i19.1)=length ((if i13.2.1=0 then z6l i11.1 i11.2.2.2.1 i13.2.2.1 i13.2.2.2 else i11.1)++i13.1)/\i19.2.1=i13.2.1/\z00 AT.cells (x1++i19.1)=z00 AT.cells ((if i13.2.1=0 then z6l i11.1 i11.2.2.2.1 i13.2.2.1 i13.2.2.2 else i11.1)++i13.1)/\z0g (x1,x6,x4,x5,x7) i19/\(∀i20,((z34 x4 x8 x9 x10 x11 i8 x13 i6 i20)/\zm2 i20 i13)->z64 i20 i19)/\True) (j1a x1 x15 x4 x5 x6 x7 x8 x9 x10 x11 i8 x13 i10 i6))
 def zm0:=∃(i0:List AT),z6x x0 x2/\z58 i0 x1/\x13.2.1=x13.2.1/\z00 AT.cells i0=z00 AT.cells x11.1/\length i0<1000/\(Ji (x13.2.1=0) (j19 x0 i0 x2 x3 x4 x6 x7 x8 x9 x10 x11 x13 x1) (zw6 x0 x1 x2 x3 x4 x6 x7 x8 x9 x10 x11 x13 i0))/\∀(i1:Int),(i1=0->x7=0)->j18 x0 x1 x2 i1 x4 x5 x7 x6 x8 x9 x10 x11 x12 x13 i0 x3
 def j1c:=Ji (x13.2.1=0) (j1d x0 x1 x2 x3 x4 x6 x7 x8 x9 x10 x11 x13) (zm0 x0 x1 x2 x3 x4 x5 x6 x7 x8 x9 x10 x11 x12 x13)
 def j17:=Ji ((↑x13.1:Int)<(↑x8:Int)) (j1c x0 x1 x2 x3 x4 x5 x6 x7 x8 x9 x10 x11 x12 x13) (zm0 x0 x1 x2 x3 x4 x5 x6 x7 x8 x9 x10 x11 x12 x13)
 def j16:=(∃(i0:NlS),z9h x0 x2/\x9=x9/\x8=x8/\x10=x10/\(↑i0.1:Int)=0/\x3=x3/\x6=x6/\length x1=length x11.1/\i0.2.1=(z1j x11.2.2.1 x11.2.2.2 x11.2.1).2.2/\x3=x3/\z6x x0 x2/\length i0.2.2=0/\z00 AT.cells x11.1=z00 AT.cells x11.1/\z63 x4 (zd5 x4 x8 x9 x10 x11/\(zgo x7 i0)/\True))/\∀(i2:NlS),zgo x7 i2->j17 x0 x1 x2 x3 x4 x5 x6 x7 x8 x9 x10 x11 x12 i2
 def j15:=((!decide (x0.1=0))=true->∃(i0:TmB),i0.2.2=0/\length (x1++i0.1)=length x1/\i0.2.1=x0.1/\z00 AT.cells (x1++i0.1)=z00 AT.cells x2.1/\z0g (x1,x3,x4,x5,x6) i0/\(∀i1,True/\GJ.ok x4 i1->z64 i1 i0)/\True)/\((!decide (x0.1=0))=false->∃(i3:List AT),(z15 x2).1=(z15 x2).1/\x0.2=x0.2/\z58 i3 x1/\x0.1=x0.1/\z00 AT.cells i3=z00 AT.cells x2.1/\(size (z15 x2).1<10000/\size x0.2<50000)/\z6x x0 x2/\size (z1w x0 x2)<1000000/\∃(i4:List AT×Int×GJ×ByteArray),GJ.k i4.2.2.1=GJ.k x4/\GJ.n i4.2.2.1=GJ.n x4/\GJ.s i4.2.2.1=GJ.s x4/\(GJ.y i4.2.2.1).1=(GJ.y x4).1/\(GJ.y i4.2.2.1).2.1=(GJ.y x4).2.1/\(GJ.y i4.2.2.1).2.2=(GJ.y x4).2.2/\(GJ.x i4.2.2.1).1=(GJ.x x4).1/\(GJ.x i4.2.2.1).2.1=(GJ.x x4).2.1/\(GJ.x i4.2.2.1).2.2=(GJ.x x4).2.2/\i4.2.2.2=mkS [97,108,105,97,115,101,115]/\length i4.1=length i3/\i4.2.1=whE (z15 x2).1 x0.2 x0.1/\z00 AT.cells i4.1=z00 AT.cells i3/\GJ.wf i4.2.2.1/\(∀i5,True/\GJ.ok x4 i5->GJ.ok i4.2.2.1 i5)/\∀(i6:Unit),True->∀(i7:Option Addr) (i8 i9:Nat),(∃i10,z6w x4 i8 i7 i9 i4 i10)->j16 x0 x1 x2 x7 x4 x5 x6 x3 i8 i7 i9 i4 x8)
end
def z8z(n:Nat) (S:List AT) (e:Int) (g:GJ) (k:Int) (sp:ByteArray) (d:Int):qlb P (qgc [(47,z3y),(71,z5p),(72,z4s),(73,z4n),(74,z4f),(68,za4),(50,zoq),(44,z1h)]) (qhg [(75,z3c.below zot (n+1)),(76,zdv)]) Try.f48 (z4p.below zov (n+1)) (zcc) ⟨S,e,g,k,sp,d⟩=(zov (S,e,g,k,sp,d)<n+1/\z2f (S,e,g,sp,d)/\d<=20/\(k=9\/k=10\/k=11)->(∃(p:Pub),True/\GJ.ok g p)->∃(s:List AT×Int×GJ×ByteArray×Bool),GJ.k s.2.2.1=GJ.k g/\GJ.n s.2.2.1=GJ.n g/\GJ.s s.2.2.1=GJ.s g/\(GJ.y s.2.2.1).1=(GJ.y g).1/\(GJ.y s.2.2.1).2.1=(GJ.y g).2.1/\(GJ.y s.2.2.1).2.2=(GJ.y g).2.2/\(GJ.x s.2.2.1).1=(GJ.x g).1/\(GJ.x s.2.2.1).2.1=(GJ.x g).2.1/\(GJ.x s.2.2.1).2.2=(GJ.x g).2.2/\s.2.2.2.1=mkS [110,97,109,101]/\s.2.2.2.2=true/\length s.1=length S/\s.2.1=e/\z00 AT.cells s.1=z00 AT.cells S/\GJ.wf s.2.2.1/\(∀(p:Pub),True/\GJ.ok g p->GJ.ok s.2.2.1 p)/\∃(s_1:GJ×ByteArray),zlz g s_1 (s_1.2=mkS [110,97,109,101,115,112,97,99,101]/\GJ.wf s_1.1/\(∀(p:Pub),True/\GJ.ok g p->GJ.ok s_1.1 p)/\((Option.isSome (z0e s_1.2 s_1.1)=true->zs3 S s k g d e s_1)/\(Option.isSome (z0e s_1.2 s_1.1)=false->zs8 S s k g sp d e))/\∀(s_2:Int×ByteArray),(s_2.1=0->e=0)/\(↑(size s_2.2):Int)<=1100*d->j15 s_2 S s e g sp d k n)):=by kernel_rfl
def zb7:=λn S e g k sp d=>Eq.trans (z8z n S e g k sp d) (by delta Ji Jb Jt Jf zlz z35 zd6 z15 z58 z63 zgp zm1 zs7 zs3 zs8 z64 z6x z1w z6w z9h zd5 zgo j1d zw6 j19 z34 zsa zs9 zm2 zsb zm3 zd4 zm4 zs6 zs5 zs4 zs2 j1b j1a j18 zm0 j1c j17 j16 j15;exact rfl)
def zow(k:Int) (W:ByteArray) (al:SV) (als:List ByteArray):AT:=⟨k,W,al,als,0,(none,0,0),[],false,mkS [],0,(none,0,0),[],(none,0,0),[]⟩
def zjr{k:Int} {W:ByteArray} {al:SV} {als:List ByteArray} {p:Pub} (h:slP txV al als p):(zow k W al als).ok p:=⟨h,z04,z04,z04,λf hf=>(by cases hf)⟩
def z85(S:List AT) (t u:AT):(S++[t]).set S.length u=S++[u]:=by
 induction S with
 |nil=>rfl
 |cons a S ih=>rw[List.cons_append,List.length_cons,List.set_cons_succ,ih];rfl
def z7p(S:List AT) (t:AT):(S++[t])[S.length]? =some t:=by
 rw[List.getElem?_append_right (Nat.le_refl _),Nat.sub_self];rfl
def zao(S:List AT) (t:AT) (x:SV) (l:List AF):z6l (S++[t]) (S.length:Int) x l=S++[{t with f:=x,fs:=l}]:=by
 unfold z6l;rw[Int.toNat_natCast,z7p];exact z85 _ _ _
def zbq(S:List AT) (t:AT) (y:SV) (l:List ByteArray) (hd:Bool) (df:ByteArray):zfi (S++[t]) (S.length:Int) y l hd df=S++[{t with sy:=y,sys:=l,hd:=hd,df:=df}]:=by
 unfold zfi;rw[Int.toNat_natCast,z7p];exact z85 _ _ _
def zpx(S:List AT) (t:AT) (r:Int):z00 AT.cells (S++[{t with sz:=r}])=spl (z00 AT.cells (S++[t])) (0+S.length*10+7) [.int .i64 r]:=by
 rw[z05,z05,z12,z12,Nat.zero_add,←z01 z0y S]
 show _=(z00 AT.cells S++(t.cells++z00 AT.cells [])).set ((z00 AT.cells S).length+7) (.int .i64 r)
 rw[z2e]
 rfl
def z5j{s:ByteArray}:∀i,i<=s.size->(z4m s i).size<=s.size
  |0,_=>Nat.zero_le _
  | i+1,h=>by
    rw[z4m]
    split
    · rw[ByteArray.size_extract];omega
    · exact z5j i (by omega)
def zqe{a b:ByteArray} {e:Int}:whE a b e=0->e=0:=by
 unfold whE
 split
 ·exactλh=>(z2a (by decide) h).elim
 ·exactλh=>h
def zb8 (n:Nat) (hf:q1v P 75 (z3c.below zot (n+1))):q1v P 48 (z4p.below zov (n+1)):=by
 refine qkh mixed (qdw (qhr z21 (qhr z52 (qhr zcg (qhr za1 (qhr z4z (qhr z7m (qhr z4l (qhr z0w qkx))))))))) (qen (qhq hf (qhq zkd qkw))) (W:=zcc) Try.func48 (by kernel_rfl) (show 1<=4 by decide) (show 4<=6 by decide) (λs=>by kernel_rfl) λ⟨S,(e:Int),g,(k:Int),sp,(d:Int)⟩=>(zb7 n S e g k sp d).mpr ?_
 rintro⟨hmu,⟨hS,hg,hd1,hd2,hsp⟩,hd3,hk⟩ ⟨p,_,hp⟩
 have hmu:(25- d).toNat<n+1:=hmu
 simp only[sbS,exists_const,forall_const,Int.toNat_natCast]
 have hnm:=zii hg (mkS [110,97,109,101]) true e
 have hwe:(woR g (mkS [110,97,109,101]) true e).2=0->e=0:=zkj
 obtain⟨oww,_⟩:=z0x (mkS [110,97,109,101,115,112,97,99,101]) hg
 have osz:((z0e (mkS [110,97,109,101,115,112,97,99,101]) g).getD zJ).s.size<1000:=by rw[GJ.wf_eq]at oww;exact oww.1
 have bad0:∀k:Int,k≠0->z0g (S,e,g,sp,d) ([],k,0):=λk hk=>⟨⟨by rw[List.append_nil];exact hS,λh=>absurd h hk⟩,λh=>absurd h hk⟩
 refine⟨⟨S,e,g,mkS [110,97,109,101],true⟩,rfl,rfl,rfl,rfl,rfl,rfl,rfl,rfl,rfl,rfl,rfl,rfl,rfl,rfl,hg,λq hq=>hq,⟨g,mkS [110,97,109,101,115,112,97,99,101]⟩,rfl,rfl,rfl,rfl,rfl,rfl,rfl,rfl,rfl,rfl,hg,λq hq=>hq,?_⟩
 simp only
 clear oww
 generalize (z0e (mkS [110,97,109,101,115,112,97,99,101]) g).getD zJ=ow at*
 generalize woR g (mkS [110,97,109,101]) true e=W at*
 refine⟨⟨λ_=>⟨λ_=>⟨S,rfl,rfl,rfl,rfl,λh=>(z2a (by decide) h).elim,by omega⟩,λ_=>⟨trivial,hwe,by omega⟩⟩,λ_=>⟨trivial,hwe,hsp⟩⟩,?_⟩
 rintro⟨e2,sp2⟩ ⟨h2,hsp2⟩
 simp only at h2 hsp2⊢
 refine⟨λhne=>⟨⟨[],e2,0⟩,rfl,by rw[List.append_nil],rfl,by rw[List.append_nil],bad0 _ hne,λq _ a ha=>(by cases ha)⟩,λhe2=> ?_⟩
 have hws:=z3q (a:=W.1) (b:=sp2)
 have hbs:=z5j (s:=z10 W.1 sp2) _ (Nat.le_refl _)
 refine⟨S,rfl,rfl,⟨by omega,by omega⟩,by omega,⟨S,whE W.1 sp2 e2,g,mkS [97,108,105,97,115,101,115]⟩,rfl,rfl,rfl,rfl,rfl,rfl,rfl,rfl,rfl,rfl,rfl,rfl,rfl,hg,λq hq=>hq,?_⟩
 have hsz:∀x∈(z1j g (mkS [97,108,105,97,115,101,115]) (whE W.1 sp2 e2)).1,x.size<1000:=z51 hg
 have hLl:(z1j g (mkS [97,108,105,97,115,101,115]) (whE W.1 sp2 e2)).1.length<1000:=z50 hg
 have hE:(z1j g (mkS [97,108,105,97,115,101,115]) (whE W.1 sp2 e2)).2.2=0->e=0:=λh=>h2 (zqe (zc0 h))
 simp only
 generalize z1j g (mkS [97,108,105,97,115,101,115]) (whE W.1 sp2 e2)=F at*
 generalize z10 W.1 sp2=N at*
 generalize z4m N N.size=sp3 at*
 rintro a m c ⟨p1,hp1,hl1⟩
 have hm:m=F.1.length:=hl1.1
 subst hm
 have hat2:=λ(k:Nat) (hk:k<F.1.length) (q:Pub) (hq:slP txV (a,F.1.length,c) F.1 q)=>(show a≠noA/\q3i q (adr a (k*1)) [.string F.1[k]]from z0b z0s (by decide) hq hk)
 refine⟨⟨⟨0,F.2.2,[]⟩,rfl,trivial,rfl,rfl,by show((0:Nat):Int)<=1000;omega,Nat.le_refl _,hE⟩,?_⟩
 rintro⟨x,e4,acc⟩ ⟨hx0,hacc,h4⟩
 simp only at hx0 hacc h4⊢
 refine⟨λhx=>⟨λh0=>⟨⟨by omega,by omega⟩,(hat2 x (by omega) p1 hl1).1,F.1[x]'(by omega),λq hq=>(hat2 x (by omega) q hq.2).2,S,rfl,rfl,⟨by have:=hsz _ (List.getElem_mem (show x<F.1.length by omega));omega,by omega⟩,z01 z0s acc,by omega,⟨by omega,by omega⟩,⟨x+1,whE (F.1[x]'(by omega)) sp3 e4,acc++[z10 (F.1[x]'(by omega)) sp3]⟩,by show((x+1:Nat):Int)=_;omega,rfl,rfl,by simp,rfl,by rw[z05];rfl,⟨by show((x+1:Nat):Int)<=1000;omega,by show(acc++[_]).length<=x+1;simp;omega,λh=>h4 (zqe h)⟩,by show 1000- (x+1)<1000- x;omega⟩,λh0=> ?xa⟩,λhx=> ?xb⟩
 case xa | xb=>
  refine⟨S,rfl,rfl,by omega,⟨⟨λ_=>⟨λ_=>⟨S,rfl,rfl,rfl,rfl,λh=>(z2a (by decide) h).elim⟩,λ_=>⟨rfl,h4⟩⟩,λ_=>⟨rfl,h4⟩⟩,?_⟩⟩
  intro e5 h5
  refine⟨λhne=>⟨⟨[],e5,0⟩,rfl,by rw[List.append_nil],rfl,by rw[List.append_nil],bad0 _ hne,λq _ a ha=>(by cases ha)⟩,λhe5=> ?_⟩
  intro a7 c1 _
  have e0:=h5 he5
  have hal:∀q,(acc.length<=c1/\qhu q a7 (List.take (acc.length*1) (z00 txV acc)))->slP txV (a7,acc.length,c1) acc q:=λq hq=>by
   refine⟨rfl,hq.1,?_⟩
   have:=hq.2
   rw[List.take_of_length_le (by rw[z01 z0s];exact Nat.le_refl _)]at this
   exact this
  refine⟨⟨S,e5,zow k N (a7,acc.length,c1) acc⟩,rfl,rfl,rfl,rfl,rfl,rfl,rfl,rfl,rfl,rfl,rfl,rfl,rfl,rfl,rfl,rfl,rfl,rfl,rfl,rfl,rfl,?_⟩
  have hto:∀q,slP txV (a7,acc.length,c1) acc q->(zow k N (a7,acc.length,c1) acc).ok q:=λq h=>zjr h
  have htk:(zow k N (a7,acc.length,c1) acc).k=k:=rfl
  have hte:zow k N (a7,acc.length,c1) acc=⟨k,N,(a7,acc.length,c1),acc,0,(none,0,0),[],false,mkS [],0,(none,0,0),[],(none,0,0),[]⟩:=rfl
  simp only
  generalize zow k N (a7,acc.length,c1) acc=t at*
  have adl:=z9x S t hS
  have adok:∀q,slP txV (a7,acc.length,c1) acc q->∀a∈adT S t,a.ok q:=λq hq a ha=>by
   unfold adT at ha
   split at ha
   ·cases ha
   ·simp at ha;subst ha;exact hto q hq
  have hR0:0<=adR S:=by unfold adR;split<;>omega
  have hgood:adE S e5=0->S.length<60/\adS S t=S++[t]/\adR S=S.length:=λh=>by
   have hl:S.length<60:=by
    by_cases hl:60<=S.length
    ·exact absurd h (z9w hl)
    ·omega
   exact⟨hl,by unfold adS;rw[if_neg (by omega)],by unfold adR;rw[if_neg (by omega)]⟩
  have hbad:∀e6:Int,e6≠0->z0g (S,e,g,sp,d) (adT S t,e6,0):=λe6 h6=>⟨⟨adl,λh=>absurd h h6⟩,λh=>absurd h h6⟩
  refine⟨λh9=> ?_,λh9=>⟨λh10=> ?_,λh10=> ?_⟩⟩
  ·refine ⟨⟨adS S t,adE S e5,g,adR S,sp3,d⟩,rfl,rfl,rfl,rfl,rfl,rfl,rfl,rfl,rfl,rfl,rfl,rfl,rfl,rfl,rfl,⟨hmu,by rw[z0q];exact adl,hg,hR0,λh=> ?_,hd1,hd3,by show(sp3.size:Int)<=1100*(d+1);omega⟩,λq hq=>hq.1.1,?_⟩
   ·obtain⟨hl,q2,q3⟩:=hgood h
    show adR S<((adS S t).length:Int)
    rw[q2,q3];simp;omega
   ·rintro⟨T,e6,x,fs⟩ ⟨hT,hT2⟩ ⟨p3,_,hTok,hsl,hfok⟩
    simp only at hT hT2 hTok hsl hfok⊢
    by_cases h6:e6=0
    ·obtain⟨ha0,hTg,hfg,hf30⟩:=hT2 h6
     obtain⟨hl,q2,q3⟩:=hgood ha0
     rw[q2]at hT hTg hfg
     rw[if_pos h6,q2,q3,zao,List.append_assoc]
     have hlen:∀u:AT,(S++(u::T)).length=S.length+T.length+1:=λu=>by simp;omega
     have hlen2:(S++[t]++T).length=S.length+T.length+1:=by simp;omega
     refine⟨⟨{t with f:=x,fs:=fs}::T,e6,S.length⟩,rfl,rfl,rfl,rfl,⟨⟨by rw[hlen];omega,λ_=>⟨e0,λy hy=> ?_⟩⟩,λ_=>⟨by show 0<=(S.length:Int);omega,by show(S.length:Int)<((S++_::T).length:Int);rw[hlen];omega⟩⟩,λq hq y hy=> ?_⟩
     ·rw[hlen]
      rw[hlen2]at hTg hfg
      rcases List.mem_cons.1 hy with rfl|hy
      ·subst hte
       exact⟨by show 1<=k/\k<=14;omega,λh=>(by have h:k=12\/k=13:=h;omega),λb hb=>(by cases hb),λh=>(by have h:k=14:=h;omega),hfg,λh=>(by have h:k=10:=h;omega),λh=>(by have h:k=11:=h;omega),hf30,Nat.zero_le _,Nat.zero_le _⟩
      ·exact hTg y hy
     ·rcases List.mem_cons.1 hy with rfl|hy
      ·have ho:=hto q (hal q hq.1.2)
       exact⟨ho.1,ho.2.1,hq.2.2.1,ho.2.2.2.1,hq.2.2.2⟩
      ·exact hq.2.1 y hy
    ·rw[if_neg h6]
     refine⟨⟨adT S t++T,e6,adR S⟩,rfl,by rw[z0q,List.append_assoc],rfl,by rw[z0q,List.append_assoc],⟨⟨by rw[←List.append_assoc,←z0q];exact hT,λh=>absurd h h6⟩,λh=>absurd h h6⟩,λq hq y hy=>(List.mem_append.1 hy).elim (adok q (hal q hq.1.2) y) (hq.2.1 y)⟩
  ·refine⟨⟨adS S t,adE S e5,g,adR S⟩,rfl,rfl,rfl,rfl,rfl,rfl,rfl,rfl,rfl,rfl,rfl,rfl,rfl,⟨by rw[z0q];exact adl,hg,hR0,λh=> ?_⟩,λq hq=>hq.1.1,?_⟩
   ·obtain⟨hl,q2,q3⟩:=hgood h
    show adR S<((adS S t).length:Int)
    rw[q2,q3];simp;omega
   ·rintro⟨e6,y,l,hd,df⟩ hT2 ⟨p3,_,hsl⟩
    simp only at hT2 hsl⊢
    by_cases h6:e6=0
    ·obtain⟨ha0,hl0,hl30⟩:=hT2 h6
     obtain⟨hl,q2,q3⟩:=hgood ha0
     rw[if_pos h6,q2,q3,zbq]
     refine⟨⟨[{t with sy:=y,sys:=l,hd:=hd,df:=df}],e6,S.length⟩,rfl,rfl,rfl,rfl,⟨⟨by simp;omega,λ_=>⟨e0,λz hz=> ?_⟩⟩,λ_=>⟨by show 0<=(S.length:Int);omega,by simp;omega⟩⟩,λq hq z hz=> ?_⟩
     ·simp at hz;subst hz;subst hte
      exact⟨by show 1<=k/\k<=14;omega,λh=>(by have h:k=12\/k=13:=h;omega),λb hb=>(by cases hb),λh=>(by have h:k=14:=h;omega),λf hf=>(by cases hf),λ_=>hl0,λh=>(by have h:k=11:=h;omega),Nat.zero_le _,Nat.zero_le _,hl30⟩
     ·simp at hz;subst hz
      have ho:=hto q (hal q hq.1.2)
      exact⟨ho.1,hq.2,ho.2.2.1,ho.2.2.2.1,ho.2.2.2.2⟩
    ·rw[if_neg h6]
     refine⟨⟨adT S t,e6,adR S⟩,rfl,by rw[z0q],rfl,by rw[z0q],⟨⟨adl,λh=>absurd h h6⟩,λh=>absurd h h6⟩,λq hq y hy=>adok q (hal q hq.1.2) y hy⟩
  ·obtain⟨zw,_⟩:=z0x (mkS [115,105,122,101]) hg
   refine⟨⟨g,mkS [115,105,122,101]⟩,rfl,rfl,rfl,rfl,rfl,rfl,rfl,rfl,rfl,rfl,hg,λq hq=>hq.1.1,?_⟩
   simp only
   have hbd:∀k:Int,k≠0->∃b:List AT,b.length=(adS S t).length/\z00 AT.cells b=z00 AT.cells (adS S t)/\∃b_2:TmB,b_2.2.2=0/\(S++b_2.1).length=b.length/\b_2.2.1=faE (adE S e5) k/\z00 AT.cells (S++b_2.1)=z00 AT.cells b/\z0g (S,e,g,sp,d) b_2/\∀q,((g.ok q/\slP txV (a,F.1.length,c) F.1 q)/\acc.length<=c1/\qhu q a7 (List.take (acc.length*1) (z00 txV acc)))->∀y∈b_2.1,y.ok q:=λk hk=>⟨adS S t,rfl,rfl,⟨adT S t,faE (adE S e5) k,0⟩,rfl,by rw[z0q],rfl,by rw[z0q],hbad _ (z0j hk),λq hq=>adok q (hal q hq.2)⟩
   generalize (z0e (mkS [115,105,122,101]) g).getD zJ=zs at*
   refine⟨λ_=>hbd 2 (by decide),λ_=>⟨λ_=>hbd 2 (by decide),λ_=>⟨λ_=>hbd 6 (by decide),λz0=>⟨λ_=>hbd 6 (by decide),λz1=>⟨λha0=> ?_,λha0=>⟨⟨adT S t,adE S e5,adR S⟩,rfl,by rw[z0q],rfl,by rw[z0q],⟨⟨adl,λh=>absurd h ha0⟩,λh=>absurd h ha0⟩,λq hq=>adok q (hal q hq.2)⟩⟩⟩⟩⟩⟩
   clear hbd
   obtain⟨hl,q2,q3⟩:=hgood ha0
   rw[q2,q3,Int.toNat_natCast]
   have hlen:∀u:AT,(S++[u]).length=S.length+1:=λu=>by simp
   refine⟨⟨by omega,by rw[hlen];omega⟩,by rw[z01 z0y,hlen];show 0+S.length*10+7+1<=_;omega,⟨[{t with sz:=zs.n}],adE S e5,S.length⟩,rfl,by show(S++[_]).length=_;rw[hlen,hlen],rfl,zpx S t zs.n,⟨⟨by rw[hlen];omega,λ_=>⟨e0,λz hz=> ?_⟩⟩,λ_=>⟨by show 0<=(S.length:Int);omega,by rw[hlen];show(S.length:Int)<_;omega⟩⟩,λq hq z hz=> ?_⟩
   ·simp at hz;subst hz;subst hte
    exact⟨by show 1<=k/\k<=14;omega,λh=>(by have h:k=12\/k=13:=h;omega),λb hb=>(by cases hb),λh=>(by have h:k=14:=h;omega),λf hf=>(by cases hf),λh=>(by have h:k=10:=h;omega),λ_=>⟨by show 0<=zs.n;omega,by show zs.n<=5000;omega⟩,Nat.zero_le _,Nat.zero_le _,Nat.zero_le _⟩
   ·simp at hz;subst hz
    have ho:=hto q (hal q hq.2)
    exact⟨ho.1,ho.2.1,ho.2.2.1,ho.2.2.2.1,ho.2.2.2.2⟩
def vM(v:GV):PF:=⟨true,v.ok,λ_ _ h e=>GV.ok_mono h e⟩
def svM(S:List AT) (x:SV) (v:GV):PF:=⟨true,λp=>z09 S x p/\v.ok p,λ_ _ h e=>⟨z0t h e.1,GV.ok_mono h e.2⟩⟩
def j6f(S:List AT) (x:SV) (a:AT) (v:GV):PF:=⟨true,λp=>z09 S x p/\a.ok p/\v.ok p,λ_ _ h e=>⟨z0t h e.1,AT.ok_mono h e.2.1,GV.ok_mono h e.2.2⟩⟩
abbrev scA(x:SV):AV:= .agg [svA x]
def ctP(σ:Type) (args:σ->List AV) (pre:σ->Prop) (mem:σ->PF) (r:σ->AV):Ct where
 σ:=σ
 args:=args
 h:=λ_=>[]
 m:=1
 pre:=pre
 mem:=mem
 r:=r
 h':=λ_=>[]
 m':=1
 g:=λ_=>none
abbrev FpS:=List AT×SV×AT×GV
abbrev FtS:=List AT×SV×Int×GV
section
def zcl(n:Int):IntKind.wrap .u64 n=n % 18446744073709551616:=by
 simp[IntKind.wrap,IntKind.bits,IntKind.signed]
variable {ks:List ByteArray} {p:Pub}
def zkh{y:SV} (h:slP txV y ks p) {i:Nat} (hi:i<ks.length):y.1≠noA/\q3i p (adr y.1 (i*1)) [.string ks[i]]:=z0b z0s (by decide) h hi
variable {j:Nat}
def zax(h:j+1<ks.length):z3w (ks.drop j)=(vld (ks[j]'(by omega))&&qeq (ks[j]'(by omega)) ks[j+1]&&z3w (ks.drop (j+1))):=by
 rw[List.drop_eq_getElem_cons (by omega),List.drop_eq_getElem_cons h,z3w]
def z7q:∀{ks:List ByteArray} {i:Nat} (hi:i<ks.length),vld ks[i]=false->z3w ks=false
 | [k],0,_,h=>by rw[z3w];exact h
 |k::j::l,0,_,h=>by rw[z3w];simp at h;rw[h];rfl
 |k::j::l,i+1,hi,h=>by rw[z3w,z7q (ks:=j::l) (i:=i) (by simpa using hi) (by simpa using h),Bool.and_false]
variable {l:List GV}
def zpm(h:j<l.length):(GV.pvs l)[j]'(by rw[GV.pvs_len];exact h)=(l[j]).pv:=by simp[GV.pvs_map]
def zka(h:j<l.length):SizeOf.sizeOf l[j]<SizeOf.sizeOf l:=List.sizeOf_lt_of_mem (List.getElem_mem h)
variable {S:List AT}
def zak{f:Nat->Int} {l:List PV} (h:j<l.length):PV.fitL S f j (l.drop j)=(PV.fits S (f j) l[j]&&PV.fitL S f (j+1) (l.drop (j+1))):=by
 rw[List.drop_eq_getElem_cons h,PV.fitL]
def zap{a:AT} (h:a.ok p) {j:Nat} (hj:j<a.fs.length):a.f.1≠noA/\q3i p (adr a.f.1 (j*9)) a.fs[j].cells:=z0b z3f (by decide) h.2.2.1 hj
def z7e{a:AT} (h:a.ok p) {j:Nat} (hj:j<a.brs.length):a.br.1≠noA/\q3i p (adr a.br.1 (j*1)) [.int .i64 a.brs[j]]:=z0b z1b (by decide) h.2.2.2.1 hj
def zc1{x:SV} (h:z09 S x p) {j:Nat} (hj:j<S.length):x.1≠noA/\q3i p (adr x.1 (j*10)) S[j].cells:=z0b z0y (by decide) h.1 hj
def zjm{s:ByteArray}:s=mkS []↔s.size=0:=⟨λh=>by rw[h];rfl,λh=>by
 apply ByteArray.ext
 apply Array.ext
 ·exact h
 ·intro i h1 h2;exact absurd h2 (by show¬i<0;omega)⟩
end
def z25:∀n,q1v P 28 (z1i.below z4i n)
 |0=>CtR.below_zero (by decide) (by decide) (Sen.enters_of Try.func28 (by kernel_rfl)) λs=>rfl
 |n+1=>zfp n (z25 n) (zc3 n (z25 n)) (zb8 n (z8u n (z25 n)))
def zbz:q1v P 28 z1i:=CtR.of_below z25
def z0c(S:List AT):Prop:=S.length<=60/\∀a∈S,z1f S.length a
def za6:CtR where
 σ:=GJ
 args:=λg=>[g.av]
 h:=λ_=>[]
 m:=1
 pre:=λg=>g.wf
 mem:=gM
 β:=λ_=>List AT×SV×Int
 post:=λg ⟨S,x,e⟩=>z0c S/\(e=0->S≠[])
 pm:=λ_ ⟨S,x,e⟩=>⟨true,z09 S x,λ_ _ h e=>z0t h e⟩
 r:=λ_ ⟨S,x,e⟩=> .tup [scA x, .sv (.int .i64 e)]
 h':=λ_ _=>[]
 m':=1
def zi7:GJ->WayF:=λg=>{pubE:=[23]}
def z0f(l:List Int) (t:Int):Int:=if t<0\/l.length<=t then -1 else l.getD t.toNat 0
def lbP(l:List Int) (brs:List Int):Nat->Int
  |0=> -1
  | i+1=>
    let b:=lbP l brs i
    let r:=z0f l (brs.getD i 0)
    if r≠ -1/\(b= -1\/r<z0f l (brs.getD b.toNat 0))then i else b
def lbF(l:List Int) (a:AT):Int:=lbP l a.brs a.brs.length
def z3x(l:List Int) (fs:List AF):Nat->Option Int
  |0=>some 0
  | i +1=>match z3x l fs i with
    |none=>none
    | some m=>match fs[i]? with
      |none=>none
      |some f=>if z0f l f.ty= -1 then none else some (max m (z0f l f.ty))
def rkF(l:List Int) (a:AT):Int:=
 if a.k=9 then(match z3x l a.fs a.fs.length with
  |none=> -1
  |some m=>m+1)else
 if a.k=14 then(if lbF l a≠ -1 then z0f l (a.brs.getD (lbF l a).toNat 0)+1 else -1)else
 if a.k<1\/14<a.k then -1 else 0
def z2x(l:List Int) (n:Nat):Prop:=l.length<=1000/\∀r∈l, -1<=r/\r<=n
def rlO(l:List Int):List (Nat×AO):=[(1, .row 3 0 (z00 inV l))]
def cRk(σ:Type) (args:σ->List AV) (h:σ->List (Nat×AO)) (pre:σ->Prop) (mem:σ->PF) (r:σ->AV):Ct where
 σ:=σ
 args:=args
 h:=h
 m:=2
 pre:=pre
 mem:=mem
 r:=r
 h':=h
 m':=2
 g:=λ_=>none
def zxi(k:Nat) (l:List AV):Bool:=match l[k]? with
 |some (.msl _ _ _)=>true
 |_=>false
def zvb:Ct:=cRk (List Int×Int) (λ⟨l,t⟩=>[.msl 1 l.length 1, .sv (.int .i64 t)]) (λ⟨l,t⟩=>rlO l) (λ⟨l,t⟩=>z2x l 1000000) (λ_=>{}) λ⟨l,t⟩=> .sv (.int .i64 (z0f l t))
def inM(y:SV) (l:List Int):PF:=⟨true,λp=>slP inV y l p,λ_ _ h e=>z0a h e⟩
def zvc:Ct:=cRk (SV×List Int×Int) (λ⟨y,l,t⟩=>[svA y, .sv (.int .i64 t)]) (λ_=>[]) (λ⟨y,l,t⟩=>z2x l 1000000) (λ⟨y,l,t⟩=>inM y l) λ⟨y,l,t⟩=> .sv (.int .i64 (z0f l t))
def cAt:Ct:=Ct.or zvb zvc (zxi 0)
def aM(a:AT):PF:=⟨true,λp=>a.ok p,λ_ _ h e=>AT.ok_mono h e⟩
def aiM(a:AT) (y:SV) (l:List Int):PF:=⟨true,λp=>a.ok p/\slP inV y l p,λ_ _ h e=>⟨AT.ok_mono h e.1,z0a h e.2⟩⟩
def zuh:Ct:=cRk (AT×List Int) (λ⟨a,l⟩=>[a.av, .msl 1 l.length 1]) (λ⟨a,l⟩=>rlO l) (λ⟨a,l⟩=>z2x l 1000000/\a.brs.length<=1000) (λ⟨a,l⟩=>aM a) λ⟨a,l⟩=> .sv (.int .i64 (lbF l a))
def zui:Ct:=cRk (AT×SV×List Int) (λ⟨a,y,l⟩=>[a.av,svA y]) (λ_=>[]) (λ⟨a,y,l⟩=>z2x l 1000000/\a.brs.length<=1000) (λ⟨a,y,l⟩=>aiM a y l) λ⟨a,y,l⟩=> .sv (.int .i64 (lbF l a))
def cLb:Ct:=Ct.or zuh zui (zxi 1)
def zxc(a:AT) (l:List Int):LT:={σ:=Nat,pre:=λi=>i<=a.brs.length,t:=λi=>[(12, .sv (.int .i64 (i:Nat))),(5, .sv (.int .i64 (lbP l a.brs i)))],h:=λ_=>[],more:=0,μ:=λi=>a.brs.length- i,keep:=[1,2,10,11]}
def zxm:zuh.σ->WayF:=λ⟨a,l⟩=>{ann:=λ_ _ _=>some (zxc a l)}
def zxn:zui.σ->WayF:=λ⟨a,y,l⟩=>{ann:=λ_ _ _=>some (zxc a l)}
def zdu:Ct:=cRk (AT×List Int) (λ⟨a,l⟩=>[a.av, .msl 1 l.length 1]) (λ⟨a,l⟩=>rlO l) (λ⟨a,l⟩=>z2x l 1000000/\a.brs.length<=1000/\a.fs.length<=1000) (λ⟨a,l⟩=>aM a) λ⟨a,l⟩=> .sv (.int .i64 (rkF l a))
def zqb:zdu.σ->WayF:=λ⟨a,l⟩=>{ann:=λ_ _ _=>some {σ:=Nat×Int,pre:=λ⟨i,m⟩=>i<=a.fs.length/\z3x l a.fs i=some m,t:=λ⟨i,m⟩=>[(17, .sv (.int .i64 (i:Nat))),(5, .sv (.int .i64 m))],h:=λ_=>[],more:=0,μ:=λ⟨i,m⟩=>a.fs.length- i,keep:=[1,2,15,16]}}
def told(S:List AT) (l:List Int) (t:Nat):Bool:=match S[t]? with
 |some a=>decide (l.getD t 0= -1)&&decide (rkF l a≠ -1)
 |none=>false
def rkS(S:List AT) (l:List Int) (t:Nat):Int:=match S[t]? with
 |some a=>rkF l a
 |none=> -1
def esF(S:List AT) (l:List Int):Nat->List MapEntry
 |0=>[]
 |i+1=>if told S l i=true then esF S l i++[⟨.int .i64 (i:Nat), .int .i64 (rkS S l i),(esF S l i).length⟩]else esF S l i
def z68(l:List Int):Nat:=(l.filter λr=>decide (r= -1)).length
def rkR(S:List AT) (l:List Int):Prop:=l.length=S.length/\z2x l (S.length- z68 l)/\∀(t:Nat) (a:AT),S[t]? =some a->l.getD t 0≠ -1->0<=l.getD t 0/\(1<=a.k/\a.k<=14)/\(a.k=9->∀f∈a.fs,z0f l f.ty≠ -1/\z0f l f.ty<l.getD t 0)/\(a.k=14->∃b∈a.brs,z0f l b≠ -1/\z0f l b<l.getD t 0)
def rkE(S:List AT) (l:List Int):Prop:=rkR S l/\∀(t:Nat) (a:AT),S[t]? =some a->l.getD t 0= -1->rkF l a= -1
def zi2(S:List AT) (l:List Int) (seen:List Nat) (l':List Int):Prop:=l'.length=S.length/\∀t,t<S.length->(l'.getD t 0=l.getD t 0/\∀e∈esF S l S.length,e.key= .int .i64 (t:Nat)->e.born∉seen)\/(l'.getD t 0=rkS S l t/\told S l t=true)
def z40(es:List MapEntry) (seen:List Nat):Nat:=(es.filter λe=>decide (e.born∉seen)).length
def zpj(t:T AV) (k:Nat):Option Nat:=match t.get k with
 |some (.msl id _ _)=>some id
 |_=>none
def zxh(t:T AV) (k:Nat):Option Nat:=match t.get k with
 |some (.map id)=>some id
 |_=>none
def zvf(t:T AV) (k:Nat):Option Nat:=match t.get k with
 |some (.ptr id _)=>some id
 |_=>none
def scM(S:List AT) (x:SV):PF:=⟨true,λp=>z09 S x p,λ_ _ h e=>z0t h e⟩
def unI(v:Value):Int:=match v with
 | .int _ n=>n
 |_=>0
def zxj(h:T AO) (id:Option Nat):Option (Nat×List Value):=match id with
  | some i=>match h.get i with
    |some (.row _ _ vs)=>some (i,vs)
    |_=>none
  |none=>none
def z5n:CtR where
 σ:=List AT×SV
 args:=λ⟨S,x⟩=>[scA x]
 h:=λ_=>[]
 m:=1
 pre:=λ⟨S,x⟩=>z0c S
 mem:=λ⟨S,x⟩=>scM S x
 β:=λ_=>List Int×SV
 post:=λ⟨S,x⟩ ⟨l,y⟩=>rkE S l
 pm:=λ_ ⟨l,y⟩=>inM y l
 r:=λ_ ⟨l,y⟩=>svA y
 h':=λ_ _=>[]
 m':=1
def zic:z5n.σ->WayF:=λ⟨S,x⟩=>{
  pubE:=[2]
  ann :=λid tt hh=>match id with
    | 0=>match zpj tt 3 with
      |some rb=>some {σ:=Nat×List Int,pre:=λ⟨i,l⟩=>i<=S.length/\l.length=S.length/\∀j,j<i->l.getD j 0= -1,t:=λ⟨i,l⟩=>[(17, .sv (.int .i64 (i:Nat)))],h:=λ⟨i,l⟩=>[(rb, .row 3 0 (z00 inV l))],more:=0,μ:=λ⟨i,l⟩=>S.length- i,keep:=[1,3,16]}
      |none=>none
    | 2=>match zpj tt 3 with
      |some rb=>some {σ:=List Int,pre:=λl=>rkR S l,t:=λ_=>[],h:=λl=>[(rb, .row 3 0 (z00 inV l))],more:=0,μ:=λl=>z68 l,keep:=[1,3]}
      |none=>none
    | 4=>match zxh tt 5,zxj hh (zpj tt 3)with
      |some mb,some (rb,vs)=>some {σ:=Nat,pre:=λi=>i<=S.length,t:=λi=>[(28, .sv (.int .i64 (i:Nat)))],h:=λi=>[(mb, .mrow (esF S (vs.map unI) i) (esF S (vs.map unI) i).length)],more:=0,μ:=λi=>S.length- i,keep:=[1,3,5,26,27]}
      |_,_=>none
    | 6=>match zxh tt 5,zxj hh (zpj tt 3),zvf tt 54 with
      |some mb,some (rb,vs),some ib=>some {σ:=List Nat×List Int,pre:=λ⟨seen,l'⟩=>zi2 S (vs.map unI) seen l',t:=λ_=>[],h:=λ⟨seen,l'⟩=>[(ib, .iter mb (esF S (vs.map unI) S.length).length seen (esF S (vs.map unI) S.length).length),(rb, .row 3 0 (z00 inV l'))],more:=0,μ:=λ⟨seen,l'⟩=>z40 (esF S (vs.map unI) S.length) seen,keep:=[1,3,5,54]}
      |_,_,_=>none
    |_=>none}
def zp2(l:List Int) (t:Int):qla P (λ_=>none) Try.f18 zvb (λ_=>{}) ⟨l,t⟩=(z2x l (1000000:Nat)->(decide (t<(0:Int))=true->z0f l t=(-1:Int)/\z00 inV l=z00 inV l/\True)/\(decide (t<(0:Int))=false->(decide ((↑(length l):Int)<=t)=true->z0f l t=(-1:Int)/\z00 inV l=z00 inV l/\True)/\(decide ((↑(length l):Int)<=t)=false->((0:Int)<=t/\t<(↑(length l):Int))/\∃(n:Int),(∀(j:Nat) (v:Value),[int i64 n][j]? =some v->(z00 inV l)[(0:Nat)+toNat t*nat_lit 1+j]? =some v)/\z0f l t=n/\z00 inV l=z00 inV l/\True))):=by kernel_rfl
def zp4(y:SV) (l:List Int) (t:Int):qla P (λ_=>none) Try.f18 zvc (λ_=>{}) ⟨y,l,t⟩=(z2x l (1000000:Nat)->(∃(p:Nat->Option Obj),True/\slP inV y l p)->(decide (t<(0:Int))=true->z0f l t=(-1:Int)/\True)/\(decide (t<(0:Int))=false->(decide ((↑(Prod.fst (Prod.snd y)):Int)<=t)=true->z0f l t=(-1:Int)/\True)/\(decide ((↑(Prod.fst (Prod.snd y)):Int)<=t)=false->((0:Int)<=t/\t<(↑(Prod.fst (Prod.snd y)):Int))/\Prod.fst y≠noA/\∃(n:Int),(∀(p:Nat->Option Obj),True/\slP inV y l p->q3i p (adr (Prod.fst y) (toNat t*(1:Nat))) [int i64 n])/\z0f l t=n/\True))):=by kernel_rfl
section
variable (x0:List Int) (x1:AT) (x2:Nat) (x3:List Int×Int) (x4:Prop) (x5:Nat)
 abbrev zox:=(↑(AT.br x1).2.1:Int)
 def zgq:=length x0=length x0/\(zox x1)=(zox x1)/\x4
 def zuz:=(AT.br x1).1=(AT.br x1).1/\(AT.br x1).2.1=(AT.br x1).2.1/\(AT.br x1).2.2=(AT.br x1).2.2/\x4
 def zw9:=AT.k x1=AT.k x1/\AT.nm x1=AT.nm x1/\(AT.al x1).1=(AT.al x1).1/\(AT.al x1).2.1=(AT.al x1).2.1/\(AT.al x1).2.2=(AT.al x1).2.2/\AT.it x1=AT.it x1/\(AT.sy x1).1=(AT.sy x1).1/\(AT.sy x1).2.1=(AT.sy x1).2.1/\(AT.sy x1).2.2=(AT.sy x1).2.2/\AT.hd x1=AT.hd x1/\AT.df x1=AT.df x1/\AT.sz x1=AT.sz x1/\(AT.f x1).1=(AT.f x1).1/\(AT.f x1).2.1=(AT.f x1).2.1/\(AT.f x1).2.2=(AT.f x1).2.2/\zuz x1 ((∀i0,True/\AT.ok x1 i0->True/\AT.ok x1 i0)/\x2<=length (AT.brs x1)/\x4)
 abbrev zm6:=Jb ((↑x2:Int)+1)
 def zm5:=(↑x2:Int)=(↑x5:Int)+1/\zuz x1 (z00 inV x0=z00 inV x3.1/\zw9 x1 x2 (length (AT.brs x1)- x2<length (AT.brs x1)- x5/\True))
 def zw8:=zm6 x2/\∃(i0:Nat),zgq x0 x1 (lbP x0 (AT.brs x1) i0=(↑x2:Int)/\zm5 x0 x1 i0 x3 x2)
 def zw7:=zm6 x2/\∃(i0:Nat),zgq x0 x1 (lbP x0 (AT.brs x1) i0=lbP x0 (AT.brs x1) x2/\zm5 x0 x1 i0 x3 x2)
 def j1i:=(0<=lbP x0 (AT.brs x1) x2/\lbP x0 (AT.brs x1) x2<(zox x1))/\(AT.br x1).1≠noA/\∃(i0:Int),(∀i1,True/\AT.ok x1 i1->q3i i1 (adr (AT.br x1).1 (toNat (lbP x0 (AT.brs x1) x2)*1)) [int i64 i0])/\∃(i2:List Int×Int),length i2.1=length x0/\i2.2=i0/\z00 inV i2.1=z00 inV x3.1/\z2x i2.1 1000000/\Ji (z0f x3.1 x3.2<z0f i2.1 i2.2) (zw8 x0 x1 x2 i2) (zw7 x0 x1 x2 i2)
 def j1h:=Ji (lbP x0 (AT.brs x1) x2= -1) (zw8 x0 x1 x2 x3) (j1i x0 x1 x2 x3)
 def j1g:=(0<=(↑x2:Int)/\(↑x2:Int)<(zox x1))/\(AT.br x1).1≠noA/\∃(i0:Int),(∀i1,True/\AT.ok x1 i1->q3i i1 (adr (AT.br x1).1 (toNat (↑x2:Int)*1)) [int i64 i0])/\∃(i2:List Int×Int),length i2.1=length x0/\i2.2=i0/\z00 inV i2.1=z00 inV x0/\z2x i2.1 1000000/\((!decide (z0f i2.1 i2.2= -1))=true->j1h x0 x1 x2 i2)/\((!decide (z0f i2.1 i2.2= -1))=false->zw7 x0 x1 x2 i2)
 def j1f:=Ji ((↑x2:Int)<(zox x1)) (j1g x0 x1 x2) (lbF x0 x1=lbP x0 (AT.brs x1) x2/\z00 inV x0=z00 inV x0/\True)
 def j1e:=(∃(i0:Nat),zgq x0 x1 (lbP x0 (AT.brs x1) i0= -1/\(↑i0:Int)=0/\zuz x1 (z00 inV x0=z00 inV x0/\zw9 x1 i0 True)))/\∀(i2:Nat),i2<=length (AT.brs x1)->j1f x0 x1 i2
end
def zjg(a:AT) (l:List Int):qla P (qgc [(18,cAt)]) Try.f33 zuh (zxm) ⟨a,l⟩=(z2x l 1000000/\length (AT.brs a)<=1000->(∃(p:Pub),True/\AT.ok a p)->j1e l a):=by kernel_rfl
def zpe:=λa l=>Eq.trans (zjg a l) (by delta Ji Jb Jt Jf zox zgq zuz zw9 zm6 zm5 zw8 zw7 j1i j1h j1g j1f j1e;exact rfl)
section
variable (x0:SV) (x1:AT) (x2:List Int) (x3:Nat) (x4:(Option Addr×Nat×Nat)×List Int×Int) (x5:Prop) (x6:Int) (x7:Nat)
 abbrev z9i:=(↑(AT.br x1).2.1:Int)
 def zv0:=x0.1=x0.1/\x0.2.1=x0.2.1/\x0.2.2=x0.2.2/\(z9i x1)=(z9i x1)/\x5
 def zm7:=(AT.br x1).1=(AT.br x1).1/\(AT.br x1).2.1=(AT.br x1).2.1/\(AT.br x1).2.2=(AT.br x1).2.2/\x5
 def zwc:=zm7 x1 (AT.k x1=AT.k x1/\AT.nm x1=AT.nm x1/\(AT.al x1).1=(AT.al x1).1/\(AT.al x1).2.1=(AT.al x1).2.1/\(AT.al x1).2.2=(AT.al x1).2.2/\AT.it x1=AT.it x1/\(AT.sy x1).1=(AT.sy x1).1/\(AT.sy x1).2.1=(AT.sy x1).2.1/\(AT.sy x1).2.2=(AT.sy x1).2.2/\AT.hd x1=AT.hd x1/\AT.df x1=AT.df x1/\AT.sz x1=AT.sz x1/\(AT.f x1).1=(AT.f x1).1/\(AT.f x1).2.1=(AT.f x1).2.1/\(AT.f x1).2.2=(AT.f x1).2.2/\zm7 x1 ((∀i0,True/\AT.ok x1 i0/\slP inV x0 x2 i0->True/\AT.ok x1 i0/\slP inV x0 x2 i0)/\x3<=length (AT.brs x1)/\x5))
 def zwd:=x4.1.1=x0.1/\x4.1.2.1=x0.2.1/\x4.1.2.2=x0.2.2/\x4.2.2=x6/\z2x x4.2.1 1000000/\(∀i0,True/\AT.ok x1 i0/\slP inV x0 x2 i0->slP inV x4.1 x4.2.1 i0)/\x5
 abbrev zm8:=Jb ((↑x3:Int)+1)
 def zm9:=(↑x3:Int)=(↑x7:Int)+1/\zwc x0 x1 x2 x3 (length (AT.brs x1)- x3<length (AT.brs x1)- x7/\True)
 def zwb:=zm8 x3/\∃(i0:Nat),zv0 x0 x1 (lbP x2 (AT.brs x1) i0=(↑x3:Int)/\zm9 x0 x1 x2 i0 x3)
 def zwa:=zm8 x3/\∃(i0:Nat),zv0 x0 x1 (lbP x2 (AT.brs x1) i0=lbP x2 (AT.brs x1) x3/\zm9 x0 x1 x2 i0 x3)
 def j1n:=(0<=lbP x2 (AT.brs x1) x3/\lbP x2 (AT.brs x1) x3<(z9i x1))/\(AT.br x1).1≠noA/\∃(i0:Int),(∀i1,True/\AT.ok x1 i1/\slP inV x0 x2 i1->q3i i1 (adr (AT.br x1).1 (toNat (lbP x2 (AT.brs x1) x3)*1)) [int i64 i0])/\∃(i2:(Option Addr×Nat×Nat)×List Int×Int),zwd x0 x1 x2 i2 (Ji (z0f x4.2.1 x4.2.2<z0f i2.2.1 i2.2.2) (zwb x0 x1 x2 x3) (zwa x0 x1 x2 x3)) i0
 def j1m:=Ji (lbP x2 (AT.brs x1) x3= -1) (zwb x0 x1 x2 x3) (j1n x0 x1 x2 x3 x4)
 def j1l:=(0<=(↑x3:Int)/\(↑x3:Int)<(z9i x1))/\(AT.br x1).1≠noA/\∃(i0:Int),(∀i1,True/\AT.ok x1 i1/\slP inV x0 x2 i1->q3i i1 (adr (AT.br x1).1 (toNat (↑x3:Int)*1)) [int i64 i0])/\∃(i2:(Option Addr×Nat×Nat)×List Int×Int),zwd x0 x1 x2 i2 (((!decide (z0f i2.2.1 i2.2.2= -1))=true->j1m x0 x1 x2 x3 i2)/\((!decide (z0f i2.2.1 i2.2.2= -1))=false->zwa x0 x1 x2 x3)) i0
 def j1k:=Ji ((↑x3:Int)<(z9i x1)) (j1l x0 x1 x2 x3) (lbF x2 x1=lbP x2 (AT.brs x1) x3/\True)
 def j1j:=(∃(i0:Nat),zv0 x0 x1 (lbP x2 (AT.brs x1) i0= -1/\(↑i0:Int)=0/\zwc x0 x1 x2 i0 True))/\∀(i2:Nat),i2<=length (AT.brs x1)->j1k x0 x1 x2 i2
end
def zen(a:AT) (y:SV) (l:List Int):qla P (qgc [(18,cAt)]) Try.f33 zui (zxn) ⟨a,y,l⟩=(z2x l 1000000/\length (AT.brs a)<=1000->(∃(p:Pub),True/\AT.ok a p/\slP inV y l p)->j1j y a l):=by kernel_rfl
def zjh:=λa y l=>Eq.trans (zen a y l) (by delta Ji Jb Jt Jf z9i zv0 zm7 zwc zwd zm8 zm9 zwb zwa j1n j1m j1l j1k j1j;exact rfl)
section
variable (x0:AT) (x1:List Int) (x2:Nat×Int) (x3:List Int×Int) (x4:Prop) (x5:AT×List Int)
 abbrev zv1:=(AT.f x0).1=(AT.f x0).1/\(AT.f x0).2.1=(AT.f x0).2.1/\(AT.f x0).2.2=(AT.f x0).2.2/\x4
 abbrev z6y:=(↑(AT.f x0).2.1:Int)
 def zwe:=AT.k x0=AT.k x0/\AT.nm x0=AT.nm x0/\(AT.al x0).1=(AT.al x0).1/\(AT.al x0).2.1=(AT.al x0).2.1/\(AT.al x0).2.2=(AT.al x0).2.2/\AT.it x0=AT.it x0/\(AT.sy x0).1=(AT.sy x0).1/\(AT.sy x0).2.1=(AT.sy x0).2.1/\(AT.sy x0).2.2=(AT.sy x0).2.2/\AT.hd x0=AT.hd x0/\AT.df x0=AT.df x0/\AT.sz x0=AT.sz x0/\zv1 x0 ((AT.br x0).1=(AT.br x0).1/\(AT.br x0).2.1=(AT.br x0).2.1/\(AT.br x0).2.2=(AT.br x0).2.2/\(∀i0,True/\AT.ok x0 i0->True/\AT.ok x0 i0)/\(x2.1<=length (AT.fs x0)/\z3x x1 (AT.fs x0) x2.1=some x2.2)/\x4)
 abbrev j1t:=Jb ((↑x2.1:Int)+1)/\∃(i0:Nat×Int),length x1=length x1/\zv1 x0 ((i0.2=if z0f x3.1 x3.2>x2.2 then z0f x3.1 x3.2 else x2.2)/\(↑i0.1:Int)=(↑x2.1:Int)+1/\(z6y x0)=(z6y x0)/\z00 inV x1=z00 inV x3.1/\zwe x0 x1 i0 (length (AT.fs x0)- i0.1<length (AT.fs x0)- x2.1/\True))
 def j1r:=(0<=(↑x2.1:Int)/\(↑x2.1:Int)<(z6y x0))/\(AT.f x0).1≠noA/\∃i0,∃i1,∃(i2:Nat),∃(i3:Nat),∃(i4:Int),∃(i5:Bool),∃(i6:Int),∃(i7:Int),∃i8,∃i9,∃(i10:Nat),∃(i11:Nat),∃i12,∃(i13:Nat),∃(i14:Nat),(∀i15,True/\AT.ok x0 i15->q3i i15 (adr (AT.f x0).1 (toNat (↑x2.1:Int)*9)) [string i0,slice i1 i2 i3,int i64 i4,bool i5,int i64 i6,int i64 i7,string i8,slice i9 i10 i11,slice i12 i13 i14])/\∃(i16:List Int×Int),length i16.1=length x1/\i16.2=i4/\z00 inV i16.1=z00 inV x1/\z2x i16.1 1000000/\Ji (z0f i16.1 i16.2= -1) (rkF x1 x0= -1/\z00 inV x1=z00 inV i16.1/\True) (j1t x0 x1 x2 i16)
 def zsd:=Jb (x2.2+1)/\rkF x1 x0=x2.2+1/\z00 inV x1=z00 inV x1/\True
 def j1q:=Ji ((↑x2.1:Int)<(z6y x0)) (j1r x0 x1 x2) (zsd x0 x1 x2)
 def j1p:=(∃(i0:Nat×Int),length x1=length x1/\zv1 x0 (i0.2=0/\(↑i0.1:Int)=0/\(z6y x0)=(z6y x0)/\z00 inV x1=z00 inV x1/\zwe x0 x1 i0 True))/\∀(i2:Nat×Int),i2.1<=length (AT.fs x0)/\z3x x1 (AT.fs x0) i2.1=some i2.2->j1q x0 x1 i2
 def j1u:=(0<=lbF x5.2 x5.1/\lbF x5.2 x5.1<(↑(AT.br x0).2.1:Int))/\(AT.br x0).1≠noA/\∃(i0:Int),(∀i1,True/\AT.ok x0 i1->q3i i1 (adr (AT.br x0).1 (toNat (lbF x5.2 x5.1)*1)) [int i64 i0])/\∃(i2:List Int×Int),length i2.1=length x1/\i2.2=i0/\z00 inV i2.1=z00 inV x5.2/\z2x i2.1 1000000/\Jb (z0f i2.1 i2.2+1)/\rkF x1 x0=z0f i2.1 i2.2+1/\z00 inV x1=z00 inV i2.1/\True
 def zma:=rkF x1 x0= -1/\z00 inV x1=z00 inV x1/\True
 def zsc:=Ji (14<AT.k x0) (zma x0 x1) (rkF x1 x0=0/\z00 inV x1=z00 inV x1/\True)
 def j1v:=Ji (AT.k x0<1) (zma x0 x1) (zsc x0 x1)
 def j1s:=Ji (AT.k x0=14) (∃(i0:AT×List Int),AT.k i0.1=AT.k x0/\AT.nm i0.1=AT.nm x0/\(AT.al i0.1).1=(AT.al x0).1/\(AT.al i0.1).2.1=(AT.al x0).2.1/\(AT.al i0.1).2.2=(AT.al x0).2.2/\AT.it i0.1=AT.it x0/\(AT.sy i0.1).1=(AT.sy x0).1/\(AT.sy i0.1).2.1=(AT.sy x0).2.1/\(AT.sy i0.1).2.2=(AT.sy x0).2.2/\AT.hd i0.1=AT.hd x0/\AT.df i0.1=AT.df x0/\AT.sz i0.1=AT.sz x0/\(AT.f i0.1).1=(AT.f x0).1/\(AT.f i0.1).2.1=(AT.f x0).2.1/\(AT.f i0.1).2.2=(AT.f x0).2.2/\(AT.br i0.1).1=(AT.br x0).1/\(AT.br i0.1).2.1=(AT.br x0).2.1/\(AT.br i0.1).2.2=(AT.br x0).2.2/\length i0.2=length x1/\z00 inV i0.2=z00 inV x1/\(z2x i0.2 1000000/\length (AT.brs i0.1)<=1000)/\(∀i1,True/\AT.ok x0 i1->AT.ok i0.1 i1)/\((!decide (lbF i0.2 i0.1= -1))=true->j1u x0 x1 i0)/\((!decide (lbF i0.2 i0.1= -1))=false->rkF x1 x0= -1/\z00 inV x1=z00 inV i0.2/\True)) (j1v x0 x1)
 def j1o:=Ji (AT.k x0=9) (j1p x0 x1) (j1s x0 x1)
end
def z91(a:AT) (l:List Int):qla P (qgc [(18,cAt),(33,cLb)]) Try.f31 zdu (zqb) ⟨a,l⟩=(z2x l 1000000/\length (AT.brs a)<=1000/\length (AT.fs a)<=1000->(∃(p:Pub),True/\AT.ok a p)->j1o a l):=by kernel_rfl
def zbg:=λa l=>Eq.trans (z91 a l) (by delta Ji Jb Jt Jf zv1 z6y zwe j1t j1r zsd j1q j1p j1u zma zsc j1v j1s j1o;exact rfl)
section
variable (x0:SV) (x1:List AT) (x2:Nat×List Int) (x3:List Int) (x4:Nat) (x5:AT×List Int) (x6:List Nat×List Int) (x7:MapEntry) (x8 x9:Int) (x10:Prop) (x11:Nat->Option Obj) (x12 x13:Nat)
 abbrev z16:=(↑x0.2.1:Int)
 def z49:=toNat (z16 x0)=toNat (z16 x0)
 abbrev z5a:=(↑(toNat (z16 x0)):Int)
 def z2j:=x0.1=x0.1/\x0.2.1=x0.2.1/\x0.2.2=x0.2.2/\x10
 def z59:=(∀i0,True/\z09 x1 x0 i0->True/\z09 x1 x0 i0)
 def zgr:=x2.1<=length x1/\length x2.2=length x1/\∀(i0:Nat),i0<x2.1->List.getD x2.2 i0 (0:Int)= -1
 def zsi:=(0<=(↑x2.1:Int)/\(↑x2.1:Int)<(z5a x0))/\(0:Nat)+toNat (↑x2.1:Int)*nat_lit 1+length [int i64 (-1:Int)]<=length (z00 inV x2.2)/\Jb ((↑x2.1:Int)+1)/\∃(i0:Nat×List Int),z49 x0/\(↑i0.1:Int)=(↑x2.1:Int)+1/\(z5a x0)=(z5a x0)/\z2j x0 (z00 inV i0.2=spl (z00 inV x2.2) ((0:Nat)+toNat (↑x2.1:Int)*nat_lit 1) [int i64 (-1:Int)]/\z59 x0 x1/\(zgr x1 i0)/\length x1- i0.1<length x1- x2.1/\True)
 abbrev z13:=esF x1 (List.map unI (z00 inV x3)) x4
 abbrev zmd:=Jb ((↑x4:Int)+1)
 def zsg:=kOK (TypeDesc.int i64) (int i64 (↑x4:Int))/\(∀(i0:MapEntry),i0∈esF x1 (List.map unI (z00 inV x3)) x4->kOK (TypeDesc.int i64) (MapEntry.key i0))/\zmd x4/\∃(i1:Nat),z49 x0/\(z16 x0)=(z16 x0)/\(↑i1:Int)=(↑x4:Int)+1/\z2j x0 (z2j x0 (esF x1 (List.map unI (z00 inV x3)) i1=qiw (int i64 (↑x4:Int)) (int i64 (rkF x5.2 x5.1)) (z13 x1 x3 x4) (length (z13 x1 x3 x4))/\length (z13 x1 x3 i1)=qiv (int i64 (↑x4:Int)) (z13 x1 x3 x4) (length (z13 x1 x3 x4))/\z00 inV x3=z00 inV x5.2/\z59 x0 x1/\i1<=length x1/\length x1- i1<length x1- x4/\True))
 def zwf:=zmd x4/\∃(i0:Nat),z49 x0/\(z16 x0)=(z16 x0)/\(↑i0:Int)=(↑x4:Int)+1/\z2j x0 (z2j x0 (esF x1 (List.map unI (z00 inV x3)) i0=esF x1 (List.map unI (z00 inV x3)) x4/\length (z13 x1 x3 i0)=length (z13 x1 x3 x4)/\z00 inV x3=z00 inV x5.2/\z59 x0 x1/\i0<=length x1/\length x1- i0<length x1- x4/\True))
 def zsf:=((!decide (rkF x5.2 x5.1= -1))=true->zsg x0 x1 x3 x4 x5)/\((!decide (rkF x5.2 x5.1= -1))=false->zwf x0 x1 x3 x4 x5)
 def j21:=(0<=(↑x4:Int)/\(↑x4:Int)<(z16 x0))/\x0.1≠noA/\∃(i0:Int),∃i1,∃i2,∃(i3:Nat),∃(i4:Nat),∃(i5:Int),∃i6,∃(i7:Nat),∃(i8:Nat),∃(i9:Bool),∃i10,∃(i11:Int),∃i12,∃(i13:Nat),∃(i14:Nat),∃i15,∃(i16:Nat),∃(i17:Nat),(∀i18,True/\z09 x1 x0 i18->q3i i18 (adr x0.1 (toNat (↑x4:Int)*10)) [int i64 i0,string i1,slice i2 i3 i4,int i64 i5,slice i6 i7 i8,bool i9,string i10,int i64 i11,slice i12 i13 i14,slice i15 i16 i17])/\∃(i19:AT×List Int),AT.k i19.1=i0/\AT.nm i19.1=i1/\(AT.al i19.1).1=i2/\(AT.al i19.1).2.1=i3/\(AT.al i19.1).2.2=i4/\AT.it i19.1=i5/\(AT.sy i19.1).1=i6/\(AT.sy i19.1).2.1=i7/\(AT.sy i19.1).2.2=i8/\AT.hd i19.1=i9/\AT.df i19.1=i10/\AT.sz i19.1=i11/\(AT.f i19.1).1=i12/\(AT.f i19.1).2.1=i13/\(AT.f i19.1).2.2=i14/\(AT.br i19.1).1=i15/\(AT.br i19.1).2.1=i16/\(AT.br i19.1).2.2=i17/\length i19.2=toNat (z16 x0)/\z00 inV i19.2=z00 inV x3/\(z2x i19.2 1000000/\length (AT.brs i19.1)<=1000/\length (AT.fs i19.1)<=1000)/\(∀i20,True/\z09 x1 x0 i20->AT.ok i19.1 i20)/\(0<=(↑x4:Int)/\(↑x4:Int)<(z5a x0))/\∃(i21:Int),(∀(i22:Nat) (i23:Value),[int i64 i21][i22]? =some i23->(z00 inV i19.2)[(0:Nat)+toNat (↑x4:Int)*nat_lit 1+i22]? =some i23)/\Ji (i21= -1) (zsf x0 x1 x3 x4 i19) (zwf x0 x1 x3 x4 i19)
 def zmc:=(True/\z09 x1 x0 x11)/\True/\toNat (z16 x0)<=x4 / nat_lit 1/\qhu x11 (some (Addr.mk x12 x13 none)) (take (toNat (z16 x0)*nat_lit 1) (z00 inV x3))
 def zmb:=esF x1 (List.map unI (z00 inV x3)) x4=esF x1 (List.map unI (z00 inV x3)) x4/\length (z13 x1 x3 x4)=length (z13 x1 x3 x4)/\x10
 abbrev z48:=esF x1 (List.map unI (z00 inV x3)) (length x1)
 def zme:=length (z48 x1 x3)=length (z13 x1 x3 x4)/\z59 x0 x1/\zi2 x1 (List.map unI (z00 inV x3)) x6.1 x6.2/\x10
 def zsh:=(0<=x8/\x8<(z5a x0))/\(0:Nat)+toNat x8*nat_lit 1+length [int i64 x9]<=length (z00 inV x6.2)/\∃(i0:List Nat×List Int),z49 x0/\z2j x0 (zmb x1 x3 x4 (z00 inV i0.2=spl (z00 inV x6.2) ((0:Nat)+toNat x8*nat_lit 1) [int i64 x9]/\length (z48 x1 x3)=length (z48 x1 x3)/\i0.1=x6.1++[MapEntry.born x7]/\zme x0 x1 x3 x4 i0 (z40 (z48 x1 x3) i0.1<z40 (z48 x1 x3) x6.1/\True)))
 def zse:=length (z13 x1 x3 x4)=length (z13 x1 x3 x4)/\qiy (z13 x1 x3 x4)/\qlt (z13 x1 x3 x4)/\(∃(i0:MapEntry),qgu (z13 x1 x3 x4) (x6.1++[MapEntry.born x7]) i0)/\∀(i1 i2:Int) (i3:Nat),qgu (z13 x1 x3 x4) (x6.1++[MapEntry.born x7]) (MapEntry.mk (int i64 i1) (int i64 i2) i3)->zsh x0 x1 x3 x4 x6 x7 i1 i2
 def j24:=qlu (z13 x1 x3 x4) (length (z48 x1 x3))/\length (z48 x1 x3)<=length (z48 x1 x3)/\(qkd (z13 x1 x3 x4) x6.1->∃(i0:List Int),z49 x0/\z2j x0 (z00 inV i0=z00 inV x6.2/\z59 x0 x1/\rkR x1 i0/\z68 i0<z68 x3/\True))/\∀(i2:MapEntry),qkv (z13 x1 x3 x4) x6.1 i2->zse x0 x1 x3 x4 x6 i2
 def j23:=(∃(i0:List Nat×List Int),z49 x0/\z2j x0 (zmb x1 x3 x4 (z00 inV i0.2=z00 inV x3/\length (z48 x1 x3)=length (z13 x1 x3 x4)/\i0.1=[]/\zme x0 x1 x3 x4 i0 True)))/\∀(i2:List Nat×List Int),zi2 x1 (List.map unI (z00 inV x3)) i2.1 i2.2->j24 x0 x1 x3 x4 i2
 def j22:=Ji ((↑(length (z13 x1 x3 x4)):Int)=0) (∀(i0 i1 i2:Nat),(∃i3,zmc x0 x1 x3 i2 i3 i0 i1)->∃(i4:List Int×Option Addr×Nat×Nat),i4.2.1=some (Addr.mk i0 i1 none)/\i4.2.2.1=toNat (z16 x0)/\i4.2.2.2=i2 / nat_lit 1/\rkE x1 i4.1/\(∀i5,zmc x0 x1 x3 i2 i5 i0 i1->slP inV i4.2 i4.1 i5)/\True) (j23 x0 x1 x3 x4)
 def j20:=Ji ((↑x4:Int)<(z16 x0)) (j21 x0 x1 x3 x4) (j22 x0 x1 x3 x4)
 def j1z:=(∃(i0:Nat),z49 x0/\(z16 x0)=(z16 x0)/\(↑i0:Int)=0/\z2j x0 (z2j x0 (esF x1 (List.map unI (z00 inV x3)) i0=[]/\length (z13 x1 x3 i0)=nat_lit 0/\z00 inV x3=z00 inV x3/\z59 x0 x1/\i0<=length x1/\True)))/\∀(i2:Nat),i2<=length x1->j20 x0 x1 x3 i2
 def j1y:=(∃(i0:List Int),z49 x0/\z2j x0 (z00 inV i0=z00 inV x2.2/\z59 x0 x1/\rkR x1 i0/\True))/\∀(i2:List Int),rkR x1 i2->j1z x0 x1 i2
 def j1x:=Ji ((↑x2.1:Int)<(z5a x0)) (zsi x0 x1 x2) (j1y x0 x1 x2)
 def j1w:=(0<=(z16 x0)/\(z16 x0)<=(z16 x0)/\(↑(8:Nat):Int)*(z16 x0)<=140737488355328/\(z16 x0)<140737488355328)/\(∃(i0:Nat×List Int),z49 x0/\(↑i0.1:Int)=0/\(z5a x0)=(z5a x0)/\z2j x0 (z00 inV i0.2=q7s [int i64 0] (toNat (z16 x0))/\z59 x0 x1/\(zgr x1 i0)/\True))/\∀(i3:Nat×List Int),(zgr x1 i3)->j1x x0 x1 i3
end
def zbi(S:List AT) (x:SV):qlb P (qgc [(31,zdu)]) (qhg []) Try.f17 z5n (zic) ⟨S,x⟩=(z0c S->(∃(p:Pub),True/\z09 S x p)->j1w x S):=by kernel_rfl
def zf7:=λS x=>Eq.trans (zbi S x) (by delta Ji Jb Jt Jf z16 z49 z5a z2j z59 zgr zsi z13 zmd zsg zwf zsf j21 zmc zmb z48 zme zsh zse j24 j23 j22 j20 j1z j1y j1x j1w;exact rfl)
end
end Go.Proofs.Ytpdddmchffpcfaa.Wd
