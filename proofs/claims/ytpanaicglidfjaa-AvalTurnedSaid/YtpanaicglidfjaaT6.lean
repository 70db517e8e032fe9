/-
  What the functions do: contracts, and their questions answered. No condition but what its theorems ask.
-/
import Derived.Test.YtpanaicglidfjaaT5
namespace Go.Proofs.Ytpanaicglidfjaa.Wd
open Go.Proofs.Ytpanaicglidfjaa.Eng Go.Proofs.Ytpanaicglidfjaa.Sen Go.RowKit
set_option linter.defProp false
set_option linter.unusedVariables false
set_option linter.unusedSimpArgs false
set_option maxRecDepth 1000000
noncomputable section
theorem qyn{x:Addr} (h:x.spot=none) (k:Nat):(x.add k).spot=none:=by
 unfold Addr.add;split
 ·exact h
 ·rfl
theorem Pl_slA{a:Option Addr} (h:Pl a) (c l sz:Nat):Pl (slA a c l sz):=trivial
theorem q6b{p:Pub} {a:Option Addr} {c l sz:Nat} {vs us:List Value} (h:q1l p a vs) (hl:l<=c) (hlen:vs.length<=c*sz) (hu:∀(j:Nat) v,us[j]? =some v->vs[l*sz+j]? =some v):q1l p (slA a c l sz) us:=by
  have hp:Pl a:=Sen.rowP_Pl h
  cases us with
  |nil=>exact .inl ⟨rfl,Pl_slA hp c l sz⟩
  | cons u us=>
    have h0:=hu 0 u rfl
    rcases h with⟨rfl,_⟩|⟨x,rfl,hs,hc⟩
    · simp at h0
    · have hne:c≠l:=λe=>by
        subst e
        have:=(List.getElem?_eq_some_iff.mp h0).1
        omega
      refine .inr ⟨x.add (l*sz),?_,qyn hs _,λj v hj=> ?_⟩
      · unfold slA;rw[if_neg hne];rfl
      · have:=hc (l*sz+j) v (hu j v hj)
        rw[Addr.add_add];exact this
theorem GV.oks_iff:∀{l:List GV} {p:Pub},GV.oks l p↔∀v∈l,v.ok p
  | [],p=>by unfold GV.oks;simp
  | v::l,p=>by
    unfold GV.oks
    rw[GV.oks_iff (l:=l)]
    simp
theorem q7p{α:Type} {f:α->List Value} (l:List α) (k:Nat):q00 f l=q00 f (l.take k)++q00 f (l.drop k):=by
 rw[←q0e,List.take_append_drop]
theorem qjn{α:Type} {f:α->List Value} (l:List α) (k:Nat):∀(j:Nat) v,(q00 f (l.take k))[j]? =some v->(q00 f l)[j]? =some v:=λj v h=>by
 rw[q7p l k,List.getElem?_append_left (List.getElem?_eq_some_iff.mp h).1];exact h
theorem q8o{α:Type} {f:α->List Value} {e:Nat} (hf:∀x,(f x).length=e) (l:List α) (k:Nat) (hk:k<=l.length):∀(j:Nat) v,(q00 f (l.drop k))[j]? =some v->(q00 f l)[k*e+j]? =some v:=λj v h=>by
 rw[q7p l k]
 have:(q00 f (l.take k)).length=k*e:=by rw[q03 hf,List.length_take,Nat.min_eq_left hk]
 rw[←this,List.getElem?_append_right (Nat.le_add_right _ _),Nat.add_sub_cancel_left];exact h
theorem q2t{α:Type} {f:α->List Value} (h:∀x,∀v∈f x,v.oneCell'=true):∀l,quv (q00 f l)
  | []=>λv hv=>by cases hv
  | x::l=>λv hv=>by
    rcases List.mem_append.1 hv with hv|hv
    · exact h x v hv
    · exact q2t h l v hv
theorem qpb:∀(x:ByteArray),∀v∈txV x,v.oneCell'=true:=λx v hv=>by
 simp[txV]at hv;subst hv;rfl
theorem qj4:∀(x:GV),∀v∈x.cells,v.oneCell'=true:=λx v hv=>by
 simp[GV.cells]at hv
 rcases hv with rfl|rfl|rfl|rfl|rfl<;>rfl
theorem kIx_le(k:ByteArray):∀l,kIx k l<=l.length
  | []=>Nat.zero_le _
  | a::l=>by
    rw[kIx];split
    · have:=kIx_le k l;rw[List.length_cons];omega
    · exact Nat.zero_le _
theorem qt7:∀(xs A B C:List Value),B.length=xs.length->spl (A++(B++C)) A.length xs=A++(xs++C)
  | [],A,B,C,h=>by
    have:B=[]:=List.length_eq_zero_iff.mp h
    subst this;rfl
  |x::xs,A,[],C,h=>by simp at h
  | x ::xs,A,b::B,C,h=>by
    rw[spl]
    have e:(A++(b::B++C)).set A.length x=(A++[x])++(B++C):=by
      clear h
      induction A with
      |nil=>rfl
      |cons a A ih=>rw[List.cons_append,List.length_cons,List.set_cons_succ,ih];rfl
    rw[e,show A.length+1=(A++[x]).length by simp,qt7 xs (A++[x]) B C (by simpa using h)]
    simp
theorem q6v{α:Type} {f:α->List Value} {e:Nat} (hf:∀x,(f x).length=e) (l:List α) (k:Nat) (hk:k<l.length) (x:α):q00 f (l.set k x)=spl (q00 f l) (0+k*e) (f x):=by
 rw[List.set_eq_take_append_cons_drop,if_pos hk,q0e]
 show _++(f x++_)=_
 have h1:q00 f l=q00 f (l.take k)++(f l[k]++q00 f (l.drop (k+1))):=by
  conv=>lhs;rw[q7p l k,List.drop_eq_getElem_cons hk]
  rfl
 have h2:(q00 f (l.take k)).length=k*e:=by rw[q03 hf,List.length_take,Nat.min_eq_left (Nat.le_of_lt hk)]
 rw[h1,Nat.zero_add,←h2]
 exact(qt7 _ _ _ _ ((hf _).trans (hf _).symm)).symm
theorem qjt:q0d P 38 cPut:=by
 refine q0v mixed (q05 q06) (q0g q0q) (W:=wPut) Try.func38 (by kernel_rfl) (show 1<=1 by decide) (show 1<=1 by decide) (λs=>by kernel_rfl) λ⟨v,k,w⟩=>(put_eq v k w).mpr ?_
 rintro⟨hkl,hl⟩ ⟨p,_,hp,hw⟩
 have hv:=hp
 have vo:=λq (h:v.ok q)=>(by rw[GV.ok_eq]at h;exact h:slP GV.cells v.x v.l q/\slP txV v.y v.ks q/\GV.oks v.l q)
 have xl:v.x.2.1=v.l.length:=(vo p hp).1.1
 have yl:v.y.2.1=v.ks.length:=(vo p hp).2.1.1
 have xc:v.l.length<=v.x.2.2:=by have:=(vo p hp).1.2.1;omega
 have yc:v.ks.length<=v.y.2.2:=by have:=(vo p hp).2.1.2.1;omega
 simp only[decide_eq_true_eq,decide_eq_false_iff_not,Bool.not_eq_true',Bool.not_eq_false',true_and,and_true,eq_self,imp_self,implies_true,exists_const,forall_const,Int.toNat_natCast,xl,yl]
 have kd:∀s,s<v.ks.length->kIx k (v.ks.drop s)=if q2y (v.ks[s]!) k=true then kIx k (v.ks.drop (s+1))+1 else 0:=λs hs=>by
  rw[List.drop_eq_getElem_cons hs,kIx,getElem!_pos v.ks s hs]
 have kat:∀s (hs:s<v.ks.length),v.ks[s]! =v.ks[s]:=λs hs=>getElem!_pos v.ks s hs
 have txc:=λs (hs:s<v.ks.length) q (h:v.ok q)=>(show v.y.1≠noA/\q02 q (adr v.y.1 (s*1)) [.string v.ks[s]]from q1m q13 (by decide) (vo q h).2.1 hs)
 refine⟨⟨⟨0,rfl,Nat.zero_le _,Nat.zero_add _⟩,λs ⟨hs,hk⟩=>⟨λhlt=> ?_,λhge=>⟨s,rfl,?_,hs⟩⟩⟩,λs ⟨hs,hsl⟩=>⟨⟨λhlt=> ?_,λhge=> ?_⟩,λhno=> ?_⟩⟩
 ·have hlt:s<v.ks.length:=by omega
  have hd:=kd s hlt
  rw[kat s hlt]at hd
  refine⟨⟨by omega,by omega⟩,(txc s hlt p hp).1,v.ks[s],λq hq=>(txc s hlt q hq.1).2,λhl1=>⟨⟨by omega,by omega⟩,s+1,by omega,⟨by omega,by rw[if_pos hl1]at hd;omega⟩,by omega⟩,λhl1=>⟨s,rfl,by rw[if_neg (by rw[hl1];decide)]at hd;omega,hs⟩⟩
 ·rw[List.drop_of_length_le (by omega),kIx]at hk;omega
 ·have hlt:s<v.ks.length:=by omega
  have hll:s<v.l.length:=by omega
  refine⟨⟨by omega,by omega⟩,(txc s hlt p hp).1,v.ks[s],λq hq=>(txc s hlt q hq.1).2,λhe=> ?_,λhe=> ?_⟩
  ·have hh:q3q k v.ks=true:=by
    unfold q3q;rw[←hs,List.getElem?_eq_getElem hlt,he];exact decide_eq_true rfl
   refine⟨q00 GV.cells v.l,q03 q0y _,λq hq=>(vo q hq.1).1.2.2,q2t qj4 _,by omega,⟨by omega,by omega⟩,by rw[List.nil_append,q03 q0y];show 0+s*5+5<=_;omega,λa c _=>⟨.mk v.n v.s (a,0+v.l.length,c) (v.l.set s w) v.y v.ks v.b,rfl,rfl,rfl,rfl,rfl,rfl,yl,rfl,rfl,?_,λq hq=> ?_⟩⟩
   ·rw[GV.pv]
    show PV.mk v.n v.s (GV.pvs (v.l.set s w)) v.ks v.b=_
    unfold qgb q4r
    rw[hh,if_pos rfl,if_pos rfl,←hs,GV.pvs_map,GV.pvs_map,List.map_set]
   ·have h2:=hq.2.2
    rw[List.nil_append]at h2
    change q1l q a (List.take ((0+v.l.length)*5) (spl (q00 GV.cells v.l) (0+s*5) w.cells))at h2
    rw[←q6v q0y v.l s hll w,List.take_of_length_le (by rw[q03 q0y,List.length_set];omega)]at h2
    unfold GV.ok
    refine⟨⟨by show 0+v.l.length=_;rw[List.length_set];omega,hq.2.1,h2⟩,(vo q hq.1.1).2.1,GV.oks_iff.2 λx hx=> ?_⟩
    rcases List.mem_or_eq_of_mem_set hx with hx|rfl
    ·exact GV.oks_iff.1 (vo q hq.1.1).2.2 x hx
    ·exact hq.1.2
  ·unfold q3q;rw[←hs,List.getElem?_eq_getElem hlt];exact decide_eq_false λh=>he (Option.some.inj h)
 ·unfold q3q;rw[←hs,List.getElem?_eq_none (by omega)];rfl
 ·have hsl2:s<=v.l.length:=by omega
  have tl:(v.ks.take s).length=s:=by rw[List.length_take];omega
  have tl2:(v.l.take s).length=s:=by rw[List.length_take];omega
  have r1:(q00 txV (v.ks.take s)).length=s*1:=by rw[q03 q13,tl]
  have r2:(q00 txV (v.ks.drop s)).length=(v.ks.length- s)*1:=by rw[q03 q13,List.length_drop]
  have r3:(q00 GV.cells (v.l.take s)).length=s*5:=by rw[q03 q0y,tl2]
  have r4:(q00 GV.cells (v.l.drop s)).length=(v.l.length- s)*5:=by rw[q03 q0y,List.length_drop]
  refine⟨yc,⟨by omega,by omega⟩,q00 txV (v.ks.take s),by rw[r1];omega,λq hq=>q6b (vo q hq.1).2.1.2.2 (Nat.zero_le _) (by rw[q03 q13];omega) (λj x hj=>by rw[Nat.zero_mul,Nat.zero_add];exact qjn _ _ j x hj),q2t qpb _,by omega,by rw[List.nil_append,r1];omega,by omega,yc,⟨by omega,by omega⟩,by rw[List.length_append,List.nil_append,r1];show s*1+1=_;omega,q00 txV (v.ks.drop s),r2,λq hq=>q6b (vo q hq.1).2.1.2.2 (by omega) (by rw[q03 q13];omega) (q8o q13 _ _ hsl),q2t qpb _,by omega,xc,⟨by omega,by omega⟩,q00 GV.cells (v.l.take s),by rw[r3];omega,λq hq=>q6b (vo q hq.1).1.2.2 (Nat.zero_le _) (by rw[q03 q0y];omega) (λj x hj=>by rw[Nat.zero_mul,Nat.zero_add];exact qjn _ _ j x hj),q2t qj4 _,by omega,by rw[List.nil_append,r3];omega,by omega,xc,⟨by omega,by omega⟩,by rw[List.length_append,List.nil_append,r3];show s*5+5=_;omega,q00 GV.cells (v.l.drop s),r4,λq hq=>q6b (vo q hq.1).1.2.2 (by omega) (by rw[q03 q0y];omega) (q8o q0y _ _ hsl2),q2t qj4 _,by omega,λa c _ a2 c2 _=> ?_⟩
  have hx:(v.l.take s++w::v.l.drop s).length=0+(s- 0)+1+(v.l.length- s):=by simp;omega
  have hy:(v.ks.take s++k::v.ks.drop s).length=0+(s- 0)+1+(v.ks.length- s):=by simp;omega
  refine⟨.mk v.n v.s (a,0+(s- 0)+1+(v.l.length- s),c) (v.l.take s++w::v.l.drop s) (a2,0+(s- 0)+1+(v.ks.length- s),c2) (v.ks.take s++k::v.ks.drop s) v.b,rfl,rfl,rfl,rfl,rfl,rfl,rfl,rfl,rfl,?_,λq hq=> ?_⟩
  ·rw[GV.pv]
   unfold qgb q4r
   rw[hno,if_neg (by decide),if_neg (by decide),←hs,GV.pvs_map,GV.pvs_map,List.map_append,List.map_cons,List.map_take,List.map_drop]
  ·unfold GV.ok
   refine⟨⟨hx.symm,hq.1.2.1,?_⟩,⟨hy.symm,hq.2.1,?_⟩,GV.oks_iff.2 λx hx=> ?_⟩
   ·have h2:=hq.1.2.2
    rw[List.take_of_length_le (by simp only[List.length_append,List.nil_append,r3,r4];show s*5+5+_<=_;omega)]at h2
    rw[q0e]
    simp only[List.nil_append,List.append_assoc]at h2
    exact h2
   ·have h2:=hq.2.2
    rw[List.take_of_length_le (by simp only[List.length_append,List.nil_append,r1,r2];show s*1+1+_<=_;omega)]at h2
    rw[q0e]
    simp only[List.nil_append,List.append_assoc]at h2
    exact h2
   ·have ho:=GV.oks_iff.1 (vo q hq.1.1.1).2.2
    rcases List.mem_append.1 hx with hx|hx
    ·exact ho x (List.mem_of_mem_take hx)
    ·rcases List.mem_cons.1 hx with rfl|hx
     ·exact hq.1.1.2
     ·exact ho x (List.mem_of_mem_drop hx)
abbrev VlS:=List AT×SV×Int×Int×GJ×Int
abbrev VlB:=Int×Int×GV
def vlO(x:SV) (all:Int):List (Nat×AO):=[(1, .cells 136 (some 0) false [svA x, .sv (.int .i64 all)])]
def q1a(all:Int):VlB->Prop:=λ⟨all',e,v⟩=>all<=all'/\all'<=2001/\(e=0->all'<=2000)
def sgM(S:List AT) (x:SV) (g:GJ):PF:=⟨true,λp=>q0l S x p/\g.ok p,λ_ _ h e=>⟨q2e h e.1,GJ.ok_mono h e.2⟩⟩
def sagM(S:List AT) (x:SV) (a:AT) (g:GJ):PF:=⟨true,λp=>q0l S x p/\a.ok p/\g.ok p,λ_ _ h e=>⟨q2e h e.1,AT.ok_mono h e.2.1,GJ.ok_mono h e.2.2⟩⟩
def cVl:CtR where
 σ:=VlS
 args:=λ⟨S,x,all,t,g,d⟩=>[.ptr 1 0, .sv (.int .i64 t),g.av, .sv (.int .i64 d)]
 h:=λ⟨S,x,all,t,g,d⟩=>vlO x all
 m:=2
 pre:=λ⟨S,x,all,t,g,d⟩=>q0j S/\(0<=t/\t<S.length)/\g.wf/\(0<=all/\all<=2000)/\1<=d/\d<=21
 mem:=λ⟨S,x,all,t,g,d⟩=>sgM S x g
 β:=λ_=>VlB
 post:=λ⟨S,x,all,t,g,d⟩ b=>q1a all b
 pm:=λ_ ⟨all',e,v⟩=>vM v
 r:=λ_ ⟨all',e,v⟩=> .tup [v.av, .sv (.int .i64 e)]
 h':=λ⟨S,x,all,t,g,d⟩ ⟨all',e,v⟩=>vlO x all'
 m':=2
def qfr:VlS->Nat:=λ⟨S,x,all,t,g,d⟩=>2*(25- d).toNat
abbrev VqS:=List AT×SV×Int×AT×GJ×Int
def cVq(k:AT->GJ->Prop):CtR where
 σ:=VqS
 args:=λ⟨S,x,all,a,g,d⟩=>[.ptr 1 0,a.av,g.av, .sv (.int .i64 d)]
 h:=λ⟨S,x,all,a,g,d⟩=>vlO x all
 m:=2
 pre:=λ⟨S,x,all,a,g,d⟩=>q0j S/\a∈S/\k a g/\g.wf/\(0<=all/\all<=2000)/\1<=d/\d<=20
 mem:=λ⟨S,x,all,a,g,d⟩=>sagM S x a g
 β:=λ_=>VlB
 post:=λ⟨S,x,all,a,g,d⟩ b=>q1a all b
 pm:=λ_ ⟨all',e,v⟩=>vM v
 r:=λ_ ⟨all',e,v⟩=> .tup [v.av, .sv (.int .i64 e)]
 h':=λ⟨S,x,all,a,g,d⟩ ⟨all',e,v⟩=>vlO x all'
 m':=2
def qk6:VqS->Nat:=λ⟨S,x,all,a,g,d⟩=>2*(25- d).toNat
def isArr(a:AT) (g:GJ):Prop:=a.k=12
def isMap(a:AT) (g:GJ):Prop:=a.k=13/\g.k=6
def isPar(a:AT) (g:GJ):Prop:=a.k=12\/a.k=13/\g.k=6
def isRec(a:AT) (g:GJ):Prop:=a.k=9
def kdOf(t:T AV) (h:T AO):Option Int:=match t.get 10 with
  | some (.ptr b _)=>match h.get b with
    | some (.cells _ _ _ (v::_))=>match gi v with
      |some (_,k)=>some k
      |none=>none
    |_=>none
  |_=>none
def bq(a b gk k:Int):Bool:=decide (k=a)&&decide (gk=b)
def bI(gk gn k:Int):Bool:=decide (k=3)&&(decide (gk=3)&&(decide (-2147483648<=gn)&&decide (gn<2147483648)))
def bN(gk gn k:Int):Bool:=bI gk gn k||bq 4 3 gk k
def bT(gk k:Int):Bool:=(decide (k=7)||decide (k=11))&&decide (gk=4)
def bP(gk k:Int):Bool:=bq 12 5 gk k||bq 13 6 gk k
def cbK(f:Int->Bool) (i:Nat) (keep:List Nat) (t:T AV) (h:T AO):Option LT:=match kdOf t h with
 |some k=>some {σ:=Unit,t:=λ_=>[(i, .sv (.bool (f k)))],h:=λ_=>[],more:=0,μ:=λ_=>0,keep:=keep}
 |none=>none
def wVl:VlS->WayF:=λ⟨S,x,all,t,g,d⟩=>{
 ann:=λ_ _ _=>some {σ:=Nat,t:=λj=>[(14, .sv (.int .i64 (j:Int)))],h:=λ_=>[],more:=0,μ:=λj=>1000- j,keep:=[0,3,6,8,10,11]}
 pubE:=[250]
 spl:=λi=>match i with
  |35=>some 8
  |_=>none
 flo:=λi=>match i with
  |35=>some (12,[8])
  |_=>none
 cut:=λi t h=>match i with
  |7=>cbK (bq 1 1 g.k) 45 [0,3,6,8,10,11] t h
  |9=>cbK (bq 2 2 g.k) 55 [0,3,6,8,10,11] t h
  |11=>cbK (bI g.k g.n) 68 [0,3,6,8,10,11] t h
  |12=>cbK (bN g.k g.n) 68 [0,3,6,8,10,11] t h
  |14=>cbK (bq 5 3 g.k) 95 [0,3,6,8,10,11] t h
  |16=>cbK (bq 6 3 g.k) 107 [0,3,6,8,10,11] t h
  |18=>cbK (bq 8 4 g.k) 118 [0,3,6,8,10,11] t h
  |20=>cbK (bT g.k) 130 [0,3,6,8,10,11] t h
  |22=>some {σ:=Bool,t:=λb=>[(162, .sv (.bool b))],h:=λ_=>[],more:=0,μ:=λ_=>0,keep:=[8,12]}
  |24=>cbK (bq 10 4 g.k) 165 [0,3,6,8,10,11] t h
  |30=>cbK (bq 12 5 g.k) 192 [0,3,6,8,10,11] t h
  |31=>cbK (bP g.k) 192 [0,3,6,8,10,11] t h
  |33=>cbK (bq 9 6 g.k) 216 [0,3,6,8,10,11] t h
  |37=>some {σ:=Unit,t:=λ_=>[],h:=λ_=>[],more:=0,μ:=λ_=>0,keep:=[8]}
  |36=>some {σ:=VlB,t:=λ⟨all',e,v⟩=>[(16, .sv (.int .i64 e)),(15, .ptr 50 0)],h:=λ⟨all',e,v⟩=>[(50, .cells 37 (some 0) false [.sv (.int .u64 v.n), .sv (.string v.s),svA v.x,svA v.y, .sv (.int .i64 v.b)])]++vlO x all',pre:=q1a all,mem:=λ⟨all',e,v⟩=>vM v,more:=60,μ:=λ_=>0,keep:=[8]}
  |_=>none}
def avO(v:GV):AO:= .cells 37 (some 0) false [.sv (.int .u64 v.n), .sv (.string v.s),svA v.x,svA v.y, .sv (.int .i64 v.b)]
def rwO(r n k:Nat):AO:= .cells 37 (some 0) false [.int .u64 0, .str [], .ssl r 0 n 5 k, .nsl, .int .i64 0]
def gsM(fs:List GV):PF:=⟨true,GV.oks fs,λ_ _ h e=>GV.oks_mono h e⟩
def cutV(x:SV) (all:Int) (pt es:Nat) (keep:List Nat):LT:={σ:=VlB,t:=λ⟨all',e,v⟩=>[(es, .sv (.int .i64 e)),(pt, .ptr 50 0)],h:=λ⟨all',e,v⟩=>[(50,avO v)]++vlO x all',pre:=q1a all,mem:=λ⟨all',e,v⟩=>vM v,more:=60,μ:=λ_=>0,keep:=keep}
def vlAll(h:T AO):Int:=match h.get 1 with
 |some (.cells _ _ _ [_, .sv (.int _ a)])=>a
 |_=>0
def wPa:VqS->WayF:=λ⟨S,x,all,a,g,d⟩=>{
 ann:=λ_ _ _=>some {σ:=Nat×Int×List GV,pre:=λ⟨j,all',fs⟩=>j<=g.l.length/\(all<=all'/\all'<=2000)/\fs.length=j,mem:=λ⟨j,all',fs⟩=>gsM fs,t:=λ⟨j,all',fs⟩=>[(11, .sv (.int .i64 (j:Int)))],h:=λ⟨j,all',fs⟩=>vlO x all'++[(5,rwO 6 fs.length 7),(6, .row 37 0 (q00 GV.cells fs))],more:=2,μ:=λ⟨j,all',fs⟩=>g.l.length- j,keep:=[0,3,5,6,8,10]}
 pubE:=[57]
 spl:=λi=>match i with
  |5=>some 10
  |10=>some 7
  |_=>none
 flo:=λi=>match i with
  |5=>some (14,[10])
  |_=>none
 cut:=λi _ h=>match i with
  |6=>some (cutV x (vlAll h) 12 13 [0,3,5,6,8,10,11])
  |_=>none}
def wPm:VqS->WayF:=λ⟨S,x,all,a,g,d⟩=>{
 ann:=λ_ _ _=>some {σ:=Nat×Int×GV,pre:=λ⟨j,all',v⟩=>j<=g.l.length/\(all<=all'/\all'<=2000)/\v.ks.length=v.l.length/\v.l.length<=j,mem:=λ⟨j,all',v⟩=>vM v,t:=λ⟨j,all',v⟩=>[(11, .sv (.int .i64 (j:Int)))],h:=λ⟨j,all',v⟩=>vlO x all'++[(5,avO v)],more:=0,μ:=λ⟨j,all',v⟩=>g.l.length- j,keep:=[0,3,5,6,8,10]}
 spl:=λi=>match i with
  |5=>some 10
  |10=>some 7
  |_=>none
 flo:=λi=>match i with
  |5=>some (14,[10])
  |_=>none
 cut:=λi _ h=>match i with
  |6=>some (cutV x (vlAll h) 12 13 [0,3,5,6,8,10,11])
  |_=>none}
def jnO(g:GJ):AO:= .cells 55 (some 0) false [.sv (.int .i64 g.k), .sv (.int .i64 g.n), .sv (.string g.s),svA g.y,svA g.x]
def wRe:VqS->WayF:=λ⟨S,x,all,a,g,d⟩=>{
 ann:=λ_ _ _=>some {σ:=Nat×Int×List GV,pre:=λ⟨j,all',fs⟩=>j<=a.fs.length/\(all<=all'/\all'<=2000)/\fs.length=j,mem:=λ⟨j,all',fs⟩=>gsM fs,t:=λ⟨j,all',fs⟩=>[(11, .sv (.int .i64 (j:Int)))],h:=λ⟨j,all',fs⟩=>vlO x all'++[(5,rwO 6 fs.length 7),(6, .row 37 0 (q00 GV.cells fs))],more:=2,μ:=λ⟨j,all',fs⟩=>a.fs.length- j,keep:=[0,3,5,6,8,10]}
 pubE:=[65]
 cut:=λi _ h=>match i with
  |11=>some {σ:=GJ,pre:=λc=>c.wf,mem:=gM,t:=λc=>[(13, .ptr 50 0)],h:=λc=>[(50,jnO c)],more:=60,μ:=λ_=>0,keep:=[0,3,5,6,8,10,11,12]}
  |_=>none}
noncomputable section
variable (x0:Int) (x1:SV) (x2:Int) (x3:GJ) (x4:AT) (x5:List AT) (x6:Nat) (x7:Nat×Int×List GV) (x8:VlB) (x9:Prop) (x10:Nat->Option Obj)
 abbrev qgu:=True/\q0l x5 x1 x10/\AT.ok x4 x10/\GJ.ok x3 x10
 abbrev qpx:=x1.1=x1.1/\x1.2.1=x1.2.1/\x1.2.2=x1.2.2/\x9
 abbrev zbz9:=GJ.k x3=GJ.k x3/\GJ.n x3=GJ.n x3/\GJ.s x3=GJ.s x3/\(GJ.y x3).1=(GJ.y x3).1/\(GJ.y x3).2.1=(GJ.y x3).2.1/\(GJ.y x3).2.2=(GJ.y x3).2.2/\(GJ.x x3).1=(GJ.x x3).1/\(GJ.x x3).2.1=(GJ.x x3).2.1/\(GJ.x x3).2.2=(GJ.x x3).2.2/\x9
 abbrev zbz8:=AT.k x4=AT.k x4/\AT.nm x4=AT.nm x4/\(AT.al x4).1=(AT.al x4).1/\(AT.al x4).2.1=(AT.al x4).2.1/\(AT.al x4).2.2=(AT.al x4).2.2/\AT.it x4=AT.it x4/\(AT.sy x4).1=(AT.sy x4).1/\(AT.sy x4).2.1=(AT.sy x4).2.1/\(AT.sy x4).2.2=(AT.sy x4).2.2/\AT.hd x4=AT.hd x4/\AT.df x4=AT.df x4/\AT.sz x4=AT.sz x4/\(AT.f x4).1=(AT.f x4).1/\(AT.f x4).2.1=(AT.f x4).2.1/\(AT.f x4).2.2=(AT.f x4).2.2/\(AT.br x4).1=(AT.br x4).1/\(AT.br x4).2.1=(AT.br x4).2.1/\(AT.br x4).2.2=(AT.br x4).2.2/\x9
 abbrev qzy:=x7.1<=List.length (GJ.l x3)/\(x0<=x7.2.1/\x7.2.1<=2000)/\List.length x7.2.2=x7.1
 abbrev q66:=(qgu x1 x3 x4 x5 x10)/\GV.oks x7.2.2 x10
 abbrev qwx:=(↑x7.1:Int)<(↑(GJ.y x3).2.1:Int)
 abbrev zbz7:=vlAll (T.n (T.n (T.n T.e (some (AO.cells 55 (some 0) false [AV.sv (Value.int IntKind.i64 (GJ.k x3)),AV.sv (Value.int IntKind.i64 (GJ.n x3)),AV.sv (Value.string (GJ.s x3)),AV.sv (Value.slice (GJ.y x3).1 (GJ.y x3).2.1 (GJ.y x3).2.2),AV.sv (Value.slice (GJ.x x3).1 (GJ.x x3).2.1 (GJ.x x3).2.2)])) T.e) (some (AO.cells (136:TypeId) (some 0) false [AV.sv (Value.slice x1.1 x1.2.1 x1.2.2),AV.sv (Value.int IntKind.i64 x7.2.1)])) (T.n T.e (some (AO.cells (37:TypeId) (some 0) false [AV.int IntKind.u64 0,AV.str [],AV.ssl (nat_lit 6) (nat_lit 0) (List.length x7.2.2) (nat_lit 5) (nat_lit 7),AV.nsl,AV.int IntKind.i64 0])) T.e)) none (T.n (T.n T.e (some (AO.cells 37 (some 0) false [AV.int IntKind.u64 0,AV.str (List.map UInt8.toNat (Array.toList (ByteArray.data (mkS [])))),AV.nsl,AV.nsl,AV.int IntKind.i64 0])) T.e) (some (AO.cells 61 (some 0) false [AV.sv (Value.int IntKind.i64 (AT.k x4)),AV.sv (Value.string (AT.nm x4)),AV.sv (Value.slice (AT.al x4).1 (AT.al x4).2.1 (AT.al x4).2.2),AV.sv (Value.int IntKind.i64 (AT.it x4)),AV.sv (Value.slice (AT.sy x4).1 (AT.sy x4).2.1 (AT.sy x4).2.2),AV.sv (Value.bool (AT.hd x4)),AV.sv (Value.string (AT.df x4)),AV.sv (Value.int IntKind.i64 (AT.sz x4)),AV.sv (Value.slice (AT.f x4).1 (AT.f x4).2.1 (AT.f x4).2.2),AV.sv (Value.slice (AT.br x4).1 (AT.br x4).2.1 (AT.br x4).2.2)])) (T.n T.e (some (AO.row (37:TypeId) (nat_lit 0) (q00 GV.cells x7.2.2))) T.e)))
 abbrev zbz3:=(0<=(↑x7.1:Int)/\qwx x3 x7)/\(GJ.y x3).1≠noA/\∃(i0:Int),∃(i1:Int),∃(i2:ByteArray),∃(i3:Option Addr),∃(i4:Nat),∃(i5:Nat),∃(i6:Option Addr),∃(i7:Nat),∃(i8:Nat),(∀(i9:Pub),q66 x1 x3 x4 x5 x7 i9->q02 i9 (adr (GJ.y x3).1 (Int.toNat (↑x7.1:Int)*5)) [Value.int IntKind.i64 i0,Value.int IntKind.i64 i1,Value.string i2,Value.slice i3 i4 i5,Value.slice i6 i7 i8])/\((-9223372036854775808:Int)<=x0+1/\x0+1<=9223372036854775807)/\∃(i10:VlS),i10.2.2.2.1=AT.it x4/\GJ.k i10.2.2.2.2.1=i0/\GJ.n i10.2.2.2.2.1=i1/\GJ.s i10.2.2.2.2.1=i2/\(GJ.y i10.2.2.2.2.1).1=i3/\(GJ.y i10.2.2.2.2.1).2.1=i4/\(GJ.y i10.2.2.2.2.1).2.2=i5/\(GJ.x i10.2.2.2.2.1).1=i6/\(GJ.x i10.2.2.2.2.1).2.1=i7/\(GJ.x i10.2.2.2.2.1).2.2=i8/\i10.2.2.2.2.2=x0+1/\i10.2.1.1=x1.1/\i10.2.1.2.1=x1.2.1/\i10.2.1.2.2=x1.2.2/\i10.2.2.1=x7.2.1/\(qfr i10<x6/\q0j i10.1/\(0<=i10.2.2.2.1/\i10.2.2.2.1<(↑(List.length i10.1):Int))/\GJ.wf i10.2.2.2.2.1/\(0<=i10.2.2.1/\i10.2.2.1<=2000)/\1<=i10.2.2.2.2.2/\i10.2.2.2.2.2<=21)/\(∀(i11:Pub),q66 x1 x3 x4 x5 x7 i11->q0l i10.1 i10.2.1 i11/\GJ.ok i10.2.2.2.2.1 i11)/\∀(i12:VlB),q1a i10.2.2.1 i12->(∃(i13:Pub),(q66 x1 x3 x4 x5 x7 i13)/\GV.ok i12.2.2 i13)->∃(i14:VlB),x0=x0/\(↑x7.1:Int)=(↑x7.1:Int)/\i14.2.1=i12.2.1/\x1.1=i10.2.1.1/\x1.2.1=i10.2.1.2.1/\x1.2.2=i10.2.1.2.2/\i14.1=i12.1/\zbz9 x3 (List.length x7.2.2=List.length x7.2.2/\zbz8 x4 (q00 GV.cells x7.2.2=q00 GV.cells x7.2.2/\GV.n i14.2.2=GV.n i12.2.2/\GV.s i14.2.2=GV.s i12.2.2/\(GV.x i14.2.2).1=(GV.x i12.2.2).1/\(GV.x i14.2.2).2.1=(GV.x i12.2.2).2.1/\(GV.x i14.2.2).2.2=(GV.x i12.2.2).2.2/\(GV.y i14.2.2).1=(GV.y i12.2.2).1/\(GV.y i14.2.2).2.1=(GV.y i12.2.2).2.1/\(GV.y i14.2.2).2.2=(GV.y i12.2.2).2.2/\GV.b i14.2.2=GV.b i12.2.2/\(∀(i15:Pub),(q66 x1 x3 x4 x5 x7 i15)/\GV.ok i12.2.2 i15->q66 x1 x3 x4 x5 x7 i15)/\(∀(i16:Pub),(q66 x1 x3 x4 x5 x7 i16)/\GV.ok i12.2.2 i16->GV.ok i14.2.2 i16)/\q1a (zbz7 x1 x3 x4 x7) i14/\True))
 abbrev zbz14:=(GV.y x8.2.2).1=noA/\(GV.y x8.2.2).2.1=0/\(GV.y x8.2.2).2.2=0/\GV.b x8.2.2=0/\x9
 abbrev zbz6:=List.length (q00 GV.cells x7.2.2)=List.length x7.2.2*5/\(List.length x7.2.2+nat_lit 1)*80<=140737488355328/\((-9223372036854775808:Int)<=(↑x7.1:Int)+1/\(↑x7.1:Int)+1<=9223372036854775807)/\∃(i0:Nat×Int×List GV),x0=x0/\(↑i0.1:Int)=(↑x7.1:Int)+1/\qpx x1 (i0.2.1=x8.1/\zbz9 x3 (List.length i0.2.2=List.length x7.2.2+nat_lit 1/\zbz8 x4 (q00 GV.cells i0.2.2=q00 GV.cells x7.2.2++[Value.int IntKind.u64 (GV.n x8.2.2),Value.string (GV.s x8.2.2),Value.slice (GV.x x8.2.2).1 (GV.x x8.2.2).2.1 (GV.x x8.2.2).2.2,Value.slice (GV.y x8.2.2).1 (GV.y x8.2.2).2.1 (GV.y x8.2.2).2.2,Value.int IntKind.i64 (GV.b x8.2.2)]/\(∀(i1:Pub),(q66 x1 x3 x4 x5 x7 i1)/\GV.ok x8.2.2 i1->qgu x1 x3 x4 x5 i1)/\(∀(i2:Pub),(q66 x1 x3 x4 x5 x7 i2)/\GV.ok x8.2.2 i2->GV.oks i0.2.2 i2)/\(qzy x2 x3 i0)/\List.length (GJ.l x3)- i0.1<List.length (GJ.l x3)- x7.1/\True)))
 abbrev zbz12:=(0<=(↑x7.1:Int)/\(↑x7.1:Int)<(↑(GJ.x x3).2.1:Int))/\(GJ.x x3).1≠noA/\∃(i0:ByteArray),(∀(i1:Pub),(q66 x1 x3 x4 x5 x7 i1)/\GV.ok x8.2.2 i1->q02 i1 (adr (GJ.x x3).1 (Int.toNat (↑x7.1:Int)*1)) [Value.string i0])/\∃(i2:GV×ByteArray×GV),GV.n i2.1=0/\GV.s i2.1=mkS []/\False
 abbrev zbz5:=(decide (AT.k x4=12)=true->zbz6 x0 x1 x2 x3 x4 x5 x7 x8)/\(decide (AT.k x4=12)=false->zbz12 x1 x3 x4 x5 x7 x8)
 abbrev zbz4:=((!decide (x8.2.1=0))=true->∃(i0:VlB),GV.n i0.2.2=0/\GV.s i0.2.2=mkS []/\(GV.x i0.2.2).1=noA/\(GV.x i0.2.2).2.1=0/\(GV.x i0.2.2).2.2=0/\zbz14 i0 (i0.2.1=x8.2.1/\qpx x1 (i0.1=x8.1/\q1a x0 i0/\(∀(i1:Pub),(q66 x1 x3 x4 x5 x7 i1)/\GV.ok x8.2.2 i1->GV.ok i0.2.2 i1)/\True)))/\((!decide (x8.2.1=0))=false->zbz5 x2 x1 x0 x3 x4 x5 x7 x8)
 abbrev zbz2:=((zbz3 x0 x1 x3 x4 x5 x6 x7)/\zbz3 x0 x1 x3 x4 x5 x6 x7)/\∀(i34:VlB),q1a (zbz7 x1 x3 x4 x7) i34->(∃(i35:Pub),(q66 x1 x3 x4 x5 x7 i35)/\GV.ok i34.2.2 i35)->zbz4 x2 x1 x0 x3 x4 x5 x7 i34
 abbrev zbz1:=(decide (qwx x3 x7)=true->zbz2 x0 x1 x2 x3 x4 x5 x6 x7)/\(decide (qwx x3 x7)=false->∀(i44 i45 i46:Nat) (i47:Option Addr) (i48 i49:Nat),(∃(i50:Pub),(q66 x1 x3 x4 x5 x7 i50)/\List.length x7.2.2<=i49/\q1l i50 i47 (List.take (List.length x7.2.2*nat_lit 5) (q00 GV.cells x7.2.2)))->∃(i51:VlB),GV.n i51.2.2=0/\GV.s i51.2.2=mkS []/\(GV.x i51.2.2).1=i47/\(GV.x i51.2.2).2.1=List.length x7.2.2/\(GV.x i51.2.2).2.2=i49/\zbz14 i51 (i51.2.1=0/\qpx x1 (i51.1=x7.2.1/\q1a x2 i51/\(∀(i52:Pub),(q66 x1 x3 x4 x5 x7 i52)/\List.length x7.2.2<=i49/\q1l i52 i47 (List.take (List.length x7.2.2*nat_lit 5) (q00 GV.cells x7.2.2))->GV.ok i51.2.2 i52)/\True)))
 abbrev zbz0:=(∃(i0:Nat×Int×List GV),x0=x0/\(↑i0.1:Int)=0/\qpx x1 (i0.2.1=x2/\zbz9 x3 (List.length i0.2.2=0/\zbz8 x4 ((∀(i1:Pub),qgu x1 x3 x4 x5 i1->qgu x1 x3 x4 x5 i1)/\(∀(i2:Pub),qgu x1 x3 x4 x5 i2->GV.oks i0.2.2 i2)/\(qzy x2 x3 i0)/\True))))/\∀(i3:Nat×Int×List GV),qzy x2 x3 i3->(∃(i4:Pub),q66 x1 x3 x4 x5 i3 i4)->zbz1 x0 x1 x2 x3 x4 x5 x6 i3
end
theorem qv8(n:Nat) (S:List AT) (x:SV) (all:Int) (a:AT) (g:GJ) (d:Int):q68 P (q0r []) (q1s [(83,cVl.below qfr n),(38,cPut)]) Try.f120 ((cVq isArr).below qk6 (n+1)) (wPa) ⟨S,x,all,a,g,d⟩=(qk6 (S,x,all,a,g,d)<n+1/\q0j S/\a∈S/\isArr a g/\GJ.wf g/\(0<=all/\all<=2000)/\1<=d/\d<=20->(∃(p:Pub),qgu x g a S p)->zbz0 d x all g a S n):=by kernel_rfl
def partA_eq(n:Nat) (S:List AT) (x:SV) (all:Int) (a:AT) (g:GJ) (d:Int):=Eq.trans (qv8 n S x all a g d) (by delta qgu qpx zbz9 zbz8 qzy q66 qwx zbz7 zbz3 zbz14 zbz6 zbz12 zbz5 zbz4 zbz2 zbz1 zbz0;exact rfl)
noncomputable section
variable (x0:Int) (x1:SV) (x2:Int) (x3:GJ) (x4:AT) (x5:List AT) (x6:Nat) (x7:Nat×Int×GV) (x8:VlB) (x9:GV) (x10:Prop) (x11:Nat->Option Obj)
 abbrev qih:=True/\q0l x5 x1 x11/\AT.ok x4 x11/\GJ.ok x3 x11
 abbrev qrg:=x1.1=x1.1/\x1.2.1=x1.2.1/\x1.2.2=x1.2.2/\x10
 abbrev qxz:=GJ.k x3=GJ.k x3/\GJ.n x3=GJ.n x3/\GJ.s x3=GJ.s x3/\(GJ.y x3).1=(GJ.y x3).1/\(GJ.y x3).2.1=(GJ.y x3).2.1/\(GJ.y x3).2.2=(GJ.y x3).2.2/\(GJ.x x3).1=(GJ.x x3).1/\(GJ.x x3).2.1=(GJ.x x3).2.1/\(GJ.x x3).2.2=(GJ.x x3).2.2/\x10
 abbrev zca9:=AT.k x4=AT.k x4/\AT.nm x4=AT.nm x4/\(AT.al x4).1=(AT.al x4).1/\(AT.al x4).2.1=(AT.al x4).2.1/\(AT.al x4).2.2=(AT.al x4).2.2/\AT.it x4=AT.it x4/\(AT.sy x4).1=(AT.sy x4).1/\(AT.sy x4).2.1=(AT.sy x4).2.1/\(AT.sy x4).2.2=(AT.sy x4).2.2/\AT.hd x4=AT.hd x4/\AT.df x4=AT.df x4/\AT.sz x4=AT.sz x4/\(AT.f x4).1=(AT.f x4).1/\(AT.f x4).2.1=(AT.f x4).2.1/\(AT.f x4).2.2=(AT.f x4).2.2/\(AT.br x4).1=(AT.br x4).1/\(AT.br x4).2.1=(AT.br x4).2.1/\(AT.br x4).2.2=(AT.br x4).2.2/\x10
 abbrev zca12:=x7.1<=List.length (GJ.l x3)/\(x0<=x7.2.1/\x7.2.1<=2000)/\List.length (GV.ks x7.2.2)=List.length (GV.l x7.2.2)/\List.length (GV.l x7.2.2)<=x7.1
 abbrev q5e:=(qih x1 x3 x4 x5 x11)/\GV.ok x7.2.2 x11
 abbrev qx9:=(↑x7.1:Int)<(↑(GJ.y x3).2.1:Int)
 abbrev zca8:=vlAll (T.n (T.n (T.n T.e (some (AO.cells 55 (some 0) false [AV.sv (Value.int IntKind.i64 (GJ.k x3)),AV.sv (Value.int IntKind.i64 (GJ.n x3)),AV.sv (Value.string (GJ.s x3)),AV.sv (Value.slice (GJ.y x3).1 (GJ.y x3).2.1 (GJ.y x3).2.2),AV.sv (Value.slice (GJ.x x3).1 (GJ.x x3).2.1 (GJ.x x3).2.2)])) T.e) (some (AO.cells (136:TypeId) (some 0) false [AV.sv (Value.slice x1.1 x1.2.1 x1.2.2),AV.sv (Value.int IntKind.i64 x7.2.1)])) (T.n T.e (some (AO.cells (37:TypeId) (some 0) false [AV.sv (Value.int IntKind.u64 (GV.n x7.2.2)),AV.sv (Value.string (GV.s x7.2.2)),AV.sv (Value.slice (GV.x x7.2.2).1 (GV.x x7.2.2).2.1 (GV.x x7.2.2).2.2),AV.sv (Value.slice (GV.y x7.2.2).1 (GV.y x7.2.2).2.1 (GV.y x7.2.2).2.2),AV.sv (Value.int IntKind.i64 (GV.b x7.2.2))])) T.e)) none (T.n (T.n T.e (some (AO.cells 37 (some 0) false [AV.int IntKind.u64 0,AV.str (List.map UInt8.toNat (Array.toList (ByteArray.data (mkS [])))),AV.nsl,AV.nsl,AV.int IntKind.i64 0])) T.e) (some (AO.cells 61 (some 0) false [AV.sv (Value.int IntKind.i64 (AT.k x4)),AV.sv (Value.string (AT.nm x4)),AV.sv (Value.slice (AT.al x4).1 (AT.al x4).2.1 (AT.al x4).2.2),AV.sv (Value.int IntKind.i64 (AT.it x4)),AV.sv (Value.slice (AT.sy x4).1 (AT.sy x4).2.1 (AT.sy x4).2.2),AV.sv (Value.bool (AT.hd x4)),AV.sv (Value.string (AT.df x4)),AV.sv (Value.int IntKind.i64 (AT.sz x4)),AV.sv (Value.slice (AT.f x4).1 (AT.f x4).2.1 (AT.f x4).2.2),AV.sv (Value.slice (AT.br x4).1 (AT.br x4).2.1 (AT.br x4).2.2)])) T.e))
 abbrev zca3:=(0<=(↑x7.1:Int)/\qx9 x3 x7)/\(GJ.y x3).1≠noA/\∃(i0:Int),∃(i1:Int),∃(i2:ByteArray),∃(i3:Option Addr),∃(i4:Nat),∃(i5:Nat),∃(i6:Option Addr),∃(i7:Nat),∃(i8:Nat),(∀(i9:Pub),q5e x1 x3 x4 x5 x7 i9->q02 i9 (adr (GJ.y x3).1 (Int.toNat (↑x7.1:Int)*5)) [Value.int IntKind.i64 i0,Value.int IntKind.i64 i1,Value.string i2,Value.slice i3 i4 i5,Value.slice i6 i7 i8])/\((-9223372036854775808:Int)<=x0+1/\x0+1<=9223372036854775807)/\∃(i10:VlS),i10.2.2.2.1=AT.it x4/\GJ.k i10.2.2.2.2.1=i0/\GJ.n i10.2.2.2.2.1=i1/\GJ.s i10.2.2.2.2.1=i2/\(GJ.y i10.2.2.2.2.1).1=i3/\(GJ.y i10.2.2.2.2.1).2.1=i4/\(GJ.y i10.2.2.2.2.1).2.2=i5/\(GJ.x i10.2.2.2.2.1).1=i6/\(GJ.x i10.2.2.2.2.1).2.1=i7/\(GJ.x i10.2.2.2.2.1).2.2=i8/\i10.2.2.2.2.2=x0+1/\i10.2.1.1=x1.1/\i10.2.1.2.1=x1.2.1/\i10.2.1.2.2=x1.2.2/\i10.2.2.1=x7.2.1/\(qfr i10<x6/\q0j i10.1/\(0<=i10.2.2.2.1/\i10.2.2.2.1<(↑(List.length i10.1):Int))/\GJ.wf i10.2.2.2.2.1/\(0<=i10.2.2.1/\i10.2.2.1<=2000)/\1<=i10.2.2.2.2.2/\i10.2.2.2.2.2<=21)/\(∀(i11:Pub),q5e x1 x3 x4 x5 x7 i11->q0l i10.1 i10.2.1 i11/\GJ.ok i10.2.2.2.2.1 i11)/\∀(i12:VlB),q1a i10.2.2.1 i12->(∃(i13:Pub),(q5e x1 x3 x4 x5 x7 i13)/\GV.ok i12.2.2 i13)->∃(i14:VlB),x0=x0/\(↑x7.1:Int)=(↑x7.1:Int)/\i14.2.1=i12.2.1/\x1.1=i10.2.1.1/\x1.2.1=i10.2.1.2.1/\x1.2.2=i10.2.1.2.2/\i14.1=i12.1/\qxz x3 (GV.n x7.2.2=GV.n x7.2.2/\GV.s x7.2.2=GV.s x7.2.2/\(GV.x x7.2.2).1=(GV.x x7.2.2).1/\(GV.x x7.2.2).2.1=(GV.x x7.2.2).2.1/\(GV.x x7.2.2).2.2=(GV.x x7.2.2).2.2/\(GV.y x7.2.2).1=(GV.y x7.2.2).1/\(GV.y x7.2.2).2.1=(GV.y x7.2.2).2.1/\(GV.y x7.2.2).2.2=(GV.y x7.2.2).2.2/\GV.b x7.2.2=GV.b x7.2.2/\zca9 x4 (GV.n i14.2.2=GV.n i12.2.2/\GV.s i14.2.2=GV.s i12.2.2/\(GV.x i14.2.2).1=(GV.x i12.2.2).1/\(GV.x i14.2.2).2.1=(GV.x i12.2.2).2.1/\(GV.x i14.2.2).2.2=(GV.x i12.2.2).2.2/\(GV.y i14.2.2).1=(GV.y i12.2.2).1/\(GV.y i14.2.2).2.1=(GV.y i12.2.2).2.1/\(GV.y i14.2.2).2.2=(GV.y i12.2.2).2.2/\GV.b i14.2.2=GV.b i12.2.2/\(∀(i15:Pub),(q5e x1 x3 x4 x5 x7 i15)/\GV.ok i12.2.2 i15->q5e x1 x3 x4 x5 x7 i15)/\(∀(i16:Pub),(q5e x1 x3 x4 x5 x7 i16)/\GV.ok i12.2.2 i16->GV.ok i14.2.2 i16)/\q1a (zca8 x1 x3 x4 x7) i14/\True))
 abbrev zca7:=((-9223372036854775808:Int)<=(↑x7.1:Int)+1/\(↑x7.1:Int)+1<=9223372036854775807)/\∃(i0:Nat×Int×GV),x0=x0/\(↑i0.1:Int)=(↑x7.1:Int)+1/\qrg x1 (i0.2.1=x8.1/\qxz x3 (GV.n i0.2.2=GV.n x9/\GV.s i0.2.2=GV.s x9/\(GV.x i0.2.2).1=(GV.x x9).1/\(GV.x i0.2.2).2.1=(GV.x x9).2.1/\(GV.x i0.2.2).2.2=(GV.x x9).2.2/\(GV.y i0.2.2).1=(GV.y x9).1/\(GV.y i0.2.2).2.1=(GV.y x9).2.1/\(GV.y i0.2.2).2.2=(GV.y x9).2.2/\GV.b i0.2.2=GV.b x9/\zca9 x4 ((∀(i1:Pub),((q5e x1 x3 x4 x5 x7 i1)/\GV.ok x8.2.2 i1)/\GV.ok x9 i1->qih x1 x3 x4 x5 i1)/\(∀(i2:Pub),((q5e x1 x3 x4 x5 x7 i2)/\GV.ok x8.2.2 i2)/\GV.ok x9 i2->GV.ok i0.2.2 i2)/\(zca12 x2 x3 i0)/\List.length (GJ.l x3)- i0.1<List.length (GJ.l x3)- x7.1/\True)))
 abbrev zca6:=(0<=(↑x7.1:Int)/\(↑x7.1:Int)<(↑(GJ.x x3).2.1:Int))/\(GJ.x x3).1≠noA/\∃(i0:ByteArray),(∀(i1:Pub),(q5e x1 x3 x4 x5 x7 i1)/\GV.ok x8.2.2 i1->q02 i1 (adr (GJ.x x3).1 (Int.toNat (↑x7.1:Int)*1)) [Value.string i0])/\∃(i2:GV×ByteArray×GV),GV.n i2.1=GV.n x7.2.2/\GV.s i2.1=GV.s x7.2.2/\(GV.x i2.1).1=(GV.x x7.2.2).1/\(GV.x i2.1).2.1=(GV.x x7.2.2).2.1/\(GV.x i2.1).2.2=(GV.x x7.2.2).2.2/\(GV.y i2.1).1=(GV.y x7.2.2).1/\(GV.y i2.1).2.1=(GV.y x7.2.2).2.1/\(GV.y i2.1).2.2=(GV.y x7.2.2).2.2/\GV.b i2.1=GV.b x7.2.2/\i2.2.1=i0/\GV.n i2.2.2=GV.n x8.2.2/\GV.s i2.2.2=GV.s x8.2.2/\(GV.x i2.2.2).1=(GV.x x8.2.2).1/\(GV.x i2.2.2).2.1=(GV.x x8.2.2).2.1/\(GV.x i2.2.2).2.2=(GV.x x8.2.2).2.2/\(GV.y i2.2.2).1=(GV.y x8.2.2).1/\(GV.y i2.2.2).2.1=(GV.y x8.2.2).2.1/\(GV.y i2.2.2).2.2=(GV.y x8.2.2).2.2/\GV.b i2.2.2=GV.b x8.2.2/\(List.length (GV.ks i2.1)=List.length (GV.l i2.1)/\List.length (GV.l i2.1)<1000000)/\(∀(i3:Pub),(q5e x1 x3 x4 x5 x7 i3)/\GV.ok x8.2.2 i3->GV.ok i2.1 i3/\GV.ok i2.2.2 i3)/\∀(i4:GV),GV.pv i4=PV.mk (GV.n i2.1) (GV.s i2.1) (qgb i2.2.1 (GV.ks i2.1) (GV.pvs (GV.l i2.1)) (GV.pv i2.2.2)) (q4r i2.2.1 (GV.ks i2.1)) (GV.b i2.1)->(∃(i5:Pub),((q5e x1 x3 x4 x5 x7 i5)/\GV.ok x8.2.2 i5)/\GV.ok i4 i5)->zca7 x0 x1 x2 x3 x4 x5 x7 x8 i4
 abbrev zca5:=(decide (AT.k x4=12)=true->False)/\(decide (AT.k x4=12)=false->zca6 x0 x1 x2 x3 x4 x5 x7 x8)
 abbrev zca4:=((!decide (x8.2.1=0))=true->∃(i0:VlB),GV.n i0.2.2=0/\GV.s i0.2.2=mkS []/\(GV.x i0.2.2).1=noA/\(GV.x i0.2.2).2.1=0/\(GV.x i0.2.2).2.2=0/\(GV.y i0.2.2).1=noA/\(GV.y i0.2.2).2.1=0/\(GV.y i0.2.2).2.2=0/\GV.b i0.2.2=0/\i0.2.1=x8.2.1/\qrg x1 (i0.1=x8.1/\q1a x0 i0/\(∀(i1:Pub),(q5e x1 x3 x4 x5 x7 i1)/\GV.ok x8.2.2 i1->GV.ok i0.2.2 i1)/\True))/\((!decide (x8.2.1=0))=false->zca5 x2 x1 x0 x3 x4 x5 x7 x8)
 abbrev zca2:=((zca3 x0 x1 x3 x4 x5 x6 x7)/\zca3 x0 x1 x3 x4 x5 x6 x7)/\∀(i34:VlB),q1a (zca8 x1 x3 x4 x7) i34->(∃(i35:Pub),(q5e x1 x3 x4 x5 x7 i35)/\GV.ok i34.2.2 i35)->zca4 x2 x1 x0 x3 x4 x5 x7 i34
 abbrev zca1:=(decide (qx9 x3 x7)=true->zca2 x0 x1 x2 x3 x4 x5 x6 x7)/\(decide (qx9 x3 x7)=false->∃(i47:VlB),GV.n i47.2.2=GV.n x7.2.2/\GV.s i47.2.2=GV.s x7.2.2/\(GV.x i47.2.2).1=(GV.x x7.2.2).1/\(GV.x i47.2.2).2.1=(GV.x x7.2.2).2.1/\(GV.x i47.2.2).2.2=(GV.x x7.2.2).2.2/\(GV.y i47.2.2).1=(GV.y x7.2.2).1/\(GV.y i47.2.2).2.1=(GV.y x7.2.2).2.1/\(GV.y i47.2.2).2.2=(GV.y x7.2.2).2.2/\GV.b i47.2.2=GV.b x7.2.2/\i47.2.1=0/\qrg x1 (i47.1=x7.2.1/\q1a x2 i47/\(∀(i48:Pub),q5e x1 x3 x4 x5 x7 i48->GV.ok i47.2.2 i48)/\True))
 abbrev zca0:=(∃(i0:Nat×Int×GV),x0=x0/\(↑i0.1:Int)=0/\qrg x1 (i0.2.1=x2/\qxz x3 (GV.n i0.2.2=0/\GV.s i0.2.2=mkS []/\(GV.x i0.2.2).1=noA/\(GV.x i0.2.2).2.1=0/\(GV.x i0.2.2).2.2=0/\(GV.y i0.2.2).1=noA/\(GV.y i0.2.2).2.1=0/\(GV.y i0.2.2).2.2=0/\GV.b i0.2.2=0/\zca9 x4 ((∀(i1:Pub),qih x1 x3 x4 x5 i1->qih x1 x3 x4 x5 i1)/\(∀(i2:Pub),qih x1 x3 x4 x5 i2->GV.ok i0.2.2 i2)/\(zca12 x2 x3 i0)/\True))))/\∀(i3:Nat×Int×GV),zca12 x2 x3 i3->(∃(i4:Pub),q5e x1 x3 x4 x5 i3 i4)->zca1 x0 x1 x2 x3 x4 x5 x6 i3
end
theorem qsn(n:Nat) (S:List AT) (x:SV) (all:Int) (a:AT) (g:GJ) (d:Int):q68 P (q0r []) (q1s [(83,cVl.below qfr n),(38,cPut)]) Try.f120 ((cVq isMap).below qk6 (n+1)) (wPm) ⟨S,x,all,a,g,d⟩=(qk6 (S,x,all,a,g,d)<n+1/\q0j S/\a∈S/\isMap a g/\GJ.wf g/\(0<=all/\all<=2000)/\1<=d/\d<=20->(∃(p:Pub),qih x g a S p)->zca0 d x all g a S n):=by kernel_rfl
def partM_eq(n:Nat) (S:List AT) (x:SV) (all:Int) (a:AT) (g:GJ) (d:Int):=Eq.trans (qsn n S x all a g d) (by delta qih qrg qxz zca9 zca12 q5e qx9 zca8 zca3 zca7 zca6 zca5 zca4 zca2 zca1 zca0;exact rfl)
noncomputable section
variable (x0:Int) (x1:SV) (x2:Int) (x3:GJ) (x4:AT) (x5:List AT) (x6:Nat) (x7:Nat×Int×List GV) (x8:GJ) (x9:Int) (x10:VlB) (x11:VlS) (x12:Bool) (x13:ByteArray) (x14:Option Addr) (x15:Nat) (x16:Int) (x17:Int) (x18:ByteArray) (x19:Option Addr) (x20:Nat) (x21:Nat) (x22:Option Addr) (x23:Nat) (x24:Nat) (x25:Prop) (x26:Nat->Option Obj) (x27:GJ×ByteArray)
 abbrev qhj:=True/\q0l x5 x1 x26/\AT.ok x4 x26/\GJ.ok x3 x26
 abbrev qob:=x1.1=x1.1/\x1.2.1=x1.2.1/\x1.2.2=x1.2.2/\x25
 abbrev zcb8:=GJ.k x3=GJ.k x3/\GJ.n x3=GJ.n x3/\GJ.s x3=GJ.s x3/\(GJ.y x3).1=(GJ.y x3).1/\(GJ.y x3).2.1=(GJ.y x3).2.1/\(GJ.y x3).2.2=(GJ.y x3).2.2/\(GJ.x x3).1=(GJ.x x3).1/\(GJ.x x3).2.1=(GJ.x x3).2.1/\(GJ.x x3).2.2=(GJ.x x3).2.2/\x25
 abbrev zcb7:=AT.k x4=AT.k x4/\AT.nm x4=AT.nm x4/\(AT.al x4).1=(AT.al x4).1/\(AT.al x4).2.1=(AT.al x4).2.1/\(AT.al x4).2.2=(AT.al x4).2.2/\AT.it x4=AT.it x4/\(AT.sy x4).1=(AT.sy x4).1/\(AT.sy x4).2.1=(AT.sy x4).2.1/\(AT.sy x4).2.2=(AT.sy x4).2.2/\AT.hd x4=AT.hd x4/\AT.df x4=AT.df x4/\AT.sz x4=AT.sz x4/\(AT.f x4).1=(AT.f x4).1/\(AT.f x4).2.1=(AT.f x4).2.1/\(AT.f x4).2.2=(AT.f x4).2.2/\(AT.br x4).1=(AT.br x4).1/\(AT.br x4).2.1=(AT.br x4).2.1/\(AT.br x4).2.2=(AT.br x4).2.2/\x25
 abbrev qzi:=x7.1<=List.length (AT.fs x4)/\(x0<=x7.2.1/\x7.2.1<=2000)/\List.length x7.2.2=x7.1
 abbrev qga:=(qhj x1 x3 x4 x5 x26)/\GV.oks x7.2.2 x26
 abbrev qzd:=(↑x7.1:Int)<(↑(AT.f x4).2.1:Int)
 abbrev zcb14:=(GV.y x10.2.2).1=noA/\(GV.y x10.2.2).2.1=0/\(GV.y x10.2.2).2.2=0/\GV.b x10.2.2=0/\x25
 abbrev zcb11:=GV.n x10.2.2=0/\GV.s x10.2.2=mkS []/\(GV.x x10.2.2).1=noA/\(GV.x x10.2.2).2.1=0/\(GV.x x10.2.2).2.2=0/\zcb14 x10 x25
 abbrev zcb17:=(∀(i0:Pub),qga x1 x3 x4 x5 x7 i0->qga x1 x3 x4 x5 x7 i0)/\(∀(i1:Pub),qga x1 x3 x4 x5 x7 i1->GJ.ok x8 i1)/\GJ.wf x8/\True
 abbrev zcb5:=((!x12)=true->∃(i0:VlB),zcb11 i0 (i0.2.1=7/\qob x1 (i0.1=x7.2.1/\q1a x0 i0/\(∀(i1:Pub),qga x1 x3 x4 x5 x7 i1->GV.ok i0.2.2 i1)/\True)))/\((!x12)=false->∃(i2:GJ),x2=x2/\(↑x7.1:Int)=(↑x7.1:Int)/\qob x1 (x7.2.1=x7.2.1/\zcb8 x3 (List.length x7.2.2=List.length x7.2.2/\zcb7 x4 (x13=x13/\x14=x14/\x6=x6/\x15=x15/\x9=x9/\x12=x12/\x16=x16/\x17=x17/\x18=x18/\x19=x19/\x20=x20/\x21=x21/\x22=x22/\x23=x23/\x24=x24/\q00 GV.cells x7.2.2=q00 GV.cells x7.2.2/\GJ.k i2=x16/\GJ.n i2=x17/\GJ.s i2=x18/\(GJ.y i2).1=x19/\(GJ.y i2).2.1=x20/\(GJ.y i2).2.2=x21/\(GJ.x i2).1=x22/\(GJ.x i2).2.1=x23/\(GJ.x i2).2.2=x24/\zcb17 x1 x3 x4 x5 x7 i2))))
 abbrev qb0:=Option.getD (q0z x27.2 x27.1) zJ
 abbrev zcb16:=x1.1=x11.2.1.1/\x1.2.1=x11.2.1.2.1/\x1.2.2=x11.2.1.2.2/\x25
 abbrev zcb6:=List.length (q00 GV.cells x7.2.2)=List.length x7.2.2*5/\(List.length x7.2.2+nat_lit 1)*80<=140737488355328/\((-9223372036854775808:Int)<=(↑x7.1:Int)+1/\(↑x7.1:Int)+1<=9223372036854775807)/\∃(i0:Nat×Int×List GV),x0=x0/\(↑i0.1:Int)=(↑x7.1:Int)+1/\zcb16 x1 x11 (i0.2.1=x10.1/\zcb8 x3 (List.length i0.2.2=List.length x7.2.2+nat_lit 1/\zcb7 x4 (q00 GV.cells i0.2.2=q00 GV.cells x7.2.2++[Value.int IntKind.u64 (GV.n x10.2.2),Value.string (GV.s x10.2.2),Value.slice (GV.x x10.2.2).1 (GV.x x10.2.2).2.1 (GV.x x10.2.2).2.2,Value.slice (GV.y x10.2.2).1 (GV.y x10.2.2).2.1 (GV.y x10.2.2).2.2,Value.int IntKind.i64 (GV.b x10.2.2)]/\(∀(i1:Pub),((qga x1 x3 x4 x5 x7 i1)/\GJ.ok x8 i1)/\GV.ok x10.2.2 i1->qhj x1 x3 x4 x5 i1)/\(∀(i2:Pub),((qga x1 x3 x4 x5 x7 i2)/\GJ.ok x8 i2)/\GV.ok x10.2.2 i2->GV.oks i0.2.2 i2)/\(qzi x2 x4 i0)/\List.length (AT.fs x4)- i0.1<List.length (AT.fs x4)- x7.1/\True)))
 abbrev zcb4:=((!decide (x10.2.1=0))=true->∃(i0:VlB),zcb11 i0 (i0.2.1=x10.2.1/\zcb16 x1 x11 (i0.1=x10.1/\q1a x0 i0/\(∀(i1:Pub),((qga x1 x3 x4 x5 x7 i1)/\GJ.ok x8 i1)/\GV.ok x10.2.2 i1->GV.ok i0.2.2 i1)/\True)))/\((!decide (x10.2.1=0))=false->zcb6 x2 x1 x0 x3 x4 x5 x7 x8 x10 x11)
 abbrev zcb3:=((-9223372036854775808:Int)<=x0+1/\x0+1<=9223372036854775807)/\∃(i0:VlS),i0.2.2.2.1=x2/\GJ.k i0.2.2.2.2.1=GJ.k x3/\GJ.n i0.2.2.2.2.1=GJ.n x3/\GJ.s i0.2.2.2.2.1=GJ.s x3/\(GJ.y i0.2.2.2.2.1).1=(GJ.y x3).1/\(GJ.y i0.2.2.2.2.1).2.1=(GJ.y x3).2.1/\(GJ.y i0.2.2.2.2.1).2.2=(GJ.y x3).2.2/\(GJ.x i0.2.2.2.2.1).1=(GJ.x x3).1/\(GJ.x i0.2.2.2.2.1).2.1=(GJ.x x3).2.1/\(GJ.x i0.2.2.2.2.1).2.2=(GJ.x x3).2.2/\i0.2.2.2.2.2=x0+1/\i0.2.1.1=x1.1/\i0.2.1.2.1=x1.2.1/\i0.2.1.2.2=x1.2.2/\i0.2.2.1=x7.2.1/\(qfr i0<x6/\q0j i0.1/\(0<=i0.2.2.2.1/\i0.2.2.2.1<(↑(List.length i0.1):Int))/\GJ.wf i0.2.2.2.2.1/\(0<=i0.2.2.1/\i0.2.2.1<=2000)/\1<=i0.2.2.2.2.2/\i0.2.2.2.2.2<=21)/\(∀(i1:Pub),(qga x1 x8 x4 x5 x7 i1)/\GJ.ok x3 i1->q0l i0.1 i0.2.1 i1/\GJ.ok i0.2.2.2.2.1 i1)/\∀(i2:VlB),q1a i0.2.2.1 i2->(∃(i3:Pub),((qga x1 x8 x4 x5 x7 i3)/\GJ.ok x3 i3)/\GV.ok i2.2.2 i3)->zcb4 x9 x1 x0 x8 x4 x5 x7 x3 i2 i0
 abbrev zcb2:=(0<=(↑x7.1:Int)/\qzd x4 x7)/\(AT.f x4).1≠noA/\∃(i0:ByteArray),∃(i1:Option Addr),∃(i2:Nat),∃(i3:Nat),∃(i4:Int),∃(i5:Bool),∃(i6:Int),∃(i7:Int),∃(i8:ByteArray),∃(i9:Option Addr),∃(i10:Nat),∃(i11:Nat),∃(i12:Option Addr),∃(i13:Nat),∃(i14:Nat),(∀(i15:Pub),qga x1 x3 x4 x5 x7 i15->q02 i15 (adr (AT.f x4).1 (Int.toNat (↑x7.1:Int)*9)) [Value.string i0,Value.slice i1 i2 i3,Value.int IntKind.i64 i4,Value.bool i5,Value.int IntKind.i64 i6,Value.int IntKind.i64 i7,Value.string i8,Value.slice i9 i10 i11,Value.slice i12 i13 i14])/\∃(i16:GJ×ByteArray),GJ.k i16.1=GJ.k x3/\GJ.n i16.1=GJ.n x3/\GJ.s i16.1=GJ.s x3/\(GJ.y i16.1).1=(GJ.y x3).1/\(GJ.y i16.1).2.1=(GJ.y x3).2.1/\(GJ.y i16.1).2.2=(GJ.y x3).2.2/\(GJ.x i16.1).1=(GJ.x x3).1/\(GJ.x i16.1).2.1=(GJ.x x3).2.1/\(GJ.x i16.1).2.2=(GJ.x x3).2.2/\i16.2=i0/\GJ.wf i16.1/\(∀(i17:Pub),qga x1 x3 x4 x5 x7 i17->GJ.ok i16.1 i17)/\(((!Option.isSome (q0z i16.2 i16.1))=true->zcb5 x0 x1 x2 x3 x4 x5 i2 x7 i4 i5 i0 i1 i3 i6 i7 i8 i9 i10 i11 i12 i13 i14)/\((!Option.isSome (q0z i16.2 i16.1))=false->∃(i23:GJ),x2=x2/\(↑x7.1:Int)=(↑x7.1:Int)/\qob x1 (x7.2.1=x7.2.1/\zcb8 x3 (List.length x7.2.2=List.length x7.2.2/\zcb7 x4 (i0=i0/\i1=i1/\i2=i2/\i3=i3/\i4=i4/\i5=i5/\i6=i6/\i7=i7/\i8=i8/\i9=i9/\i10=i10/\i11=i11/\i12=i12/\i13=i13/\i14=i14/\q00 GV.cells x7.2.2=q00 GV.cells x7.2.2/\GJ.k i23=GJ.k (qb0 i16)/\GJ.n i23=GJ.n (qb0 i16)/\GJ.s i23=GJ.s (qb0 i16)/\(GJ.y i23).1=(GJ.y (qb0 i16)).1/\(GJ.y i23).2.1=(GJ.y (qb0 i16)).2.1/\(GJ.y i23).2.2=(GJ.y (qb0 i16)).2.2/\(GJ.x i23).1=(GJ.x (qb0 i16)).1/\(GJ.x i23).2.1=(GJ.x (qb0 i16)).2.1/\(GJ.x i23).2.2=(GJ.x (qb0 i16)).2.2/\zcb17 x1 x3 x4 x5 x7 i23)))))/\∀(i26:GJ),GJ.wf i26->(∃(i27:Pub),(qga x1 x3 x4 x5 x7 i27)/\GJ.ok i26 i27)->zcb3 x2 x1 i4 i26 x4 x5 x6 x7 x3 x0
 abbrev zcb1:=(decide (qzd x4 x7)=true->zcb2 x0 x1 x2 x3 x4 x5 x6 x7)/\(decide (qzd x4 x7)=false->∀(i37 i38 i39:Nat) (i40:Option Addr) (i41 i42:Nat),(∃(i43:Pub),(qga x1 x3 x4 x5 x7 i43)/\List.length x7.2.2<=i42/\q1l i43 i40 (List.take (List.length x7.2.2*nat_lit 5) (q00 GV.cells x7.2.2)))->∃(i44:VlB),GV.n i44.2.2=0/\GV.s i44.2.2=mkS []/\(GV.x i44.2.2).1=i40/\(GV.x i44.2.2).2.1=List.length x7.2.2/\(GV.x i44.2.2).2.2=i42/\zcb14 i44 (i44.2.1=0/\qob x1 (i44.1=x7.2.1/\q1a x0 i44/\(∀(i45:Pub),(qga x1 x3 x4 x5 x7 i45)/\List.length x7.2.2<=i42/\q1l i45 i40 (List.take (List.length x7.2.2*nat_lit 5) (q00 GV.cells x7.2.2))->GV.ok i44.2.2 i45)/\True)))
 abbrev zcb0:=(∃(i0:Nat×Int×List GV),x0=x0/\(↑i0.1:Int)=0/\qob x1 (i0.2.1=x2/\zcb8 x3 (List.length i0.2.2=0/\zcb7 x4 ((∀(i1:Pub),qhj x1 x3 x4 x5 i1->qhj x1 x3 x4 x5 i1)/\(∀(i2:Pub),qhj x1 x3 x4 x5 i2->GV.oks i0.2.2 i2)/\(qzi x2 x4 i0)/\True))))/\∀(i3:Nat×Int×List GV),qzi x2 x4 i3->(∃(i4:Pub),qga x1 x3 x4 x5 i3 i4)->zcb1 x2 x1 x0 x3 x4 x5 x6 i3
end
theorem recV_eqz(n:Nat) (S:List AT) (x:SV) (all:Int) (a:AT) (g:GJ) (d:Int):q68 P (q0r [(75,qb6)]) (q1s [(83,cVl.below qfr n)]) Try.f121 ((cVq isRec).below qk6 (n+1)) (wRe) ⟨S,x,all,a,g,d⟩=(qk6 (S,x,all,a,g,d)<n+1/\q0j S/\a∈S/\isRec a g/\GJ.wf g/\(0<=all/\all<=2000)/\1<=d/\d<=20->(∃(p:Pub),qhj x g a S p)->zcb0 d x all g a S n):=by kernel_rfl
def recV_eq(n:Nat) (S:List AT) (x:SV) (all:Int) (a:AT) (g:GJ) (d:Int):=Eq.trans (recV_eqz n S x all a g d) (by delta qhj qob zcb8 zcb7 qzi qga qzd zcb14 zcb11 zcb17 zcb5 qb0 zcb16 zcb6 zcb4 zcb3 zcb2 zcb1 zcb0;exact rfl)
noncomputable section
variable (x0:Int) (x1:Int) (x2:SV) (x3:List AT) (x4:GJ) (x5:Int) (x6:Nat) (x7:ByteArray) (x8:Option Addr) (x9:Nat) (x10:Int) (x11:Option Addr) (x12:Nat) (x13:Nat) (x14:Bool) (x15:ByteArray) (x16:Int) (x17:Option Addr) (x18:Nat) (x19:Nat) (x20:Option Addr) (x21:Nat) (x22:Nat) (x23:Nat) (x24:Prop) (x25:VlB) (x26:Int) (x27:Int) (x28:ByteArray×Bool) (x29:VqS) (x30:VlB) (x31:Nat->Option Obj)
 abbrev q3e:=True/\q0l x3 x2 x31/\GJ.ok x4 x31
 abbrev zcc52:=((-9223372036854775808:Int)<=x0+1/\x0+1<=9223372036854775807)
 abbrev qlx:=GV.n x25.2.2=0/\GV.s x25.2.2=mkS []/\x24
 abbrev zcc49:=(GV.y x25.2.2).1=noA/\(GV.y x25.2.2).2.1=0/\(GV.y x25.2.2).2.2=0/\GV.b x25.2.2=0/\x24
 abbrev qw0:=x2.1=x2.1/\x2.2.1=x2.2.1/\x2.2.2=x2.2.2/\x24
 abbrev qa4:=(GV.x x25.2.2).1=noA/\(GV.x x25.2.2).2.1=0/\(GV.x x25.2.2).2.2=0/\zcc49 (x25.2.1=x1/\qw0 x2 (x25.1=x0+1/\q1a x0 x25/\(∀(i0:Pub),q3e x2 x3 x4 i0->GV.ok x25.2.2 i0)/\True)) x25
 abbrev q3p:=decide (GJ.k x4=3)=decide (GJ.k x4=3)
 abbrev q3m:=qw0 x2 (x0+1=x0+1/\GJ.k x4=GJ.k x4/\GJ.n x4=GJ.n x4/\GJ.s x4=GJ.s x4/\(GJ.y x4).1=(GJ.y x4).1/\(GJ.y x4).2.1=(GJ.y x4).2.1/\(GJ.y x4).2.2=(GJ.y x4).2.2/\(GJ.x x4).1=(GJ.x x4).1/\(GJ.x x4).2.1=(GJ.x x4).2.1/\(GJ.x x4).2.2=(GJ.x x4).2.2/\x1=x1/\x7=x7/\x8=x8/\x6=x6/\x9=x9/\x5=x5/\x11=x11/\x12=x12/\x13=x13/\x14=x14/\x15=x15/\x10=x10/\x17=x17/\x18=x18/\x19=x19/\x20=x20/\x21=x21/\x22=x22/\(∀(i0:Pub),q3e x2 x3 x4 i0->q3e x2 x3 x4 i0)/\True/\x24)
 abbrev qi4:=((decide (x0=x26)=true->∃(i0:Unit),x1=x1/\q3p x4/\bq x26 x27 (GJ.k x4) x0=decide (GJ.k x4=x27)/\q3m x5 x0 x2 x3 x4 x10 x6 x7 x8 x9 x16 x11 x12 x13 x14 x15 x17 x18 x19 x20 x21 x22 True)/\(decide (x0=x26)=false->∃(i1:Unit),x1=x1/\q3p x4/\bq x26 x27 (GJ.k x4) x0=false/\q3m x5 x0 x2 x3 x4 x10 x6 x7 x8 x9 x16 x11 x12 x13 x14 x15 x17 x18 x19 x20 x21 x22 True))
 abbrev zcc43:=((decide (x0=x26)=true->∃(i0:Unit),x1=x1/\bq x26 x27 (GJ.k x4) x0=decide (GJ.k x4=x27)/\q3p x4/\q3m x5 x0 x2 x3 x4 x10 x6 x7 x8 x9 x16 x11 x12 x13 x14 x15 x17 x18 x19 x20 x21 x22 True)/\(decide (x0=x26)=false->∃(i1:Unit),x1=x1/\bq x26 x27 (GJ.k x4) x0=false/\q3p x4/\q3m x5 x0 x2 x3 x4 x10 x6 x7 x8 x9 x16 x11 x12 x13 x14 x15 x17 x18 x19 x20 x21 x22 True))
 abbrev zcc53:=∃(i0:VlB),GV.n i0.2.2=IntKind.wrap IntKind.u64 (GJ.n x4)/\GV.s i0.2.2=mkS []/\qa4 x0 0 x2 x3 x4 i0
 abbrev zcc42:=(decide ((-2147483648:Int)<=GJ.n x4)=true->∃(i0:Unit),x0=x0/\q3p x4/\bI (GJ.k x4) (GJ.n x4) x1=decide (GJ.n x4<2147483648)/\q3m x5 x1 x2 x3 x4 x10 x6 x7 x8 x9 x16 x11 x12 x13 x14 x15 x17 x18 x19 x20 x21 x22 True)/\(decide ((-2147483648:Int)<=GJ.n x4)=false->∃(i1:Unit),x0=x0/\q3p x4/\bI (GJ.k x4) (GJ.n x4) x1=false/\q3m x5 x1 x2 x3 x4 x10 x6 x7 x8 x9 x16 x11 x12 x13 x14 x15 x17 x18 x19 x20 x21 x22 True)
 abbrev zcc36:=(decide (GJ.k x4=3)=true->zcc42 x0 x1 x2 x3 x4 x5 x6 x7 x8 x9 x10 x11 x12 x13 x14 x15 x16 x17 x18 x19 x20 x21 x22)/\(decide (GJ.k x4=3)=false->∃(i2:Unit),x0=x0/\q3p x4/\bI (GJ.k x4) (GJ.n x4) x1=false/\q3m x5 x1 x2 x3 x4 x10 x6 x7 x8 x9 x16 x11 x12 x13 x14 x15 x17 x18 x19 x20 x21 x22 True)
 abbrev zcc44:=(decide (x0=4)=true->∃(i0:Unit),x1=x1/\q3p x4/\bN (GJ.k x4) (GJ.n x4) x0=decide (GJ.k x4=3)/\q3m x5 x0 x2 x3 x4 x10 x6 x7 x8 x9 x16 x11 x12 x13 x14 x15 x17 x18 x19 x20 x21 x22 True)/\(decide (x0=4)=false->∃(i1:Unit),x1=x1/\q3p x4/\bN (GJ.k x4) (GJ.n x4) x0=false/\q3m x5 x0 x2 x3 x4 x10 x6 x7 x8 x9 x16 x11 x12 x13 x14 x15 x17 x18 x19 x20 x21 x22 True)
 abbrev zcc39:=(bI (GJ.k x4) (GJ.n x4) x0=true->∃(i0:Unit),x1=x1/\q3p x4/\bN (GJ.k x4) (GJ.n x4) x0=bI (GJ.k x4) (GJ.n x4) x0/\q3m x5 x0 x2 x3 x4 x10 x6 x7 x8 x9 x16 x11 x12 x13 x14 x15 x17 x18 x19 x20 x21 x22 True)/\(bI (GJ.k x4) (GJ.n x4) x0=false->zcc44 x0 x1 x2 x3 x4 x5 x6 x7 x8 x9 x10 x11 x12 x13 x14 x15 x16 x17 x18 x19 x20 x21 x22)
 abbrev zcc47:=(decide (x0=11)=true->∃(i0:Unit),x1=x1/\q3p x4/\bT (GJ.k x4) x0=decide (GJ.k x4=4)/\q3m x5 x0 x2 x3 x4 x10 x6 x7 x8 x9 x16 x11 x12 x13 x14 x15 x17 x18 x19 x20 x21 x22 True)/\(decide (x0=11)=false->∃(i1:Unit),x1=x1/\q3p x4/\bT (GJ.k x4) x0=false/\q3m x5 x0 x2 x3 x4 x10 x6 x7 x8 x9 x16 x11 x12 x13 x14 x15 x17 x18 x19 x20 x21 x22 True)
 abbrev qh3:=qw0 x2 (x0+1=x0+1/\(∀(i0:Pub),q3e x2 x3 x4 i0->q3e x2 x3 x4 i0)/\True/\True)
 abbrev zcc45:=(decide (x0=7)=true->∃(i0:Bool),x28.1=x28.1/\i0=true/\qh3 x1 x2 x3 x4)/\(decide (x0=7)=false->∃(i1:Bool),x28.1=x28.1/\i1=decide ((↑(ByteArray.size x28.1):Int)=x5)/\qh3 x1 x2 x3 x4)
 abbrev zcc51:=(x14=true->∃(i0:VlB),GV.n i0.2.2=0/\GV.s i0.2.2=x28.1/\qa4 x0 0 x2 x3 x4 i0)/\(x14=false->∃(i1:Unit),qh3 x0 x2 x3 x4)
 abbrev zcc28:=((x28.2=true->zcc45 x0 x1 x2 x3 x4 x5 x28)/\(x28.2=false->∃(i4:Bool),x28.1=x28.1/\i4=false/\qh3 x1 x2 x3 x4))/\∀(i6:Bool),True->zcc51 x1 x2 x3 x4 i6 x28
 abbrev zcc37:=(0<=(↑x6:Int)/\(↑x6:Int)<(↑x9:Int))/\x8≠noA/\∃(i0:ByteArray),(∀(i1:Pub),q3e x2 x3 x4 i1->q02 i1 (adr x8 (Int.toNat (↑x6:Int)*1)) [Value.string i0])/\(decide (i0=GJ.s x4)=true->∃(i2:VlB),GV.n i2.2.2=IntKind.wrap IntKind.u64 (↑x6:Int)/\GV.s i2.2.2=mkS []/\qa4 x0 0 x2 x3 x4 i2)/\(decide (i0=GJ.s x4)=false->((-9223372036854775808:Int)<=(↑x6:Int)+1/\(↑x6:Int)+1<=9223372036854775807)/\∃(i3:Nat),x1=x1/\q3p x4/\(↑i3:Int)=(↑x6:Int)+1/\q3m x0 x5 x2 x3 x4 x10 x12 x7 x11 x13 x16 x8 x9 x18 x14 x15 x17 x19 x21 x20 x22 x23 ((1000:Nat)- i3<1000- x6/\True))
 abbrev zcc34:=(decide ((↑x6:Int)<(↑x9:Int))=true->zcc37 x0 x1 x2 x3 x4 x5 x6 x7 x8 x9 x10 x11 x12 x13 x14 x15 x16 x17 x18 x19 x20 x21 x22 x23)/\(decide ((↑x6:Int)<(↑x9:Int))=false->∃(i4:Unit),qh3 x0 x2 x3 x4)
 abbrev zcc33:=(∃(i0:Nat),x0=x0/\q3p x4/\(↑i0:Int)=0/\q3m x1 x5 x2 x3 x4 x10 x6 x7 x8 x9 x16 x11 x12 x13 x14 x15 x17 x18 x19 x20 x21 x22 True)/\∀(i1:Nat),True->zcc34 x1 x0 x2 x3 x4 x5 i1 x7 x11 x12 x10 x8 x6 x9 x14 x15 x16 x17 x13 x18 x20 x19 x21 x22
 abbrev zcc48:=(decide (x0=13)=true->∃(i0:Unit),x1=x1/\q3p x4/\bP (GJ.k x4) x0=decide (GJ.k x4=6)/\q3m x5 x0 x2 x3 x4 x10 x6 x7 x8 x9 x16 x11 x12 x13 x14 x15 x17 x18 x19 x20 x21 x22 True)/\(decide (x0=13)=false->∃(i1:Unit),x1=x1/\q3p x4/\bP (GJ.k x4) x0=false/\q3m x5 x0 x2 x3 x4 x10 x6 x7 x8 x9 x16 x11 x12 x13 x14 x15 x17 x18 x19 x20 x21 x22 True)
 abbrev zcc38:=(bq 12 5 (GJ.k x4) x0=true->∃(i0:Unit),x1=x1/\q3p x4/\bP (GJ.k x4) x0=bq 12 5 (GJ.k x4) x0/\q3m x5 x0 x2 x3 x4 x10 x6 x7 x8 x9 x16 x11 x12 x13 x14 x15 x17 x18 x19 x20 x21 x22 True)/\(bq 12 5 (GJ.k x4) x0=false->zcc48 x0 x1 x2 x3 x4 x5 x6 x7 x8 x9 x10 x11 x12 x13 x14 x15 x16 x17 x18 x19 x20 x21 x22)
 abbrev zcc30:=AT.k x29.2.2.2.1=x0/\AT.nm x29.2.2.2.1=x7/\(AT.al x29.2.2.2.1).1=x8/\(AT.al x29.2.2.2.1).2.1=x6/\(AT.al x29.2.2.2.1).2.2=x9/\AT.it x29.2.2.2.1=x1/\(AT.sy x29.2.2.2.1).1=x11/\(AT.sy x29.2.2.2.1).2.1=x12/\(AT.sy x29.2.2.2.1).2.2=x13/\AT.hd x29.2.2.2.1=x14/\AT.df x29.2.2.2.1=x15/\AT.sz x29.2.2.2.1=x5/\(AT.f x29.2.2.2.1).1=x17/\(AT.f x29.2.2.2.1).2.1=x18/\(AT.f x29.2.2.2.1).2.2=x19/\(AT.br x29.2.2.2.1).1=x20/\(AT.br x29.2.2.2.1).2.1=x21/\(AT.br x29.2.2.2.1).2.2=x22/\GJ.k x29.2.2.2.2.1=GJ.k x4/\GJ.n x29.2.2.2.2.1=GJ.n x4/\GJ.s x29.2.2.2.2.1=GJ.s x4/\(GJ.y x29.2.2.2.2.1).1=(GJ.y x4).1/\(GJ.y x29.2.2.2.2.1).2.1=(GJ.y x4).2.1/\(GJ.y x29.2.2.2.2.1).2.2=(GJ.y x4).2.2/\(GJ.x x29.2.2.2.2.1).1=(GJ.x x4).1/\(GJ.x x29.2.2.2.2.1).2.1=(GJ.x x4).2.1/\(GJ.x x29.2.2.2.2.1).2.2=(GJ.x x4).2.2/\x29.2.2.2.2.2=x10/\x29.2.1.1=x2.1/\x29.2.1.2.1=x2.2.1/\x29.2.1.2.2=x2.2.2/\x29.2.2.1=x16+1/\x24
 abbrev zcc46:=GJ.wf x29.2.2.2.2.1/\(0<=x29.2.2.1/\x29.2.2.1<=2000)/\1<=x29.2.2.2.2.2/\x29.2.2.2.2.2<=20
 abbrev zcc35:=GV.n x25.2.2=GV.n x30.2.2/\GV.s x25.2.2=GV.s x30.2.2/\(GV.x x25.2.2).1=(GV.x x30.2.2).1/\(GV.x x25.2.2).2.1=(GV.x x30.2.2).2.1/\(GV.x x25.2.2).2.2=(GV.x x30.2.2).2.2/\(GV.y x25.2.2).1=(GV.y x30.2.2).1/\(GV.y x25.2.2).2.1=(GV.y x30.2.2).2.1/\(GV.y x25.2.2).2.2=(GV.y x30.2.2).2.2/\GV.b x25.2.2=GV.b x30.2.2/\x24
 abbrev zcc31:=(∀(i0:Pub),q3e x2 x3 x4 i0->q0l x29.1 x29.2.1 i0/\AT.ok x29.2.2.2.1 i0/\GJ.ok x29.2.2.2.2.1 i0)/\∀(i1:VlB),q1a x29.2.2.1 i1->(∃(i2:Pub),(q3e x2 x3 x4 i2)/\GV.ok i1.2.2 i2)->∃(i3:VlB),zcc35 (i3.2.1=i1.2.1/\x2.1=x29.2.1.1/\x2.2.1=x29.2.1.2.1/\x2.2.2=x29.2.1.2.2/\i3.1=i1.1/\q1a x0 i3/\(∀(i4:Pub),(q3e x2 x3 x4 i4)/\GV.ok i1.2.2 i4->GV.ok i3.2.2 i4)/\True) i3 i1
 abbrev zcc26:=((0:Int)<=0/\0<(↑x6:Int))/\x8≠noA/\∃(i0:Int),(∀(i1:Pub),q3e x2 x3 x4 i1->q02 i1 (adr x8 ((0:Nat)*1)) [Value.int IntKind.i64 i0])/\zcc52 x0/\∃(i2:VlS),i2.2.2.2.1=i0/\GJ.k i2.2.2.2.2.1=GJ.k x4/\GJ.n i2.2.2.2.2.1=GJ.n x4/\GJ.s i2.2.2.2.2.1=GJ.s x4/\(GJ.y i2.2.2.2.2.1).1=(GJ.y x4).1/\(GJ.y i2.2.2.2.2.1).2.1=(GJ.y x4).2.1/\(GJ.y i2.2.2.2.2.1).2.2=(GJ.y x4).2.2/\(GJ.x i2.2.2.2.2.1).1=(GJ.x x4).1/\(GJ.x i2.2.2.2.2.1).2.1=(GJ.x x4).2.1/\(GJ.x i2.2.2.2.2.1).2.2=(GJ.x x4).2.2/\i2.2.2.2.2.2=x0+1/\i2.2.1.1=x2.1/\i2.2.1.2.1=x2.2.1/\i2.2.1.2.2=x2.2.2/\i2.2.2.1=x1+1/\(qfr i2<x9/\q0j i2.1/\(0<=i2.2.2.2.1/\i2.2.2.2.1<(↑(List.length i2.1):Int))/\GJ.wf i2.2.2.2.2.1/\(0<=i2.2.2.1/\i2.2.2.1<=2000)/\1<=i2.2.2.2.2.2/\i2.2.2.2.2.2<=21)/\(∀(i3:Pub),q3e x2 x3 x4 i3->q0l i2.1 i2.2.1 i3/\GJ.ok i2.2.2.2.2.1 i3)/\∀(i4:VlB),q1a i2.2.2.1 i4->(∃(i5:Pub),(q3e x2 x3 x4 i5)/\GV.ok i4.2.2 i5)->∃(i6:VlB),i6.2.1=i4.2.1/\x2.1=i2.2.1.1/\x2.2.1=i2.2.1.2.1/\x2.2.2=i2.2.1.2.2/\i6.1=i4.1/\zcc35 ((∀(i7:Pub),(q3e x2 x3 x4 i7)/\GV.ok i4.2.2 i7->q3e x2 x3 x4 i7)/\(∀(i8:Pub),(q3e x2 x3 x4 i8)/\GV.ok i4.2.2 i8->GV.ok i6.2.2 i8)/\q1a x1 i6/\True) i6 i4
 abbrev zcc24:=((zcc26 x0 x1 x2 x3 x4 x6 x8 x9)/\zcc26 x0 x1 x2 x3 x4 x6 x8 x9)/\∀(i18:VlB),q1a x1 i18->(∃(i19:Pub),(q3e x2 x3 x4 i19)/\GV.ok i18.2.2 i19)->∀(i20 i21 i22:Nat),(∃(i23:Pub),((q3e x2 x3 x4 i23)/\GV.ok i18.2.2 i23)/\q02 i23 (Addr.mk i20 i21 none) [Value.int IntKind.u64 (GV.n i18.2.2),Value.string (GV.s i18.2.2),Value.slice (GV.x i18.2.2).1 (GV.x i18.2.2).2.1 (GV.x i18.2.2).2.2,Value.slice (GV.y i18.2.2).1 (GV.y i18.2.2).2.1 (GV.y i18.2.2).2.2,Value.int IntKind.i64 (GV.b i18.2.2)])->∃(i24:VlB),qlx ((GV.x i24.2.2).1=some (Addr.mk i20 (i21+nat_lit 0) none)/\(GV.x i24.2.2).2.1=nat_lit 1/\(GV.x i24.2.2).2.2=nat_lit 1/\zcc49 (i24.2.1=i18.2.1/\qw0 x2 (i24.1=i18.1/\q1a x1 i24/\(∀(i25:Pub),(((q3e x2 x3 x4 i25)/\GV.ok i18.2.2 i25)/\∀(i26:Nat) (i27:Value),[Value.int IntKind.u64 (GV.n i18.2.2),Value.string (GV.s i18.2.2),Value.slice (GV.x i18.2.2).1 (GV.x i18.2.2).2.1 (GV.x i18.2.2).2.2,Value.slice (GV.y i18.2.2).1 (GV.y i18.2.2).2.1 (GV.y i18.2.2).2.2,Value.int IntKind.i64 (GV.b i18.2.2)][i26]? =some i27->q2q i25 (Addr.add (Addr.mk i20 i21 none) i26)=some i27)->GV.ok i24.2.2 i25)/\True)) i24) i24
 abbrev zcc23:=(decide (x0=14)=true->zcc24 x1 x5 x2 x3 x4 x6 x8 x9)/\(decide (x0=14)=false->∃(i28:Unit),qh3 x5 x2 x3 x4)
 abbrev zcc22:=(bq 9 6 (GJ.k x4) x0=true->∃(i0:VqS),zcc30 x0 x1 x2 x4 x5 x6 x7 x8 x9 x10 x11 x12 x13 x14 x15 x16 x17 x18 x19 x20 x21 x22 ((qk6 i0<x23+1/\q0j i0.1/\i0.2.2.2.1∈i0.1/\isRec i0.2.2.2.1 i0.2.2.2.2.1/\zcc46 i0)/\zcc31 x16 x2 x3 x4 i0) i0)/\(bq 9 6 (GJ.k x4) x0=false->zcc23 x0 x10 x2 x3 x4 x16 x21 x20 x23)
 abbrev zcc21:=qi4 x0 x1 x2 x3 x4 x5 x6 x7 x8 x9 x10 x11 x12 x13 x14 x15 x16 x17 x18 x19 x20 x21 x22 9 6/\∀(i2:Unit),True->zcc22 x0 x10 x2 x3 x4 x16 x6 x7 x8 x9 x1 x11 x12 x13 x14 x15 x5 x17 x18 x19 x20 x21 x22 x23
 abbrev zcc20:=(bP (GJ.k x4) x0=true->∃(i0:VqS),zcc30 x0 x1 x2 x4 x5 x6 x7 x8 x9 x10 x11 x12 x13 x14 x15 x16 x17 x18 x19 x20 x21 x22 ((qk6 i0<x23+1/\q0j i0.1/\i0.2.2.2.1∈i0.1/\isPar i0.2.2.2.1 i0.2.2.2.2.1/\zcc46 i0)/\zcc31 x16 x2 x3 x4 i0) i0)/\(bP (GJ.k x4) x0=false->zcc21 x0 x10 x2 x3 x4 x16 x6 x7 x8 x9 x1 x11 x12 x13 x14 x15 x5 x17 x18 x19 x20 x21 x22 x23)
 abbrev zcc19:=(qi4 x0 x1 x2 x3 x4 x5 x6 x7 x8 x9 x10 x11 x12 x13 x14 x15 x16 x17 x18 x19 x20 x21 x22 12 5/\∀(i2:Unit),True->zcc38 x0 x1 x2 x3 x4 x5 x6 x7 x8 x9 x10 x11 x12 x13 x14 x15 x16 x17 x18 x19 x20 x21 x22)/\∀(i6:Unit),True->zcc20 x0 x10 x2 x3 x4 x16 x6 x7 x8 x9 x1 x11 x12 x13 x14 x15 x5 x17 x18 x19 x20 x21 x22 x23
 abbrev zcc17:=(bq 10 4 (GJ.k x4) x0=true->zcc33 x1 x5 x2 x3 x4 x0 x6 x7 x8 x9 x10 x11 x12 x13 x14 x15 x16 x17 x18 x19 x20 x21 x22)/\(bq 10 4 (GJ.k x4) x0=false->zcc19 x0 x1 x2 x3 x4 x5 x6 x7 x8 x9 x10 x11 x12 x13 x14 x15 x16 x17 x18 x19 x20 x21 x22 x23)
 abbrev zcc16:=qi4 x0 x1 x2 x3 x4 x5 x6 x7 x8 x9 x10 x11 x12 x13 x14 x15 x16 x17 x18 x19 x20 x21 x22 10 4/\∀(i4:Unit),True->zcc17 x0 x1 x2 x3 x4 x5 x6 x7 x8 x9 x10 x11 x12 x13 x14 x15 x16 x17 x18 x19 x20 x21 x22 x23
 abbrev zcc15:=(bT (GJ.k x4) x0=true->∃(i0:ByteArray),i0=GJ.s x4/\ByteArray.size i0<1000000/\∀(i1:ByteArray×Bool),ByteArray.size i1.1<=ByteArray.size i0->zcc28 x0 x1 x2 x3 x4 x5 i1)/\(bT (GJ.k x4) x0=false->zcc16 x0 x10 x2 x3 x4 x1 x6 x7 x8 x9 x16 x11 x12 x13 x14 x15 x5 x17 x18 x19 x20 x21 x22 x23)
 abbrev zcc14:=((decide (x0=7)=true->∃(i0:Unit),x1=x1/\q3p x4/\bT (GJ.k x4) x0=decide (GJ.k x4=4)/\q3m x5 x0 x2 x3 x4 x10 x6 x7 x8 x9 x16 x11 x12 x13 x14 x15 x17 x18 x19 x20 x21 x22 True)/\(decide (x0=7)=false->zcc47 x0 x1 x2 x3 x4 x5 x6 x7 x8 x9 x10 x11 x12 x13 x14 x15 x16 x17 x18 x19 x20 x21 x22))/\∀(i6:Unit),True->zcc15 x0 x5 x2 x3 x4 x16 x6 x7 x8 x9 x1 x11 x12 x13 x14 x15 x10 x17 x18 x19 x20 x21 x22 x23
 abbrev zcc13:=(bq 8 4 (GJ.k x4) x0=true->∃(i0:VlB),GV.n i0.2.2=0/\GV.s i0.2.2=GJ.s x4/\qa4 x1 0 x2 x3 x4 i0)/\(bq 8 4 (GJ.k x4) x0=false->zcc14 x0 x5 x2 x3 x4 x1 x6 x7 x8 x9 x10 x11 x12 x13 x14 x15 x16 x17 x18 x19 x20 x21 x22 x23)
 abbrev zcc12:=qi4 x0 x1 x2 x3 x4 x5 x6 x7 x8 x9 x10 x11 x12 x13 x14 x15 x16 x17 x18 x19 x20 x21 x22 8 4/\∀(i4:Unit),True->zcc13 x0 x5 x2 x3 x4 x1 x6 x7 x8 x9 x10 x11 x12 x13 x14 x15 x16 x17 x18 x19 x20 x21 x22 x23
 abbrev zcc11:=(bq 6 3 (GJ.k x4) x0=true->∃(i0:Int),i0=GJ.n x4/\i64P i0/\∀(i1:Int),qeg i1->∃(i2:VlB),GV.n i2.2.2=i1/\GV.s i2.2.2=mkS []/\qa4 x1 0 x2 x3 x4 i2)/\(bq 6 3 (GJ.k x4) x0=false->zcc12 x0 x5 x2 x3 x4 x1 x6 x7 x8 x9 x10 x11 x12 x13 x14 x15 x16 x17 x18 x19 x20 x21 x22 x23)
 abbrev zcc10:=qi4 x0 x1 x2 x3 x4 x5 x6 x7 x8 x9 x10 x11 x12 x13 x14 x15 x16 x17 x18 x19 x20 x21 x22 6 3/\∀(i4:Unit),True->zcc11 x0 x5 x2 x3 x4 x1 x6 x7 x8 x9 x10 x11 x12 x13 x14 x15 x16 x17 x18 x19 x20 x21 x22 x23
 abbrev zcc9:=(bq 5 3 (GJ.k x4) x0=true->∃(i0:Int),i0=GJ.n x4/\i64P i0/\∀(i1:Int),0<=i1/\i1<4294967296->(0<=i1/\i1<=18446744073709551615)/\∃(i2:VlB),GV.n i2.2.2=i1/\GV.s i2.2.2=mkS []/\qa4 x1 0 x2 x3 x4 i2)/\(bq 5 3 (GJ.k x4) x0=false->zcc10 x0 x5 x2 x3 x4 x1 x6 x7 x8 x9 x10 x11 x12 x13 x14 x15 x16 x17 x18 x19 x20 x21 x22 x23)
 abbrev zcc8:=zcc43 x0 x1 x2 x3 x4 x5 x6 x7 x8 x9 x10 x11 x12 x13 x14 x15 x16 x17 x18 x19 x20 x21 x22 5 3/\∀(i4:Unit),True->zcc9 x0 x5 x2 x3 x4 x1 x6 x7 x8 x9 x10 x11 x12 x13 x14 x15 x16 x17 x18 x19 x20 x21 x22 x23
 abbrev zcc7:=(bN (GJ.k x4) (GJ.n x4) x0=true->zcc53 x1 x2 x3 x4)/\(bN (GJ.k x4) (GJ.n x4) x0=false->zcc8 x0 x5 x2 x3 x4 x1 x6 x7 x8 x9 x10 x11 x12 x13 x14 x15 x16 x17 x18 x19 x20 x21 x22 x23)
 abbrev zcc6:=(((decide (x0=3)=true->zcc36 x1 x0 x2 x3 x4 x5 x6 x7 x8 x9 x10 x11 x12 x13 x14 x15 x16 x17 x18 x19 x20 x21 x22)/\(decide (x0=3)=false->∃(i6:Unit),x1=x1/\q3p x4/\bI (GJ.k x4) (GJ.n x4) x0=false/\q3m x5 x0 x2 x3 x4 x10 x6 x7 x8 x9 x16 x11 x12 x13 x14 x15 x17 x18 x19 x20 x21 x22 True))/\∀(i8:Unit),True->zcc39 x0 x1 x2 x3 x4 x5 x6 x7 x8 x9 x10 x11 x12 x13 x14 x15 x16 x17 x18 x19 x20 x21 x22)/\∀(i15:Unit),True->zcc7 x0 x5 x2 x3 x4 x1 x6 x7 x8 x9 x10 x11 x12 x13 x14 x15 x16 x17 x18 x19 x20 x21 x22 x23
 abbrev zcc5:=(bq 2 2 (GJ.k x4) x0=true->zcc53 x1 x2 x3 x4)/\(bq 2 2 (GJ.k x4) x0=false->zcc6 x0 x5 x2 x3 x4 x1 x6 x7 x8 x9 x10 x11 x12 x13 x14 x15 x16 x17 x18 x19 x20 x21 x22 x23)
 abbrev zcc4:=zcc43 x0 x1 x2 x3 x4 x5 x6 x7 x8 x9 x10 x11 x12 x13 x14 x15 x16 x17 x18 x19 x20 x21 x22 2 2/\∀(i4:Unit),True->zcc5 x0 x5 x2 x3 x4 x1 x6 x7 x8 x9 x10 x11 x12 x13 x14 x15 x16 x17 x18 x19 x20 x21 x22 x23
 abbrev zcc3:=(bq 1 1 (GJ.k x4) x0=true->∃(i0:VlB),qlx (qa4 x1 0 x2 x3 x4 i0) i0)/\(bq 1 1 (GJ.k x4) x0=false->zcc4 x0 x5 x2 x3 x4 x1 x6 x7 x8 x9 x10 x11 x12 x13 x14 x15 x16 x17 x18 x19 x20 x21 x22 x23)
 abbrev zcc2:=(0<=x0/\x0<(↑x2.2.1:Int))/\x2.1≠noA/\∃(i0:Int),∃(i1:ByteArray),∃(i2:Option Addr),∃(i3:Nat),∃(i4:Nat),∃(i5:Int),∃(i6:Option Addr),∃(i7:Nat),∃(i8:Nat),∃(i9:Bool),∃(i10:ByteArray),∃(i11:Int),∃(i12:Option Addr),∃(i13:Nat),∃(i14:Nat),∃(i15:Option Addr),∃(i16:Nat),∃(i17:Nat),(∀(i18:Pub),q3e x2 x3 x4 i18->q02 i18 (adr x2.1 (Int.toNat x0*10)) [Value.int IntKind.i64 i0,Value.string i1,Value.slice i2 i3 i4,Value.int IntKind.i64 i5,Value.slice i6 i7 i8,Value.bool i9,Value.string i10,Value.int IntKind.i64 i11,Value.slice i12 i13 i14,Value.slice i15 i16 i17])/\(qi4 i0 x1 x2 x3 x4 x5 i3 i1 i2 i4 i5 i6 i7 i8 i9 i10 i11 i12 i13 i14 i15 i16 i17 1 1/\∀(i23:Unit),True->zcc3 i0 x5 x2 x3 x4 x1 i3 i1 i2 i4 i5 i6 i7 i8 i9 i10 i11 i12 i13 i14 i15 i16 i17 x6)/\∀(i171:Unit),True->∃(i172:VlB),qlx (qa4 x5 7 x2 x3 x4 i172) i172
 abbrev zcc1:=(decide (2000<x0+1)=true->∃(i0:VlB),qlx (qa4 x0 3 x2 x3 x4 i0) i0)/\(decide (2000<x0+1)=false->zcc2 x1 x5 x2 x3 x4 x0 x6)
 abbrev zcc0:=zcc52 x0/\(decide (20<x1)=true->∃(i0:VlB),qlx (qa4 x0 3 x2 x3 x4 i0) i0)/\(decide (20<x1)=false->zcc1 x0 x5 x2 x3 x4 x1 x6)
end
theorem vl_eqz(n:Nat) (S:List AT) (x:SV) (all t:Int) (g:GJ) (d:Int):q68 P (q0r []) (q1s [(83,cVl.below qfr n),(120,(cVq isPar).below qk6 (n+1)),(121,(cVq isRec).below qk6 (n+1)),(117,qqh),(118,qie),(119,cRaw)]) Try.f83 (cVl.below qfr (n+1)) (wVl) ⟨S,x,all,t,g,d⟩=(qfr (S,x,all,t,g,d)<n+1/\q0j S/\(0<=t/\t<(↑(List.length S):Int))/\GJ.wf g/\(0<=all/\all<=2000)/\1<=d/\d<=21->(∃(p:Pub),q3e x S g p)->zcc0 all d x S g t n):=by kernel_rfl
def vl_eq(n:Nat) (S:List AT) (x:SV) (all t:Int) (g:GJ) (d:Int):=Eq.trans (vl_eqz n S x all t g d) (by delta q3e zcc52 qlx zcc49 qw0 qa4 q3p q3m qi4 zcc43 zcc53 zcc42 zcc36 zcc44 zcc39 zcc47 qh3 zcc45 zcc51 zcc28 zcc37 zcc34 zcc33 zcc48 zcc38 zcc30 zcc46 zcc35 zcc31 zcc26 zcc24 zcc23 zcc22 zcc21 zcc20 zcc19 zcc17 zcc16 zcc15 zcc14 zcc13 zcc12 zcc11 zcc10 zcc9 zcc8 zcc7 zcc6 zcc5 zcc4 zcc3 zcc2 zcc1 zcc0;exact rfl)
theorem q2r{a:AT} {p:Pub} (h:a.ok p):a.al.2.1=a.als.length/\a.sy.2.1=a.sys.length/\a.f.2.1=a.fs.length/\a.br.2.1=a.brs.length:=⟨h.1.1,h.2.1.1,h.2.2.1.1,h.2.2.2.1.1⟩
theorem q8u{g:GJ} {p:Pub} (h:g.ok p):g.y.2.1=g.l.length/\g.x.2.1=g.nm.length:=by rw[GJ.ok_eq]at h;exact⟨h.1.1,h.2.1.1⟩
theorem qbq{g:GJ} {p:Pub} (h:g.ok p) {j:Nat} (hj:j<g.l.length):(g.y.1≠noA/\q02 p (adr g.y.1 (j*5)) g.l[j].cells)/\g.l[j].ok p:=by
 rw[GJ.ok_eq]at h;exact⟨q1m q80 (by decide) h.1 hj,GJ.oks_at h.2.2 hj⟩
theorem gjn_at{g:GJ} {p:Pub} (h:g.ok p) {j:Nat} (hj:j<g.nm.length):g.x.1≠noA/\q02 p (adr g.x.1 (j*1)) [.string g.nm[j]]:=by
 rw[GJ.ok_eq]at h;exact q1m q13 (by decide) h.2.1 hj
theorem q9y:∀{l m:List GV} {p:Pub},GV.oks l p->GV.oks m p->GV.oks (l++m) p:=λh1 h2=>GV.oks_iff.2 λv hv=>(List.mem_append.1 hv).elim (GV.oks_iff.1 h1 v) (GV.oks_iff.1 h2 v)
theorem q52{v:GV} {p:Pub} (h:v.ok p):GV.oks [v] p:=GV.oks_iff.2 λw hw=>by simp at hw;subst hw;exact h
def zV:GV:= .mk 0 (mkS []) (none,0,0) [] (none,0,0) [] 0
theorem q6d(p:Pub):zV.ok p:=by unfold zV GV.ok;exact⟨q0c,q0c,by unfold GV.oks;trivial⟩
theorem qvw(k:ByteArray) (ks:List ByteArray) (l:List PV) (w:PV) (h:ks.length=l.length):(q4r k ks).length=(qgb k ks l w).length/\(qgb k ks l w).length<=l.length+1:=by
 have hi:=kIx_le k ks
 unfold q4r qgb
 split
 ·rw[List.length_set];omega
 ·simp only[List.length_append,List.length_take,List.length_cons,List.length_drop];omega
theorem partA_ok(n:Nat) (hv:q0d P 83 (cVl.below qfr n)):q0d P 120 ((cVq isArr).below qk6 (n+1)):=by
 refine q0v mixed (q05 q06) (q0g (q04 hv (q04 qjt q0q))) (W:=wPa) Try.func120 (by kernel_rfl) (show 1<=2 by decide) (show 2<=2 by decide) (λs=>by kernel_rfl) λ⟨S,(x:SV),(all:Int),a,g,(d:Int)⟩=>(partA_eq n S x all a g d).mpr ?_
 rintro⟨hmu,hS,haS,hk,hg,⟨hal0,hal1⟩,hd1,hd2⟩ ⟨p,_,hx,ha,hgo⟩
 have hmu:2*(25- d).toNat<n+1:=hmu
 have hk:a.k=12:=hk
 obtain⟨gl,gnl⟩:=q8u hgo
 have hgw:=hg
 rw[GJ.wf_eq]at hgw
 obtain⟨_,hgl,_,_,_,_,hgs⟩:=hgw
 have hat:=(hS.2 a haS).2.1 (.inl hk)
 simp only[decide_eq_true_eq,decide_eq_false_iff_not,Bool.not_eq_true',Bool.not_eq_false',true_and,and_true,eq_self,imp_self,implies_true,exists_const,forall_const,Int.toNat_natCast,gl,gnl]
 refine⟨⟨⟨0,all,[]⟩,rfl,rfl,rfl,λq hq=>GV.oks_iff.2 λv h=>(by cases h),Nat.zero_le _,⟨by show all<=all;omega,hal1⟩,rfl⟩,?_⟩
 rintro⟨j,al,fs⟩ ⟨hj,⟨hl0,hl1⟩,hfl⟩ ⟨p1,hp1,hfs1⟩
 simp only at hj hl0 hl1 hfl hfs1⊢
 refine⟨λhlt=>⟨⟨?xa,?xb⟩,?_⟩,λhge=> ?_⟩
 case xa|xb=>
  have hjl:j<g.l.length:=by omega
  have hw:g.l[j].wf:=GJ.wfs_at hgs hjl
  refine⟨⟨by omega,by omega⟩,(qbq hgo hjl).1.1,g.l[j].k,g.l[j].n,g.l[j].s,g.l[j].y.1,g.l[j].y.2.1,g.l[j].y.2.2,g.l[j].x.1,g.l[j].x.2.1,g.l[j].x.2.2,λq hq=>(qbq hq.1.2.2 hjl).1.2,⟨by omega,by omega⟩,⟨S,x,al,a.it,g.l[j],d+1⟩,rfl,rfl,rfl,rfl,rfl,rfl,rfl,rfl,rfl,rfl,rfl,rfl,rfl,rfl,rfl,⟨by show 2*(25- (d+1)).toNat<n;omega,hS,hat,hw,⟨by show 0<=al;omega,hl1⟩,by show 1<=d+1;omega,by show d+1<=21;omega⟩,λq hq=>⟨hq.1.1,(qbq hq.1.2.2 hjl).2⟩,?_⟩
  rintro⟨a2,e,w⟩ hb _
  exact⟨⟨a2,e,w⟩,rfl,rfl,rfl,rfl,rfl,rfl,rfl,rfl,rfl,rfl,rfl,rfl,rfl,rfl,λq hq=>hq.1,λq hq=>hq.2,hb⟩
 ·rintro⟨a2,e,w⟩ hb _
  have hb:al<=a2/\a2<=2001/\(e=0->a2<=2000):=hb
  simp only
  refine⟨λhe=>⟨⟨a2,e,zV⟩,rfl,rfl,rfl,rfl,rfl,rfl,rfl,rfl,rfl,rfl,rfl,⟨by show all<=a2;omega,hb.2⟩,λq hq=>q6d q⟩,λhe=>⟨λ_=>⟨q03 q0y fs,by omega,⟨by omega,by omega⟩,⟨j+1,a2,fs++[w]⟩,by show((j+1:Nat):Int)=_;omega,rfl,by simp,by rw[q0e];rfl,λq hq=>hq.1.1,λq hq=>q9y hq.1.2 (q52 hq.2),⟨by show j+1<=_;omega,⟨by show all<=a2;omega,hb.2.2 he⟩,by show(fs++[w]).length=j+1;simp[hfl]⟩,by show _- (j+1)<_;omega⟩,λh=>absurd hk h⟩⟩
 ·intro a6 c _
  refine⟨⟨al,0, .mk 0 (mkS []) (a6,fs.length,c) fs (none,0,0) [] 0⟩,rfl,rfl,rfl,rfl,rfl,rfl,rfl,rfl,rfl,rfl,rfl,⟨by show all<=al;omega,by show al<=2001;omega,λ_=>hl1⟩,λq hq=> ?_⟩
  have h2:=hq.2.2
  rw[List.take_of_length_le (by rw[q03 q0y];exact Nat.le_refl _)]at h2
  show GV.ok _ q
  unfold GV.ok
  exact⟨⟨rfl,hq.2.1,h2⟩,q0c,hq.1.2⟩
theorem qxj(n:Nat) (hv:q0d P 83 (cVl.below qfr n)):q0d P 120 ((cVq isMap).below qk6 (n+1)):=by
 refine q0v mixed (q05 q06) (q0g (q04 hv (q04 qjt q0q))) (W:=wPm) Try.func120 (by kernel_rfl) (show 1<=2 by decide) (show 2<=2 by decide) (λs=>by kernel_rfl) λ⟨S,(x:SV),(all:Int),a,g,(d:Int)⟩=>(partM_eq n S x all a g d).mpr ?_
 rintro⟨hmu,hS,haS,hk,hg,⟨hal0,hal1⟩,hd1,hd2⟩ ⟨p,_,hx,ha,hgo⟩
 have hmu:2*(25- d).toNat<n+1:=hmu
 obtain⟨hk,hgk⟩:=hk
 obtain⟨gl,gnl⟩:=q8u hgo
 have hgw:=hg
 rw[GJ.wf_eq]at hgw
 obtain⟨_,hgl,_,hnsz,_,hnl,hgs⟩:=hgw
 have hnl:=hnl hgk
 have hat:=(hS.2 a haS).2.1 (.inr hk)
 simp only[decide_eq_true_eq,decide_eq_false_iff_not,Bool.not_eq_true',Bool.not_eq_false',true_and,and_true,eq_self,imp_self,implies_true,exists_const,forall_const,Int.toNat_natCast,gl,gnl]
 refine⟨⟨⟨0,all,zV⟩,rfl,rfl,rfl,rfl,rfl,rfl,rfl,rfl,rfl,rfl,rfl,λq hq=>q6d q,Nat.zero_le _,⟨by show all<=all;omega,hal1⟩,rfl,Nat.zero_le _⟩,?_⟩
 rintro⟨j,al,v⟩ ⟨hj,⟨hl0,hl1⟩,hvk,hvl⟩ ⟨p1,hp1,hv1⟩
 simp only at hj hl0 hl1 hvk hvl hv1⊢
 refine⟨λhlt=>⟨⟨?xa,?xb⟩,?_⟩,λhge=> ?_⟩
 case xa|xb=>
  have hjl:j<g.l.length:=by omega
  have hw:g.l[j].wf:=GJ.wfs_at hgs hjl
  refine⟨⟨by omega,by omega⟩,(qbq hgo hjl).1.1,g.l[j].k,g.l[j].n,g.l[j].s,g.l[j].y.1,g.l[j].y.2.1,g.l[j].y.2.2,g.l[j].x.1,g.l[j].x.2.1,g.l[j].x.2.2,λq hq=>(qbq hq.1.2.2 hjl).1.2,⟨by omega,by omega⟩,⟨S,x,al,a.it,g.l[j],d+1⟩,rfl,rfl,rfl,rfl,rfl,rfl,rfl,rfl,rfl,rfl,rfl,rfl,rfl,rfl,rfl,⟨by show 2*(25- (d+1)).toNat<n;omega,hS,hat,hw,⟨by show 0<=al;omega,hl1⟩,by show 1<=d+1;omega,by show d+1<=21;omega⟩,λq hq=>⟨hq.1.1,(qbq hq.1.2.2 hjl).2⟩,?_⟩
  rintro⟨a2,e,w⟩ hb _
  exact⟨⟨a2,e,w⟩,rfl,rfl,rfl,rfl,rfl,rfl,rfl,rfl,rfl,rfl,rfl,rfl,rfl,rfl,λq hq=>hq.1,λq hq=>hq.2,hb⟩
 ·rintro⟨a2,e,w⟩ hb _
  have hb:al<=a2/\a2<=2001/\(e=0->a2<=2000):=hb
  simp only
  refine⟨λhe=>⟨⟨a2,e,zV⟩,rfl,rfl,rfl,rfl,rfl,rfl,rfl,rfl,rfl,rfl,rfl,⟨by show all<=a2;omega,hb.2⟩,λq hq=>q6d q⟩,λhe=>⟨λh=>by omega,λ_=> ?_⟩⟩
  have hjn:j<g.nm.length:=by omega
  refine⟨⟨by omega,by omega⟩,(gjn_at hgo hjn).1,g.nm[j],λq hq=>(gjn_at hq.1.1.2.2 hjn).2,⟨v,g.nm[j],w⟩,rfl,rfl,rfl,rfl,rfl,rfl,rfl,rfl,rfl,rfl,rfl,rfl,rfl,rfl,rfl,rfl,rfl,rfl,rfl,⟨hvk,by show v.l.length<_;omega⟩,λq hq=>⟨hq.1.2,hq.2⟩,?_⟩
  intro b hb2 _
  have hb2:b.pv=PV.mk v.n v.s (qgb g.nm[j] v.ks (GV.pvs v.l) w.pv) (q4r g.nm[j] v.ks) v.b:=hb2
  rw[GV.pv_eq]at hb2
  injection hb2 with _ _ e1 e2 _
  have hpl:=qvw g.nm[j] v.ks (GV.pvs v.l) w.pv (by rw[GV.pvs_len];exact hvk)
  rw[←e1,←e2,GV.pvs_len,GV.pvs_len]at hpl
  exact⟨⟨by omega,by omega⟩,⟨j+1,a2,b⟩,by show((j+1:Nat):Int)=_;omega,rfl,rfl,rfl,rfl,rfl,rfl,rfl,rfl,rfl,rfl,λq hq=>hq.1.1.1,λq hq=>hq.2,⟨by show j+1<=_;omega,⟨by show all<=a2;omega,hb.2.2 he⟩,hpl.1,by show b.l.length<=j+1;omega⟩,by show _- (j+1)<_;omega⟩
 ·exact⟨⟨al,0,v⟩,rfl,rfl,rfl,rfl,rfl,rfl,rfl,rfl,rfl,rfl,rfl,⟨by show all<=al;omega,by show al<=2001;omega,λ_=>hl1⟩,λq hq=>hq.2⟩
theorem recV_ok(n:Nat) (hv:q0d P 83 (cVl.below qfr n)):q0d P 121 ((cVq isRec).below qk6 (n+1)):=by
 refine q0v mixed (q05 (q01 q65 q06)) (q0g (q04 hv q0q)) (W:=wRe) Try.func121 (by kernel_rfl) (show 1<=2 by decide) (show 2<=2 by decide) (λs=>by kernel_rfl) λ⟨S,(x:SV),(all:Int),a,g,(d:Int)⟩=>(recV_eq n S x all a g d).mpr ?_
 rintro⟨hmu,hS,haS,hk,hg,⟨hal0,hal1⟩,hd1,hd2⟩ ⟨p,_,hx,ha,hgo⟩
 have hmu:2*(25- d).toNat<n+1:=hmu
 obtain⟨gl,gnl⟩:=q8u hgo
 obtain⟨_,_,afl,_⟩:=q2r ha
 have hgf:=hS.2 a haS
 have hf30:=hgf.2.2.2.2.2.2.2.1
 have hfg:=hgf.2.2.2.2.1
 simp only[decide_eq_true_eq,decide_eq_false_iff_not,Bool.not_eq_true',Bool.not_eq_false',true_and,and_true,eq_self,imp_self,implies_true,exists_const,forall_const,Int.toNat_natCast,gl,gnl,afl]
 refine⟨⟨⟨0,all,[]⟩,rfl,rfl,rfl,λq hq=>GV.oks_iff.2 λv h=>(by cases h),Nat.zero_le _,⟨by show all<=all;omega,hal1⟩,rfl⟩,?_⟩
 rintro⟨j,al,fs⟩ ⟨hj,⟨hl0,hl1⟩,hfl⟩ ⟨p1,hp1,hfs1⟩
 simp only at hj hl0 hl1 hfl hfs1⊢
 refine⟨λhlt=> ?_,λhge=> ?_⟩
 ·have hjf:j<a.fs.length:=by omega
  have hff:=hfg _ (List.getElem_mem hjf)
  have fok:=λq (h:a.ok q)=>h.2.2.2.2 a.fs[j] (List.getElem_mem hjf)
  generalize hfj:a.fs[j]=f at*
  have fat:=λq (h:a.ok q)=>(show a.f.1≠noA/\q02 q (adr a.f.1 (j*9)) f.cells by rw[←hfj];exact q5n h hjf)
  obtain⟨cw,cok⟩:=q2j f.nm hg
  refine⟨⟨by omega,by omega⟩,(fat p ha).1,f.nm,f.al.1,f.al.2.1,f.al.2.2,f.ty,f.hd,f.df.k,f.df.n,f.df.s,f.df.y.1,f.df.y.2.1,f.df.y.2.2,f.df.x.1,f.df.x.2.1,f.df.x.2.2,λq hq=>(fat q hq.1.2.1).2,⟨g,f.nm⟩,rfl,rfl,rfl,rfl,gl,rfl,rfl,gnl,rfl,rfl,hg,λq hq=>hq.1.2.2,?_⟩
  simp only
  generalize (q0z f.nm g).getD zJ=cj at*
  refine⟨⟨λhno=>⟨λ_=>⟨⟨al,7,zV⟩,rfl,rfl,rfl,rfl,rfl,rfl,rfl,rfl,rfl,rfl,rfl,⟨by show all<=al;omega,by show al<=2001;omega,λ_=>hl1⟩,λq hq=>q6d q⟩,λ_=>⟨f.df,rfl,rfl,rfl,rfl,rfl,rfl,rfl,rfl,rfl,λq hq=>(fok q hq.1.2.1).2,hff.2⟩⟩,λhyes=>⟨cj,rfl,rfl,rfl,rfl,rfl,rfl,rfl,rfl,rfl,λq hq=>cok q hq.1.2.2,cw⟩⟩,?_⟩
  intro c hcw _
  refine⟨⟨by omega,by omega⟩,⟨S,x,al,f.ty,c,d+1⟩,rfl,rfl,rfl,rfl,rfl,rfl,rfl,rfl,rfl,rfl,rfl,rfl,rfl,rfl,rfl,⟨by show 2*(25- (d+1)).toNat<n;omega,hS,hff.1,hcw,⟨by show 0<=al;omega,hl1⟩,by show 1<=d+1;omega,by show d+1<=21;omega⟩,λq hq=>⟨hq.1.1.1,hq.2⟩,?_⟩
  rintro⟨a2,e,w⟩ hb _
  have hb:al<=a2/\a2<=2001/\(e=0->a2<=2000):=hb
  simp only[true_and]
  refine⟨λhe=>⟨⟨a2,e,zV⟩,rfl,rfl,rfl,rfl,rfl,rfl,rfl,rfl,rfl,rfl,rfl,⟨by show all<=a2;omega,hb.2⟩,λq hq=>q6d q⟩,λhe=>⟨q03 q0y fs,by omega,⟨by omega,by omega⟩,⟨j+1,a2,fs++[w]⟩,by show((j+1:Nat):Int)=_;omega,rfl,by simp,by rw[q0e];rfl,λq hq=>hq.1.1.1,λq hq=>q9y hq.1.1.2 (q52 hq.2),⟨by show j+1<=_;omega,⟨by show all<=a2;omega,hb.2.2 he⟩,by show(fs++[w]).length=j+1;simp[hfl]⟩,by show _- (j+1)<_;omega⟩⟩
 ·intro a6 c _
  refine⟨⟨al,0, .mk 0 (mkS []) (a6,fs.length,c) fs (none,0,0) [] 0⟩,rfl,rfl,rfl,rfl,rfl,rfl,rfl,rfl,rfl,rfl,rfl,⟨by show all<=al;omega,by show al<=2001;omega,λ_=>hl1⟩,λq hq=> ?_⟩
  have h2:=hq.2.2
  rw[List.take_of_length_le (by rw[q03 q0y];exact Nat.le_refl _)]at h2
  show GV.ok _ q
  unfold GV.ok
  exact⟨⟨rfl,hq.2.1,h2⟩,q0c,hq.1.2⟩
theorem qmk(n:Nat) (hv:q0d P 83 (cVl.below qfr n)):q0d P 120 ((cVq isPar).below qk6 (n+1)):=by
 have hA:=partA_ok n hv
 have hM:=qxj n hv
 refine⟨hA.1,hA.2.1,hA.2.2.1,λs=> ?_⟩
 obtain⟨h0,e0,rA⟩:=hA.2.2.2 s
 obtain⟨h1,e1,rM⟩:=hM.2.2.2 s
 have e:h1=h0:=Option.some.inj (e1.symm.trans e0)
 subst e
 refine⟨h1,e0,λF I w vs a1 a2 a3 a4 hp a5 a6 a7=> ?_⟩
 obtain⟨m,p1,p2,p3,p4⟩:=hp
 rcases p3 with h|h
 ·exact rA F I w vs a1 a2 a3 a4 ⟨m,p1,p2,h,p4⟩ a5 a6 a7
 ·exact rM F I w vs a1 a2 a3 a4 ⟨m,p1,p2,h,p4⟩ a5 a6 a7
theorem vl_ok(n:Nat) (hv:q0d P 83 (cVl.below qfr n)):q0d P 83 (cVl.below qfr (n+1)):=by
 refine q0v mixed (q05 q06) (q0g (q04 hv (q04 (qmk n hv) (q04 (recV_ok n hv) (q04 float_ok (q04 qrv (q04 raw_ok q0q))))))) (W:=wVl) Try.func83 (by kernel_rfl) (show 1<=2 by decide) (show 2<=2 by decide) (λs=>by kernel_rfl) λ⟨S,(x:SV),(all:Int),(t:Int),g,(d:Int)⟩=>(vl_eq n S x all t g d).mpr ?_
 rintro⟨hmu,hS,⟨ht0,ht1⟩,hg,⟨hal0,hal1⟩,hd1,hd2⟩ ⟨p,_,hx,hgo⟩
 have hmu:2*(25- d).toNat<n+1:=hmu
 obtain⟨gl,gnl⟩:=q8u hgo
 obtain⟨j,rfl⟩:=Int.eq_ofNat_of_zero_le ht0
 have hj:j<S.length:=by omega
 have sl:x.2.1=S.length:=hx.1.1
 have hat:=λq (hq:q0l S x q/\g.ok q)=>q5r hq.1 hj
 have hao:=λq (hq:q0l S x q/\g.ok q)=>hq.1.2 S[j] (List.getElem_mem hj)
 have hgd:=hS.2 S[j] (List.getElem_mem hj)
 simp only[decide_eq_true_eq,decide_eq_false_iff_not,Bool.not_eq_true',Bool.not_eq_false',true_and,and_true,eq_self,imp_self,implies_true,exists_const,forall_const,Int.toNat_natCast,sl]
 refine⟨⟨by omega,by omega⟩,λh20=>⟨⟨all+1,3,zV⟩,rfl,rfl,rfl,rfl,rfl,rfl,rfl,rfl,rfl,rfl,rfl,⟨by show all<=all+1;omega,by show all+1<=2001;omega,λh=>(by have h:(3:Int)=0:=h;omega)⟩,λq hq=>q6d q⟩,λh20=>⟨λh2=>⟨⟨all+1,3,zV⟩,rfl,rfl,rfl,rfl,rfl,rfl,rfl,rfl,rfl,rfl,rfl,⟨by show all<=all+1;omega,by show all+1<=2001;omega,λh=>(by have h:(3:Int)=0:=h;omega)⟩,λq hq=>q6d q⟩,λh2=> ?_⟩⟩
 refine⟨⟨by omega,by omega⟩,(hat p ⟨hx,hgo⟩).1,S[j].k,S[j].nm,S[j].al.1,S[j].al.2.1,S[j].al.2.2,S[j].it,S[j].sy.1,S[j].sy.2.1,S[j].sy.2.2,S[j].hd,S[j].df,S[j].sz,S[j].f.1,S[j].f.2.1,S[j].f.2.2,S[j].br.1,S[j].br.2.1,S[j].br.2.2,λq hq=>(hat q hq).2,?_⟩
 have hmem:=List.getElem_mem hj
 obtain⟨_,syl,_,brl⟩:=q2r (hao p ⟨hx,hgo⟩)
 generalize S[j]=a at*
 simp only[syl,brl]
 have ret:∀(nn:Int) (ss:ByteArray) (ee:Int),∃b:VlB,b.snd.snd.n=nn/\b.snd.snd.s=ss/\b.snd.snd.x.fst=noA/\b.snd.snd.x.snd.fst=0/\b.snd.snd.x.snd.snd=0/\b.snd.snd.y.fst=noA/\b.snd.snd.y.snd.fst=0/\b.snd.snd.y.snd.snd=0/\b.snd.snd.b=0/\b.snd.fst=ee/\b.fst=all+1/\q1a all b/\∀(p:Nat->Option Obj),q0l S x p/\g.ok p->b.snd.snd.ok p:=λnn ss ee=>⟨⟨all+1,ee, .mk nn ss (none,0,0) [] (none,0,0) [] 0⟩,rfl,rfl,rfl,rfl,rfl,rfl,rfl,rfl,rfl,rfl,rfl,⟨by show all<=all+1;omega,by show all+1<=2001;omega,λ_=>by show all+1<=2000;omega⟩,λq _=>by show GV.ok _ q;unfold GV.ok;exact⟨q0c,q0c,by unfold GV.oks;trivial⟩⟩
 have q1:∀{k b gk:Int},a.k=k->bq k b gk a.k=decide (gk=b):=λ{k b gk} h=>by unfold bq;rw[decide_eq_true h];rfl
 have q0:∀{k b gk:Int},¬a.k=k->bq k b gk a.k=false:=λ{k b gk} h=>by unfold bq;rw[decide_eq_false h];rfl
 have qk:∀{k b:Int},bq k b g.k a.k=true->a.k=k/\g.k=b:=λ{k b} h=>by
  unfold bq at h;rw[Bool.and_eq_true,decide_eq_true_eq,decide_eq_true_eq]at h;exact h
 have gn:=hg
 rw[GJ.wf_eq]at gn
 obtain⟨gsz,_,_,_,⟨gn0,gn1⟩,_,_⟩:=gn
 refine⟨⟨⟨λh=>q1 h,λh=>q0 h⟩,λ_=>ret _ _ _,λ_=>⟨⟨λh=>q1 h,λh=>q0 h⟩,λ_=>ret _ _ _,λ_=>⟨⟨⟨λh=>⟨λh2=>⟨λh3=> ?_,λh3=> ?_⟩,λh2=> ?_⟩,λh=> ?_⟩,λh=> ?_,λh=>⟨λh2=> ?_,λh2=> ?_⟩⟩,λ_=>ret _ _ _,λ_=>⟨⟨λh=>q1 h,λh=>q0 h⟩,λ_=>⟨g.n,rfl,⟨gn0,gn1⟩,λb hb=>⟨⟨by omega,by omega⟩,ret _ _ _⟩⟩,λ_=>⟨⟨λh=>q1 h,λh=>q0 h⟩,λ_=>⟨g.n,rfl,⟨gn0,gn1⟩,λb hb=>ret _ _ _⟩,λ_=>⟨⟨λh=>q1 h,λh=>q0 h⟩,λ_=>ret _ _ _,λ_=>⟨⟨λh=> ?_,λh=>⟨λh2=> ?_,λh2=> ?_⟩⟩,λ_=>⟨g.s,rfl,by omega,λb hb=>⟨⟨λ_=>⟨λ_=>⟨_,rfl⟩,λ_=>⟨_,rfl⟩⟩,λ_=>⟨_,rfl⟩⟩,λs hs=>ret _ _ _⟩⟩,λ_=>⟨⟨λh=>q1 h,λh=>q0 h⟩,λhE=>⟨⟨0,rfl⟩,λi hi=> ?_⟩,λ_=>⟨⟨⟨λh=>q1 h,λh=>q0 h⟩,λh=> ?_,λh=>⟨λh2=> ?_,λh2=> ?_⟩⟩,λhP=> ?_,λ_=>⟨⟨λh=>q1 h,λh=>q0 h⟩,λhR=> ?_,λ_ h14=>⟨⟨?xa,?xb⟩,?_⟩⟩⟩⟩⟩⟩⟩⟩⟩⟩⟩,ret _ _ _⟩
 ·unfold bI;rw[decide_eq_true h,decide_eq_true h2,decide_eq_true h3];rfl
 ·unfold bI;rw[decide_eq_true h,decide_eq_true h2,decide_eq_false h3];rfl
 ·unfold bI;rw[decide_eq_true h,decide_eq_false h2];rfl
 ·unfold bI;rw[decide_eq_false h];rfl
 ·unfold bN;rw[h];rfl
 ·unfold bN;rw[h,Bool.false_or];exact q1 h2
 ·unfold bN;rw[h,Bool.false_or];exact q0 h2
 ·unfold bT;rw[decide_eq_true h,Bool.true_or,Bool.true_and]
 ·unfold bT;rw[decide_eq_true h2,Bool.or_true,Bool.true_and]
 ·unfold bT;rw[decide_eq_false h,decide_eq_false h2];rfl
 ·have hi':i<a.sys.length:=by omega
  have ty:=λq (hq:q0l S x q/\g.ok q)=>qa8 (hao q hq).2.1 hi'
  have h30:=hgd.2.2.2.2.2.2.2.2.2
  exact⟨⟨by omega,by omega⟩,(ty p ⟨hx,hgo⟩).1,a.sys[i],λq hq=>(ty q hq).2,λ_=>ret _ _ _,λ_=>⟨⟨by omega,by omega⟩,i+1,by omega,by omega⟩⟩
 ·unfold bP;rw[h];rfl
 ·unfold bP;rw[h,Bool.false_or];exact q1 h2
 ·unfold bP;rw[h,Bool.false_or];exact q0 h2
 ·have hpar:isPar a g:=by
   unfold bP at hP
   rw[Bool.or_eq_true]at hP
   rcases hP with h|h
   ·exact .inl (qk h).1
   ·exact .inr (qk h)
  refine⟨⟨S,x,all+1,a,g,d⟩,rfl,rfl,rfl,rfl,rfl,rfl,rfl,syl,rfl,rfl,rfl,rfl,rfl,rfl,rfl,rfl,brl,rfl,rfl,rfl,rfl,rfl,rfl,rfl,rfl,rfl,rfl,rfl,rfl,sl,rfl,rfl,⟨hmu,hS,hmem,hpar,hg,⟨by show 0<=all+1;omega,by show all+1<=2000;omega⟩,hd1,by show d<=20;omega⟩,λq hq=>⟨hq.1,hao q hq,hq.2⟩,?_⟩
  rintro⟨a2,e,w⟩ hb _
  have hb:all+1<=a2/\a2<=2001/\(e=0->a2<=2000):=hb
  exact⟨⟨a2,e,w⟩,rfl,rfl,rfl,rfl,rfl,rfl,rfl,rfl,rfl,rfl,rfl,sl.symm,rfl,rfl,⟨by show all<=a2;omega,hb.2⟩,λq hq=>hq.2⟩
 ·have hrec:isRec a g:=(qk hR).1
  refine⟨⟨S,x,all+1,a,g,d⟩,rfl,rfl,rfl,rfl,rfl,rfl,rfl,syl,rfl,rfl,rfl,rfl,rfl,rfl,rfl,rfl,brl,rfl,rfl,rfl,rfl,rfl,rfl,rfl,rfl,rfl,rfl,rfl,rfl,sl,rfl,rfl,⟨hmu,hS,hmem,hrec,hg,⟨by show 0<=all+1;omega,by show all+1<=2000;omega⟩,hd1,by show d<=20;omega⟩,λq hq=>⟨hq.1,hao q hq,hq.2⟩,?_⟩
  rintro⟨a2,e,w⟩ hb _
  have hb:all+1<=a2/\a2<=2001/\(e=0->a2<=2000):=hb
  exact⟨⟨a2,e,w⟩,rfl,rfl,rfl,rfl,rfl,rfl,rfl,rfl,rfl,rfl,rfl,sl.symm,rfl,rfl,⟨by show all<=a2;omega,hb.2⟩,λq hq=>hq.2⟩
 case xa|xb=>
  have h0:0<a.brs.length:=List.length_pos_iff.2 (hgd.2.2.2.1 h14)
  have hbr:=hgd.2.2.1 _ (List.getElem_mem h0)
  refine⟨⟨by omega,by omega⟩,(q4b (hao p ⟨hx,hgo⟩) h0).1,a.brs[0],λq hq=>(q4b (hao q hq) h0).2,⟨by omega,by omega⟩,⟨S,x,all+1,a.brs[0],g,d+1⟩,rfl,rfl,rfl,rfl,rfl,rfl,rfl,rfl,rfl,rfl,rfl,rfl,sl,rfl,rfl,⟨by show 2*(25- (d+1)).toNat<n;omega,hS,hbr,hg,⟨by show 0<=all+1;omega,by show all+1<=2000;omega⟩,by show 1<=d+1;omega,by show d+1<=21;omega⟩,λq hq=>hq,?_⟩
  rintro⟨a2,e,w⟩ hb _
  have hb:all+1<=a2/\a2<=2001/\(e=0->a2<=2000):=hb
  exact⟨⟨a2,e,w⟩,rfl,rfl,sl.symm,rfl,rfl,rfl,rfl,rfl,rfl,rfl,rfl,rfl,rfl,rfl,λq hq=>hq.1,λq hq=>hq.2,⟨by show all<=a2;omega,hb.2⟩⟩
 ·rintro⟨a2,e,w⟩ hb _ b s1 _
  refine⟨⟨a2,e, .mk 0 (mkS []) (some ⟨b,s1+0,none⟩,1,1) [w] (none,0,0) [] 0⟩,rfl,rfl,rfl,rfl,rfl,rfl,rfl,rfl,rfl,rfl,rfl,hb,λq hq=> ?_⟩
  show GV.ok _ q
  unfold GV.ok
  refine⟨⟨rfl,Nat.le_refl _, .inr ⟨⟨b,s1+0,none⟩,rfl,rfl,λi v hi=> ?_⟩⟩,q0c,q52 hq.1.2⟩
  rw[q00,q00,List.append_nil]at hi
  exact hq.2 i v hi
theorem vl_all:∀n,q0d P 83 (cVl.below qfr n)
 |0=>CtR.below_zero (by decide) (by decide) (Sen.enters_of Try.func83 (by kernel_rfl)) λs=>rfl
 |n+1=>vl_ok n (vl_all n)
theorem vl_fin:q0d P 83 cVl:=CtR.of_below vl_all
def cIsT:Ct:=ctP (SV×Int) (λ⟨x,t⟩=>[scA x, .sv (.int .i64 t)]) (λ_=>True) (λ_=>{}) λ⟨x,t⟩=> .sv (.bool (decide (0<=t)&&decide (t<(x.2.1:Int))))
def q4m(S:List AT):Prop:=∀a∈S,1<=a.k/\a.k<=14
def okQ(a:AT) (n:Nat) (ks:List ByteArray) (b:Int):Bool:=if a.k=9 then decide (n=a.fs.length)else if a.k=14 then decide (0<=b/\b<a.brs.length/\n=1)else if a.k=13 then decide (n=ks.length)&&q31 ks else true
def inF(S:List AT) (a:AT) (v:GV):Bool:=okQ a v.l.length v.ks v.b&&PV.fitL S (q2p a v.b) 0 (GV.pvs v.l)
def nB(k:Int):Bool:=decide (k=2\/k=3\/k=4\/k=5\/k=6\/k=10)
def q26(S:List AT) (a:AT) (v:GV):Bool:=if a.k=1 then true else if isN a.k=true then okN a v.n else if isT a.k=true then okT a v.s else inF S a v
def q98:Ct:=ctP FtS (λ⟨S,x,t,v⟩=>[scA x, .sv (.int .i64 t),v.av]) (λ⟨S,x,t,v⟩=>small S/\q4m S/\v.pv.sm) (λ⟨S,x,t,v⟩=>svM S x v) λ⟨S,x,t,v⟩=> .sv (.bool (PV.fits S t v.pv))
def qiz:Ct:=ctP FpS (λ⟨S,x,a,v⟩=>[scA x,a.av,v.av]) (λ⟨S,x,a,v⟩=>small S/\q4m S/\a.fs.length<1000000/\v.pv.sm/\isQ a.k=true) (λ⟨S,x,a,v⟩=>savM S x a v) λ⟨S,x,a,v⟩=> .sv (.bool (inF S a v))
def zA:AT:=⟨0,mkS [],(none,0,0),[],0,(none,0,0),[],false,mkS [],0,(none,0,0),[],(none,0,0),[]⟩
def atS(S:List AT) (t:Int):AT:=(S[t.toNat]?).getD zA
def b46(k:Int):Bool:=decide (k=4)||decide (k=6)
def qmh(a:AT) (v:GV):Bool:=(decide (a.k≠13)&&decide (0<v.ks.length))|| (decide (a.k≠14)&&decide (v.b≠0))
def wFitsR:FtS->WayF:=λ⟨S,x,t,v⟩=>{
 cut:=λi _ _=>match i with
  |14=>some {σ:=Unit,t:=λ_=>[(46, .sv (.bool (decide ((atS S t).k=4))))],h:=λ_=>[],more:=0,μ:=λ_=>0,keep:=[3,5,6,7,8,9,10,11,22]}
  |15=>some {σ:=Unit,t:=λ_=>[(46, .sv (.bool (b46 (atS S t).k)))],h:=λ_=>[],more:=0,μ:=λ_=>0,keep:=[3,5,6,7,8,9,10,11,22]}
  |26=>some {σ:=Unit,t:=λ_=>[(8, .sv (.bool (nB (atS S t).k))),(9, .sv (.bool (isT (atS S t).k))),(10, .sv (.bool (isQ (atS S t).k))),(11, .sv (.bool (q26 S (atS S t) v)))],h:=λ_=>[],more:=0,μ:=λ_=>0,keep:=[3,5,6,7]}
  |27=>some {σ:=Unit,t:=λ_=>[(96, .sv (.bool (qmh (atS S t) v)))],h:=λ_=>[],more:=0,μ:=λ_=>0,keep:=[3,5,6,7,8,9,10,11]}
  |_=>none}
def wInner:FpS->WayF:=λ⟨S,x,a,v⟩=>{
  ann:=λid _ _=>match id with
    |1=>some {σ:=Nat,pre:=λj=>j<=v.ks.length/\q31 v.ks=(if j=0 then q31 v.ks else q31 (v.ks.drop (j- 1)))/\(∀(h:0<j) (h2:j<=v.ks.length),vld v.ks[j- 1]=true),t:=λj=>[(7, .sv (.int .i64 (j:Int)))],h:=λ_=>[],more:=0,μ:=λj=>v.ks.length- j,keep:=[3,4,5,6]}
    |_=>some {σ:=Nat,pre:=λj=>j<=v.l.length/\PV.fitL S (q2p a v.b) j ((GV.pvs v.l).drop j)=PV.fitL S (q2p a v.b) 0 (GV.pvs v.l),t:=λj=>[(8, .sv (.int .i64 (j:Int)))],h:=λ_=>[],more:=0,μ:=λj=>v.l.length- j,keep:=[3,4,5,6]}
  cut :=λi t _=>match i with
    |15=>some {σ:=Unit,pre:=λ_=>a.k≠14/\okQ a v.l.length v.ks v.b=true,t:=λ_=>[],h:=λ_=>[],more:=0,μ:=λ_=>0,keep:=[3,4,5,6]}
    | 21=>match slI t 8 with
      |some i=>some {σ:=Unit,t:=λ_=>[(9, .sv (.int .i64 (q2p a v.b i.toNat)))],h:=λ_=>[],more:=0,μ:=λ_=>0,keep:=[3,4,5,6,8]}
      |none=>none
    |_=>none}
def muFr:FtS->Nat:=λ⟨S,x,t,v⟩=>SizeOf.sizeOf v
def muIn:FpS->Nat:=λ⟨S,x,a,v⟩=>SizeOf.sizeOf v
end
end Go.Proofs.Ytpanaicglidfjaa.Wd
